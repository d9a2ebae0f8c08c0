/-
  JKP: a jury with other points of a mark; waits, After.
-/
import Derived.Test.YtffnlimgjnhmpaaJKM
import Derived.Test.YtffnlimgjnhmpaaJKH
namespace Go.Proofs.Ytffnlimgjnhmpaa
open Go.RowKit

theorem set_pt {l : List Int} {k : Nat} {x : Int} (h : ∀ y, y ∈ l → -1 ≤ y ∧ y ≤ 20) (hx : -1 ≤ x ∧ x ≤ 20) : ∀ y, y ∈ l.set k x → -1 ≤ y ∧ y ≤ 20 := by
  intro y hy
  rcases List.mem_or_eq_of_mem_set hy with h1 | h1
  · exact h y h1
  · rw [h1]; exact hx
theorem withP_good {S : JB} (h : GoodS S) (q k : Nat) {x : Int} (hx : -1 ≤ x ∧ x ≤ 20) : GoodS (withP S q k x) := by
  refine ⟨h.J1, h.J5, h.D0, h.DJ, h.Z0, h.Z6, h.np, h.sz, fun i hi => ?_, fun i hi y hy => ?_⟩
  · show (((if i = q then (S.pts i).set k x else S.pts i).length : Nat) : Int) = S.J
    have := h.len i hi
    split <;> simp [this]
  · change y ∈ (if i = q then (S.pts i).set k x else S.pts i) at hy
    split at hy
    · exact set_pt (h.pt i hi) hx y hy
    · exact h.pt i hi y hy

set_option maxHeartbeats 6400000 in
set_option maxRecDepth 100000 in
theorem kwith_any (N : Nat) (v : Value) (S : JB) (q k : Nat) (x : Int) (w : World) (h : ShowAt N w v S) (hR : RdJ S) (hq : q < S.np) (hk : k < (S.pts q).length) :
    Calls Try.prog 87 #[v, .agg #[.int .i64 q, .int .i64 k], .int .i64 x] w fun e w' => ∃ v', e = .returned v' ∧ ShowAt w'.heap.size w' v' (withP S q k x) ∧ Below w.heap.size w w' := by
  obtain ⟨a1, c1, rfl⟩ := h.form
  obtain ⟨wv, hwv, HBv, hszv, hszv1, hblk, hblk1⟩ := box2 w (.cells #[.int .i64 S.J, .int .i64 S.D, .int .i64 S.Z, .slice a1 S.np c1] 74) (.cells #[.int .i64 q, .int .i64 k] 46)
  obtain ⟨ws, hws, HBs, hszs, hblks⟩ := box1 wv (.cells #[.int .i64 0, .int .i64 0, .int .i64 0, .slice none 0 0] 74)
  have HB : Hid (Below w.heap.size w ws) := HBv.out.trans (HBs.out.mono HBv.out.size)
  have hz0 := (HBs.out.block _ hszv).trans hblk
  have hz1 := (HBs.out.block _ hszv1).trans hblk1
  have q0 := cell_blk hz0 0 rfl
  have q1 := cell_blk hz0 1 rfl
  have q2 := cell_blk hz0 2 rfl
  have q3 := cell_blk hz0 3 rfl
  have f3 := free_blk hz0 3
  have m0 := cell_blk hz1 0 rfl
  have m1 := cell_blk hz1 1 rfl
  have HZ0 := Lib.hid hz0
  have HZ1 := Lib.hid hz1
  have HZ2 := Lib.hid hblks
  have HNZ : Hid (N ≤ w.heap.size) := h.1
  have HBK := Lib.hid (h.go HB.out)
  have hvs : wv.heap.size = w.heap.size + 2 := by rw [← hwv]; simp
  have hss : ws.heap.size = w.heap.size + 3 := by rw [← hws]; simp; omega
  have HVS := Lib.hid hvs
  have HSS := Lib.hid hss
  obtain ⟨A, C, hcap, _, hrows, hcells⟩ := HBK.out.plates.open
  have HRW := Lib.hid hrows
  have HCL := Lib.hid hcells
  have HNP : Hid (S.np ≤ 1000) := by have := hR.rd.np; unfold Hid; omega
  have HL := Lib.hid (fun i hi => (hR.rd.len i hi).2)
  have hsz0 : w.heap.size < ws.heap.size := by omega
  have hsz1 : w.heap.size + 1 < ws.heap.size := by omega
  have hNS : N ≤ ws.heap.size := HBK.out.1
  clear hz0 hz1 hblk hblk1 hblks h hR hrows hcells hvs hss hszv hszv1 hszs
  go_enter Try.func87, Try.ntmps87
  go_upto_region 1 with fail
  clear hwv
  go_upto_region 2 with (go_at_call 97; refine (kcloneP_any N _ S.np _ S.sz (fun i => .slice (A i) (S.pts i).length (C i)) _ hNS HNP.out HCL.out).mono ?_; rintro e w1 ⟨v1, rfl, hp1, hb1⟩; obtain ⟨a2, c2, rfl⟩ := hp1.form; have HP1 := Lib.hid hp1; have HB1 : Hid (Below ws.heap.size ws w1) := hb1; have hx := (hb1.block _ hsz0).trans HZ0.out; have HX := Lib.hid hx; have x3 := cell_blk hx 3 rfl; have xf3 := free_blk hx 3; clear hp1 hb1 hx)
  clear hws
  obtain ⟨w2, hw2, hz2, ho2, hb2⟩ := set_step (n := w.heap.size) (W0 := w1) HX.out (fun _ _ => rfl) 3 (.slice a2 S.np c2) (Nat.le_refl _)
  rw [hw2]
  have HP2 : Hid (PK ws.heap.size w2 (.slice a2 S.np c2) S.np S.sz (fun i => .slice (A i) (S.pts i).length (C i))) := HP1.out.keep fun g _ h1 _ => ho2 g (by omega)
  have HJ2 : Hid (w2.heap[w.heap.size]? = some (.cells #[.int .i64 S.J, .int .i64 S.D, .int .i64 S.Z, .slice a2 S.np c2] 74)) := hz2
  have HM2 : Hid (w2.heap[w.heap.size + 1]? = some (.cells #[.int .i64 q, .int .i64 k] 46)) := (ho2 _ (by omega)).trans ((HB1.out.block _ hsz1).trans HZ1.out)
  have HR2 : Hid (w2.heap[wv.heap.size]? = some (.cells #[.int .i64 0, .int .i64 0, .int .i64 0, .slice none 0 0] 74)) :=
    (ho2 _ (by have := HVS.out; omega)).trans ((HB1.out.block _ (by have := HSS.out; have := HVS.out; omega)).trans HZ2.out)
  have HB2 : Hid (Below w.heap.size w w2) := HB.out.trans ((HB1.out.mono HB.out.size).trans hb2)
  have HBsw : Hid (Below w.heap.size ws w2) := (HB1.out.mono HB.out.size).trans hb2
  have hs2 : ws.heap.size ≤ w2.heap.size := Nat.le_trans HB1.out.size hb2.size
  have j3 := cell_blk hz2 3 rfl
  have n0 := cell_blk HM2.out 0 rfl
  have n1 := cell_blk HM2.out 1 rfl
  obtain ⟨g, rfl, _, _, hgl, hgs, hgc, hgf, cur, hcur⟩ := HP2.out.at (by omega)
  have gq := (hgc q hq).2
  have gf := hgf (q * 2 + 1)
  have HGH := Lib.hid hcur
  obtain ⟨l, hl⟩ : ∃ l, S.pts q = l := ⟨_, rfl⟩
  have HPL := Lib.hid hl
  have hlC := HRW.out q hq
  rw [hl] at gq hk hlC
  obtain ⟨n, hn⟩ : ∃ n, l.length = n := ⟨_, rfl⟩
  have HLN := Lib.hid hn
  rw [hn] at gq hk hlC
  have HLI : Hid (LI N w2 (.slice (A q) n (C q)) l) := hlC.2.mono (by
    have h1 := HB1.out.mono hNS
    exact h1.trans (hb2.mono HNZ.out)) (Nat.le_refl _)
  have hn40 : n ≤ 40 := by have := HL.out q hq; rw [hl, hn] at this; exact this
  have hqi : (q : Int) < (S.np : Int) := by omega
  have hki : (k : Int) < (n : Int) := by omega
  clear hw2 hz2 ho2 hb2 hgc hgf hcur hl hn hlC x3 xf3 q0 q1 q2 q3 f3 m0 m1 HP1
  go_upto_region 4 with (go_at_call 95; refine (kcloneI_any N _ l _ HLI.out (by omega) (by have := HLN.out; omega)).mono ?_; rintro e w3 ⟨v3, rfl, hr3, hb3⟩; obtain ⟨a4, c4, rfl⟩ := hr3.form; rw [HLN.out] at hr3 ⊢; have HR3 := Lib.hid hr3; have HB3 : Hid (Below w2.heap.size w2 w3) := hb3; have gq3 := (hb3.cell (p := ⟨g, q * 2 + 1, none⟩) hgs).trans gq; have gf3 := (hb3.frozen (p := ⟨g, q * 2 + 1, none⟩) hgs).trans gf; clear hr3 hb3)
  obtain ⟨w4, hw4⟩ : ∃ w4, w3.setCell ⟨g, q * 2 + 1, none⟩ (.slice a4 n c4) = w4 := ⟨_, rfl⟩
  rw [hw4]
  have HP4 : Hid (PK ws.heap.size w4 (.slice (some ⟨g, 0, none⟩) S.np c2) S.np S.sz (fun j => if j = q then .slice a4 n c4 else .slice (A j) (S.pts j).length (C j))) := by
    rw [← hw4]; exact (HP2.out.keep fun _ _ _ h => HB3.out.block _ h).setRow hq _
  have ho4 : ∀ b, b ≠ g → w4.heap[b]? = w3.heap[b]? := fun b hb => by rw [← hw4]; exact Below.heap_setCell _ _ _ _ (by exact hb)
  have HB4 : Hid (Below g w3 w4) := by rw [← hw4]; exact (Below.refl g w3).setCell (p := ⟨g, q * 2 + 1, none⟩) (Nat.le_refl _) _
  have hG3 := (HB3.out.block g hgs).trans HGH.out
  have HR4 : Hid (RI w2.heap.size w4 (.slice a4 n c4) l) := by
    rcases HR3.out with h0 | ⟨h0, g', cap', cur', ev, k1, k2, k3, k4⟩
    · exact .inl h0
    · exact .inr ⟨h0, g', cap', cur', ev, k1, k2, (ho4 g' (types_ne k3 hG3 (by decide))).trans k3, k4⟩
  obtain ⟨gr, rfl, hq4⟩ := HR4.out.addr (by have := HLN.out; omega)
  clear hq4
  obtain ⟨hgr1, hgr2, hgrc, hgrf, _⟩ := HR4.out.at (by have := HLN.out; omega)
  have rk := hgrc k (by have := HLN.out; omega)
  have rf := hgrf k
  have HGR := Lib.hid (And.intro hgr1 hgr2)
  have HC4 : Hid (∀ b o, b < w2.heap.size → b ≠ g → w4.cell? ⟨b, o, none⟩ = w2.cell? ⟨b, o, none⟩) := fun b o hb hne => (World.cell?_of_block (w := w3) (ho4 b hne)).trans (HB3.out.cell (p := ⟨b, o, none⟩) hb)
  have y1 : w4.cell? ⟨w.heap.size + 1, 1, none⟩ = some (.int .i64 k) := (HC4.out _ _ (by omega) (by omega)).trans n1
  have g4 : w4.cell? ⟨g, q * 2 + 1, none⟩ = some (.slice (some ⟨gr, 0, none⟩) n c4) := by
    obtain ⟨_, e, _, _, _, _, hc4, _⟩ := HP4.out.at (by omega)
    cases e
    have := (hc4 q hq).2
    rw [if_pos rfl] at this
    exact this
  clear hw4 hgrc hgrf gq3 gf3 gq gf j3 n0 n1 ho4 hgr1 hgr2
  refine wp_region_held_drew (S := fun W => W.cell? ⟨g, q * 2 + 1, none⟩ = some (.slice (some ⟨gr, 0, none⟩) n c4) ∧ W.cell? ⟨w.heap.size + 1, 1, none⟩ = some (.int .i64 k)) (by kernel_rfl) ⟨g4, y1⟩ (fun hHeld => ?_)
  have hS0 := And.intro g4 y1
  (refine wpAnyH_take (i := 0) (v := ?_) rfl (by kernel_rfl) (by kernel_rfl) (by kernel_rfl) (fun _ _ _ h => h) (Or.inl ⟨by rfl, ?_⟩) (by assumption) ?_; rotate_left; (focus (intro w hSw; (try dsimp only at hSw); go_simp; (try with_reducible rfl))); (try simp only [List.getElem_toArray, List.getElem_cons_zero, List.getElem_cons_succ, Act.put, List.setIfInBounds_toArray, List.set_cons_zero, List.set_cons_succ])); (refine wpAnyH_take (i := 1) (v := ?_) rfl (by kernel_rfl) (by kernel_rfl) (by kernel_rfl) (fun _ _ _ h => h) (Or.inl ⟨by rfl, ?_⟩) (by assumption) ?_; rotate_left; (focus (intro w hSw; (try dsimp only at hSw); go_simp; (try with_reducible rfl))); (try simp only [List.getElem_toArray, List.getElem_cons_zero, List.getElem_cons_succ, Act.put, List.setIfInBounds_toArray, List.set_cons_zero, List.set_cons_succ])); (refine wpAnyH_take (i := 2) (v := ?_) rfl (by kernel_rfl) (by kernel_rfl) (by kernel_rfl) (fun _ _ _ h => h) (Or.inl ⟨by rfl, ?_⟩) (by assumption) ?_; rotate_left; (focus (intro w hSw; (try dsimp only at hSw); go_simp; (try with_reducible rfl))); (try simp only [List.getElem_toArray, List.getElem_cons_zero, List.getElem_cons_succ, Act.put, List.setIfInBounds_toArray, List.set_cons_zero, List.set_cons_succ])); (refine wpAnyH_take (i := 3) (v := ?_) rfl (by kernel_rfl) (by kernel_rfl) (by kernel_rfl) (fun _ _ _ h => h) (Or.inl ⟨by rfl, ?_⟩) (by assumption) ?_; rotate_left; (focus (intro w hSw; (try dsimp only at hSw); go_simp; (try with_reducible rfl))); (try simp only [List.getElem_toArray, List.getElem_cons_zero, List.getElem_cons_succ, Act.put, List.setIfInBounds_toArray, List.set_cons_zero, List.set_cons_succ])); (refine wpAnyH_take (i := 4) (v := ?_) rfl (by kernel_rfl) (by kernel_rfl) (by kernel_rfl) (fun _ _ _ h => h) (Or.inl ⟨by rfl, ?_⟩) (by assumption) ?_; rotate_left; (focus (intro w hSw; (try dsimp only at hSw); go_simp; (try with_reducible rfl))); (try simp only [List.getElem_toArray, List.getElem_cons_zero, List.getElem_cons_succ, Act.put, List.setIfInBounds_toArray, List.set_cons_zero, List.set_cons_succ])); (refine wpAnyH_take (i := 5) (v := ?_) rfl (by kernel_rfl) (by kernel_rfl) (by kernel_rfl) (fun _ _ _ h => h) (Or.inl ⟨by rfl, ?_⟩) (by assumption) ?_; rotate_left; (focus (intro w hSw; (try dsimp only at hSw); go_simp; (try with_reducible rfl))); (try simp only [List.getElem_toArray, List.getElem_cons_zero, List.getElem_cons_succ, Act.put, List.setIfInBounds_toArray, List.set_cons_zero, List.set_cons_succ])); (refine wpAnyH_take (i := 6) (v := ?_) rfl (by kernel_rfl) (by kernel_rfl) (by kernel_rfl) (fun _ _ _ h => h) (Or.inl ⟨by rfl, ?_⟩) (by assumption) ?_; rotate_left; (focus (intro w hSw; (try dsimp only at hSw); go_simp; (try with_reducible rfl))); (try simp only [List.getElem_toArray, List.getElem_cons_zero, List.getElem_cons_succ, Act.put, List.setIfInBounds_toArray, List.set_cons_zero, List.set_cons_succ])); (refine wpAnyH_take (i := 7) (v := ?_) rfl (by kernel_rfl) (by kernel_rfl) (by kernel_rfl) (fun _ _ _ h => h) (Or.inl ⟨by rfl, ?_⟩) (by assumption) ?_; rotate_left; (focus (intro w hSw; (try dsimp only at hSw); go_simp; (try with_reducible rfl))); (try simp only [List.getElem_toArray, List.getElem_cons_zero, List.getElem_cons_succ, Act.put, List.setIfInBounds_toArray, List.set_cons_zero, List.set_cons_succ]))
  refine wpAnyH_ready (rs := [8]) (by kernel_rfl) (by simp) ?_; refine AllReadyH.cons rfl (fun K hK => ?_) AllReadyH.nil; go_simp
  obtain ⟨w5, hw5⟩ : ∃ w5, (w4.setCell ⟨gr, k, none⟩ (.int .i64 x)).drew = w5 := ⟨_, rfl⟩
  (try rw [hw5])
  have HB5 : Hid (Below gr w4 w5) := by rw [← hw5]; exact ((Below.refl gr w4).setCell (p := ⟨gr, k, none⟩) (Nat.le_refl _) _).drew
  have hggr : g < gr := by have := HGR.out.2; omega
  have hS5 : w5.cell? ⟨g, q * 2 + 1, none⟩ = some (.slice (some ⟨gr, 0, none⟩) n c4) ∧ w5.cell? ⟨w.heap.size + 1, 1, none⟩ = some (.int .i64 k) := ⟨(HB5.out.cell (p := ⟨g, q * 2 + 1, none⟩) hggr).trans g4, (HB5.out.cell (p := ⟨w.heap.size + 1, 1, none⟩) (by show w.heap.size + 1 < gr; omega)).trans y1⟩
  have HR5 : Hid (RI w2.heap.size w5 (.slice (some ⟨gr, 0, none⟩) n c4) (l.set k x)) := by rw [← hw5]; exact (RI.set HR4.out (by have := HLN.out; omega) x).keep fun _ _ _ _ => rfl
  have HP5 : Hid (PK ws.heap.size w5 (.slice (some ⟨g, 0, none⟩) S.np c2) S.np S.sz (fun j => if j = q then .slice (some ⟨gr, 0, none⟩) n c4 else .slice (A j) (S.pts j).length (C j))) := HP4.out.keep fun g' e _ _ => by
    cases e
    exact HB5.out.block g hggr
  clear hw5
  refine hK.out _ _ hS5 (fun hHeld => ?_); clear hK K; (try simp only [List.getElem_toArray, List.getElem_cons_zero, List.getElem_cons_succ, Act.put, List.setIfInBounds_toArray, List.set_cons_zero, List.set_cons_succ])
  refine wpAnyH_done (by kernel_rfl) ?_ _; clear hHeld
  have hlow : ∀ b, b < ws.heap.size → w5.heap[b]? = w2.heap[b]? := fun b hb => (HB5.out.block b (by omega)).trans ((HB4.out.block b (by omega)).trans (HB3.out.block b (by omega)))
  have HLOW := Lib.hid hlow
  have hjz := (hlow _ hsz0).trans HJ2.out
  have hrz := (hlow wv.heap.size (by have := HSS.out; have := HVS.out; omega)).trans HR2.out
  have u0 := cell_blk hjz 0 rfl
  have u1 := cell_blk hjz 1 rfl
  have u2 := cell_blk hjz 2 rfl
  have u3 := cell_blk hjz 3 rfl
  have v0 := cell_blk hrz 0 rfl
  have v1 := cell_blk hrz 1 rfl
  have v2 := cell_blk hrz 2 rfl
  have v3 := cell_blk hrz 3 rfl
  have e0 := free_blk hrz 0
  have e1 := free_blk hrz 1
  have e2 := free_blk hrz 2
  have e3 := free_blk hrz 3
  have HRZ := Lib.hid hrz
  clear hlow hjz hrz hS0 hS5 rk rf g4 y1
  go_wp2_with fail
  obtain ⟨w6, hw6, hz6, ho6, hb6⟩ := put4o HRZ.out (.int .i64 S.J) (.int .i64 S.D) (.int .i64 S.Z) (.slice (some ⟨g, 0, none⟩) S.np c2)
  rw [hw6]
  refine bodyPost_ret (v := .agg #[.int .i64 S.J, .int .i64 S.D, .int .i64 S.Z, .slice (some ⟨g, 0, none⟩) S.np c2]) (resJury rfl rfl hz6) rfl ?_
  have hB5 : Below w.heap.size w2 w5 := ((HB3.out.mono (by omega)).trans (HB4.out.mono (by omega))).trans (HB5.out.mono (by omega))
  have hBf : Below w.heap.size w w6 := HB2.out.trans (hB5.trans (hb6.mono (by have := HVS.out; omega)))
  have hs6 : w5.heap.size ≤ w6.heap.size := hb6.size
  have hp6 := HP5.out.keep (W' := w6) fun g' e h1 _ => ho6 g' (by have := HSS.out; have := HVS.out; omega)
  have hr6 := HR5.out.keep (W' := w6) fun g' _ h1 _ => ho6 g' (by have := HSS.out; have := HVS.out; omega)
  refine ⟨_, rfl, ?_, hBf⟩
  refine hp6.show (pts := (withP S q k x).pts) (by have := HNP.out; omega) (fun i hi => ?_) S.J S.D S.Z
  by_cases e : i = q
  · subst e
    refine ⟨some ⟨gr, 0, none⟩, c4, ?_, ?_, ?_⟩
    · simp only [withP, if_true, List.length_set, HPL.out, HLN.out]
    · simp only [withP, if_true, List.length_set, HPL.out, HLN.out]
      rcases HR5.out with ⟨h0, _⟩ | ⟨_, g', cap', cur', ev, _, k2, _⟩
      · have := congrArg List.length h0
        have h3 := HLN.out
        simp at this
        rw [this] at h3
        simp at h3
        omega
      · cases ev
        rw [List.length_set, HLN.out] at k2
        exact k2
    · have := hr6.li (by have := HLN.out; simp; omega)
      simp only [withP, if_true, HPL.out]
      exact this
  · obtain ⟨h1, h2⟩ := HRW.out i hi
    refine ⟨A i, C i, ?_, ?_, ?_⟩
    · simp only [withP, if_neg e]
    · simp only [withP, if_neg e]; exact h1
    · simp only [withP, if_neg e]
      have hB1 : Below w.heap.size ws w6 := HBsw.out.trans (hB5.trans (hb6.mono (by have := HVS.out; omega)))
      exact h2.mono (hB1.mono HNZ.out) (Nat.le_trans HNZ.out hBf.size)

end Go.Proofs.Ytffnlimgjnhmpaa
