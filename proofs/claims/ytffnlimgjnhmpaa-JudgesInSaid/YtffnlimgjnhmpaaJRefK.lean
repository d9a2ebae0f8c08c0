/-
  JRefK: With of the reference.
-/
import Derived.Test.YtffnlimgjnhmpaaJRefD
import Derived.Test.YtffnlimgjnhmpaaJLink
namespace Go.Proofs.Ytffnlimgjnhmpaa
open Go.RowKit

set_option maxHeartbeats 6400000 in
set_option maxRecDepth 100000 in
theorem rWith_any (N : Nat) (v : Value) (S : JB) (q k : Nat) (x : Int) (w : World) (h : ShowAt N w v S) (hnp : S.np ≤ 40) (hl : ∀ i, i < S.np → (S.pts i).length ≤ 40) (hq : q < S.np) (hk : k < (S.pts q).length) :
    Calls Try.prog 26 #[v, .agg #[.int .i64 q, .int .i64 k], .int .i64 x] w fun e w' => ∃ v', e = .returned v' ∧ OwnS w.heap.size w' v' (withP S q k x) ∧ Below w.heap.size w w' := by
  obtain ⟨a1, c1, rfl⟩ := h.form
  obtain ⟨wv, hwv, HBv, hszv, hszv1, hblk, hblk1⟩ := box2 w (.cells #[.int .i64 S.J, .int .i64 S.D, .int .i64 S.Z, .slice a1 S.np c1] 24) (.cells #[.int .i64 q, .int .i64 k] 46)
  obtain ⟨ws, hws, HBs, hszs, hblks⟩ := box1 wv (.cells #[.int .i64 0, .int .i64 0, .int .i64 0, .slice none 0 0] 24)
  have HB : Hid (Below w.heap.size w ws) := HBv.out.trans (HBs.out.mono HBv.out.size)
  have hz0 := (HBs.out.block _ hszv).trans hblk
  have hz1 := (HBs.out.block _ hszv1).trans hblk1
  have hsz := Nat.lt_of_lt_of_le hszv HBs.out.size
  have hsz1 := Nat.lt_of_lt_of_le hszv1 HBs.out.size
  have q0 := cell_blk hz0 0 rfl
  have q1 := cell_blk hz0 1 rfl
  have q2 := cell_blk hz0 2 rfl
  have q3 := cell_blk hz0 3 rfl
  have HM := Lib.hid hz1
  have HBK := Lib.hid (h.go HB.out)
  have HZ1 := Lib.hid hblks
  have HVW : Hid (w.heap.size ≤ wv.heap.size) := HBv.out.size
  have HNP := Lib.hid hnp
  have HL := Lib.hid hl
  clear hblk hblk1 h hz0 hz1 hblks hnp hl
  go_enter Try.func26, Try.ntmps26
  go_upto_region 1 with fail
  clear hwv
  go_upto_region 2 with (go_at_call 34; refine (copy_any N _ S _ HBK.out HNP.out HL.out).mono ?_; rintro e w1 ⟨v1, rfl, ⟨a2, c2, rv, rfl, hop⟩, hb1⟩; have HOP := Lib.hid hop; have HB1 : Hid (Below ws.heap.size ws w1) := hb1; clear hop hb1; obtain ⟨wo, hwo, HBo, hszo, hblko⟩ := box1 w1 (.cells #[.int .i64 0, .int .i64 0, .int .i64 0, .slice none 0 0] 24); have HZo := Lib.hid hblko; have z0 := cell_blk hblko 0 rfl; have z1 := cell_blk hblko 1 rfl; have z2 := cell_blk hblko 2 rfl; have z3 := cell_blk hblko 3 rfl; have f0 := free_blk hblko 0; have f1 := free_blk hblko 1; have f2 := free_blk hblko 2; have f3 := free_blk hblko 3; clear hblko)
  clear hws
  obtain ⟨w2, hw2, hz2, ho2, hb2⟩ := put4o HZo.out (.int .i64 S.J) (.int .i64 S.D) (.int .i64 S.Z) (.slice a2 S.np c2)
  rw [hw2]
  have HOP2 : Hid (OwnP ws.heap.size w2 40 (.slice a2 S.np c2) S.np S.sz rv S.pts) := HOP.out.keep fun g _ h => (hb2.block g h).trans (HBo.out.block g h)
  have HZ2 := Lib.hid hz2
  have HB2 : Hid (Below ws.heap.size ws w2) := HB1.out.trans ((HBo.out.trans hb2).mono HB1.out.size)
  have hs1w := HB1.out.size
  have hsw12 : w1.heap.size < w2.heap.size := Nat.lt_of_lt_of_le hszo hb2.size
  clear hw2 hz2 ho2 hb2 z0 z1 z2 z3 f0 f1 f2 f3 hwo HZo HBo HOP q0 q1 q2 q3
  obtain ⟨B, hB⟩ : ∃ B, w1.heap.size = B := ⟨_, rfl⟩
  rw [hB] at HZ2 hs1w hsw12 ⊢
  clear hB hszo
  obtain ⟨g, rfl, _, _, hgl, hgs, hgc, _, cgp, hcgp⟩ := HOP2.out.pk.at (by omega)
  have HCP := Lib.hid hcgp
  have gq := (hgc q hq).2
  have hrow := HOP2.out.row q hq
  obtain ⟨ar, cr, hrv⟩ := hrow.form
  rw [hrv] at hrow gq
  obtain ⟨gr, rfl, hxx⟩ := hrow.addr (by omega)
  clear hxx
  obtain ⟨hgr1, hgr2, hgrc, hgrf, cgr, hcgr⟩ := hrow.at (by omega)
  have HCG := Lib.hid hcgr
  have rk := hgrc k hk
  have rf := hgrf k
  have b3 := cell_blk HZ2.out 3 rfl
  have hzm := (HB2.out.block _ hsz1).trans HM.out
  have m0 := cell_blk hzm 0 rfl
  have m1 := cell_blk hzm 1 rfl
  have HRV := Lib.hid hrv
  obtain ⟨n, hn⟩ : ∃ n, (S.pts q).length = n := ⟨_, rfl⟩
  have HLN := Lib.hid hn
  rw [hn] at gq hk
  have hqi : (q : Int) < (S.np : Int) := by omega
  have hki : (k : Int) < (n : Int) := by omega
  have HGR := Lib.hid (And.intro hgr1 hgr2)
  clear hgc hgrc hgrf hrow hrv hn hzm hcgr hcgp
  have hS0 := And.intro b3 (And.intro m0 (And.intro m1 gq))
  refine wp_region_held_drew (S := fun W => W.cell? ⟨B, 3, none⟩ = some (.slice (some ⟨g, 0, none⟩) S.np c2) ∧ W.cell? ⟨w.heap.size + 1, 0, none⟩ = some (.int .i64 q) ∧ W.cell? ⟨w.heap.size + 1, 1, none⟩ = some (.int .i64 k) ∧ W.cell? ⟨g, q * 2 + 1, none⟩ = some (.slice (some ⟨gr, 0, none⟩) n cr)) (by kernel_rfl) ⟨b3, m0, m1, gq⟩ (fun hHeld => ?_)
  (refine wpAnyH_take (i := 0) (v := ?_) rfl (by kernel_rfl) (by kernel_rfl) (by kernel_rfl) (fun _ _ _ h => h) (Or.inl ⟨by rfl, ?_⟩) (by assumption) ?_; rotate_left; (focus (intro w hSw; (try dsimp only at hSw); go_simp; (try with_reducible rfl))); (try simp only [List.getElem_toArray, List.getElem_cons_zero, List.getElem_cons_succ, Act.put, List.setIfInBounds_toArray, List.set_cons_zero, List.set_cons_succ])); (refine wpAnyH_take (i := 1) (v := ?_) rfl (by kernel_rfl) (by kernel_rfl) (by kernel_rfl) (fun _ _ _ h => h) (Or.inl ⟨by rfl, ?_⟩) (by assumption) ?_; rotate_left; (focus (intro w hSw; (try dsimp only at hSw); go_simp; (try with_reducible rfl))); (try simp only [List.getElem_toArray, List.getElem_cons_zero, List.getElem_cons_succ, Act.put, List.setIfInBounds_toArray, List.set_cons_zero, List.set_cons_succ])); (refine wpAnyH_take (i := 2) (v := ?_) rfl (by kernel_rfl) (by kernel_rfl) (by kernel_rfl) (fun _ _ _ h => h) (Or.inl ⟨by rfl, ?_⟩) (by assumption) ?_; rotate_left; (focus (intro w hSw; (try dsimp only at hSw); go_simp; (try with_reducible rfl))); (try simp only [List.getElem_toArray, List.getElem_cons_zero, List.getElem_cons_succ, Act.put, List.setIfInBounds_toArray, List.set_cons_zero, List.set_cons_succ])); (refine wpAnyH_take (i := 3) (v := ?_) rfl (by kernel_rfl) (by kernel_rfl) (by kernel_rfl) (fun _ _ _ h => h) (Or.inl ⟨by rfl, ?_⟩) (by assumption) ?_; rotate_left; (focus (intro w hSw; (try dsimp only at hSw); go_simp; (try with_reducible rfl))); (try simp only [List.getElem_toArray, List.getElem_cons_zero, List.getElem_cons_succ, Act.put, List.setIfInBounds_toArray, List.set_cons_zero, List.set_cons_succ])); (refine wpAnyH_take (i := 4) (v := ?_) rfl (by kernel_rfl) (by kernel_rfl) (by kernel_rfl) (fun _ _ _ h => h) (Or.inl ⟨by rfl, ?_⟩) (by assumption) ?_; rotate_left; (focus (intro w hSw; (try dsimp only at hSw); go_simp; (try with_reducible rfl))); (try simp only [List.getElem_toArray, List.getElem_cons_zero, List.getElem_cons_succ, Act.put, List.setIfInBounds_toArray, List.set_cons_zero, List.set_cons_succ])); (refine wpAnyH_take (i := 5) (v := ?_) rfl (by kernel_rfl) (by kernel_rfl) (by kernel_rfl) (fun _ _ _ h => h) (Or.inl ⟨by rfl, ?_⟩) (by assumption) ?_; rotate_left; (focus (intro w hSw; (try dsimp only at hSw); go_simp; (try with_reducible rfl))); (try simp only [List.getElem_toArray, List.getElem_cons_zero, List.getElem_cons_succ, Act.put, List.setIfInBounds_toArray, List.set_cons_zero, List.set_cons_succ])); (refine wpAnyH_take (i := 6) (v := ?_) rfl (by kernel_rfl) (by kernel_rfl) (by kernel_rfl) (fun _ _ _ h => h) (Or.inl ⟨by rfl, ?_⟩) (by assumption) ?_; rotate_left; (focus (intro w hSw; (try dsimp only at hSw); go_simp; (try with_reducible rfl))); (try simp only [List.getElem_toArray, List.getElem_cons_zero, List.getElem_cons_succ, Act.put, List.setIfInBounds_toArray, List.set_cons_zero, List.set_cons_succ])); (refine wpAnyH_take (i := 7) (v := ?_) rfl (by kernel_rfl) (by kernel_rfl) (by kernel_rfl) (fun _ _ _ h => h) (Or.inl ⟨by rfl, ?_⟩) (by assumption) ?_; rotate_left; (focus (intro w hSw; (try dsimp only at hSw); go_simp; (try with_reducible rfl))); (try simp only [List.getElem_toArray, List.getElem_cons_zero, List.getElem_cons_succ, Act.put, List.setIfInBounds_toArray, List.set_cons_zero, List.set_cons_succ])); (refine wpAnyH_take (i := 8) (v := ?_) rfl (by kernel_rfl) (by kernel_rfl) (by kernel_rfl) (fun _ _ _ h => h) (Or.inl ⟨by rfl, ?_⟩) (by assumption) ?_; rotate_left; (focus (intro w hSw; (try dsimp only at hSw); go_simp; (try with_reducible rfl))); (try simp only [List.getElem_toArray, List.getElem_cons_zero, List.getElem_cons_succ, Act.put, List.setIfInBounds_toArray, List.set_cons_zero, List.set_cons_succ])); (refine wpAnyH_take (i := 9) (v := ?_) rfl (by kernel_rfl) (by kernel_rfl) (by kernel_rfl) (fun _ _ _ h => h) (Or.inl ⟨by rfl, ?_⟩) (by assumption) ?_; rotate_left; (focus (intro w hSw; (try dsimp only at hSw); go_simp; (try with_reducible rfl))); (try simp only [List.getElem_toArray, List.getElem_cons_zero, List.getElem_cons_succ, Act.put, List.setIfInBounds_toArray, List.set_cons_zero, List.set_cons_succ])); (refine wpAnyH_take (i := 10) (v := ?_) rfl (by kernel_rfl) (by kernel_rfl) (by kernel_rfl) (fun _ _ _ h => h) (Or.inl ⟨by rfl, ?_⟩) (by assumption) ?_; rotate_left; (focus (intro w hSw; (try dsimp only at hSw); go_simp; (try with_reducible rfl))); (try simp only [List.getElem_toArray, List.getElem_cons_zero, List.getElem_cons_succ, Act.put, List.setIfInBounds_toArray, List.set_cons_zero, List.set_cons_succ]))
  refine wpAnyH_ready (rs := [11]) (by kernel_rfl) (by simp) ?_; refine AllReadyH.cons rfl (fun K hK => ?_) AllReadyH.nil; go_simp
  obtain ⟨w5, hw5⟩ : ∃ w5, (w2.setCell ⟨gr, k, none⟩ (.int .i64 x)).drew = w5 := ⟨_, rfl⟩
  rw [hw5]
  have ho5 : ∀ b, b ≠ gr → w5.heap[b]? = w2.heap[b]? := fun b hb => by rw [← hw5]; exact Below.heap_setCell _ _ _ _ (by exact hb)
  have HB5 : Hid (Below ws.heap.size w2 w5) := by rw [← hw5]; exact ((Below.refl _ w2).setCell (p := ⟨gr, k, none⟩) hgr2 _).drew
  have HOP5 : Hid (OwnP ws.heap.size w5 40 (.slice (some ⟨g, 0, none⟩) S.np c2) S.np S.sz rv (fun j => if j = q then (S.pts j).set k x else S.pts j)) := by
    rw [← hw5]
    exact (HOP2.out.point (by decide) hq (by have := HLN.out; omega) x HRV.out).keep fun _ _ _ => rfl
  have HZ5 := Lib.hid ((ho5 B (types_ne HZ2.out HCG.out (by decide))).trans HZ2.out)
  have hS5 : w5.cell? ⟨B, 3, none⟩ = some (.slice (some ⟨g, 0, none⟩) S.np c2) ∧ w5.cell? ⟨w.heap.size + 1, 0, none⟩ = some (.int .i64 q) ∧ w5.cell? ⟨w.heap.size + 1, 1, none⟩ = some (.int .i64 k) ∧ w5.cell? ⟨g, q * 2 + 1, none⟩ = some (.slice (some ⟨gr, 0, none⟩) n cr) :=
    ⟨(World.cell?_of_block (w := w2) (ho5 B (types_ne HZ2.out HCG.out (by decide)))).trans hS0.1, (World.cell?_of_block (w := w2) (ho5 (w.heap.size + 1) (by have := HGR.out.2; omega))).trans hS0.2.1, (World.cell?_of_block (w := w2) (ho5 (w.heap.size + 1) (by have := HGR.out.2; omega))).trans hS0.2.2.1, (World.cell?_of_block (w := w2) (ho5 g (types_ne HCP.out HCG.out (by decide)))).trans hS0.2.2.2⟩
  clear hw5 ho5 rk rf
  refine hK.out _ _ hS5 (fun hHeld => ?_); clear hK K; (try simp only [List.getElem_toArray, List.getElem_cons_zero, List.getElem_cons_succ, Act.put, List.setIfInBounds_toArray, List.set_cons_zero, List.set_cons_succ])
  refine wpAnyH_done (by kernel_rfl) ?_ _; clear hHeld
  clear hS0 hS5 b3 m0 m1 gq
  have HZr := Lib.hid ((HB5.out.block _ (show wv.heap.size < ws.heap.size from hszs)).trans ((HB2.out.block _ hszs).trans HZ1.out))
  have v0 := cell_blk HZr.out 0 rfl
  have v1 := cell_blk HZr.out 1 rfl
  have v2 := cell_blk HZr.out 2 rfl
  have v3 := cell_blk HZr.out 3 rfl
  have e0 := free_blk HZr.out 0
  have e1 := free_blk HZr.out 1
  have e2 := free_blk HZr.out 2
  have e3 := free_blk HZr.out 3
  have u0 := cell_blk HZ5.out 0 rfl
  have u1 := cell_blk HZ5.out 1 rfl
  have u2 := cell_blk HZ5.out 2 rfl
  have u3 := cell_blk HZ5.out 3 rfl
  go_wp2_with fail
  obtain ⟨w6, hw6, hz6, ho6, hb6⟩ := put4o HZr.out (.int .i64 S.J) (.int .i64 S.D) (.int .i64 S.Z) (.slice (some ⟨g, 0, none⟩) S.np c2)
  rw [hw6]
  have s0 := cell_blk hz6 0 rfl
  have s1 := cell_blk hz6 1 rfl
  have s2 := cell_blk hz6 2 rfl
  have s3 := cell_blk hz6 3 rfl
  have hBf : Below w.heap.size w w6 := HB.out.trans ((HB2.out.mono HB.out.size).trans ((HB5.out.mono HB.out.size).trans (hb6.mono HVW.out)))
  have hop6 := HOP5.out.keep (W' := w6) fun g' h1 _ => ho6 g' (by omega)
  have hlo : w.heap.size ≤ ws.heap.size := HB.out.size
  exact bodyPost_ret (v := .agg #[.int .i64 S.J, .int .i64 S.D, .int .i64 S.Z, .slice (some ⟨g, 0, none⟩) S.np c2]) (by simp [results, Try.results26, go_sem, s0, s1, s2, s3]) rfl ⟨_, rfl, ⟨_, _, rv, rfl, hop6.lower hlo⟩, hBf⟩

end Go.Proofs.Ytffnlimgjnhmpaa
