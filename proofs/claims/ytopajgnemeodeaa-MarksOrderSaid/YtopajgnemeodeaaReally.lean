/-
  The chapter's own answers: really.
-/
import Derived.Test.YtopajgnemeodeaaRefE
import Derived.Test.YtopajgnemeodeaaSeen
namespace Go.Proofs.Ytopajgnemeodeaa
open Go.RowKit

/-- where a seen value lies -/
theorem fruit_at {n : Nat} {w : World} {af : Option Addr} {cf : Nat} {R : Fr} {f m : Nat} (h : FruitsAt n w (.slice af R.n cf) R) (hf : f < R.n) (hm : m < R.L f) :
    ∃ b o b2 o2 cap, af = some ⟨b, o, none⟩ ∧ b < n ∧ b2 < n ∧ w.cell? ⟨b, o + f, none⟩ = some (.slice (some ⟨b2, o2, none⟩) (R.L f) cap) ∧ w.cell? ⟨b2, o2 + m, none⟩ = some (.int .i64 (R.X f m)) := by
  obtain ⟨_, _, e, _, hc⟩ := h
  cases e
  obtain ⟨b, off, rfl, hb, hr⟩ := hc (by omega)
  obtain ⟨r, hcell, a2, c2, rfl, _, hc2⟩ := hr f hf
  obtain ⟨b2, off2, rfl, hb2, hr2⟩ := hc2 (by omega)
  obtain ⟨r2, hcell2, rfl⟩ := hr2 m hm
  exact ⟨b, off, b2, off2, c2, rfl, hb, hb2, hcell, hcell2⟩

theorem can_row {n : Nat} {w : World} {a1 a2 a3 : Option Addr} {c1 c2 c3 : Nat} {B : Bk} {s : Nat} (h : BookAt n w (.agg #[.slice a1 B.nv c1, .slice a2 B.nf c2, .slice a3 B.ns c3, .int .i64 B.wr]) B) (hs : s < B.ns) (h0 : 0 < B.nc s) :
    ∃ b3 o3 cap b4 o4, a3 = some ⟨b3, o3, none⟩ ∧ b3 < n ∧ w.cell? ⟨b3, o3 + s, none⟩ = some (.slice (some ⟨b4, o4, none⟩) (B.nc s) cap) ∧ b4 < n ∧
      Hid (∀ i, i < B.nc s → ∃ ao c4, w.cell? ⟨b4, o4 + i, none⟩ = some (.slice ao (B.ncc s i) c4) ∧ Hid (IntsAt n w (.slice ao (B.ncc s i) c4) (B.ncc s i) (B.can s i))) := by
  obtain ⟨_, _, _, _, _, _, _, e, _, _, h3⟩ := h
  cases e
  obtain ⟨_, _, e3, _, hc3⟩ := h3
  cases e3
  obtain ⟨b3, off3, rfl, hb3, hr3⟩ := hc3 (by omega)
  obtain ⟨r3, hcell3, ao, cap, rfl, hnc, hcr⟩ := hr3 s hs
  obtain ⟨b4, off4, rfl, hb4, hr4⟩ := hcr h0
  refine ⟨b3, off3, cap, b4, off4, rfl, hb3, hcell3, hb4, fun i hi => ?_⟩
  obtain ⟨r4, hcell4, hints⟩ := hr4 i hi
  obtain ⟨a5, c5, rfl, hn5, hc5⟩ := hints
  exact ⟨a5, c5, hcell4, ⟨a5, c5, rfl, hn5, hc5⟩⟩

def n0 (R : Fr) (f m : Nat) (x : Int) : Nat := if R.X f m ≠ -1 ∧ R.X f m ≠ x then 1 else 0
/-- one mark's part of what the chapter counts -/
def rcol (B : Bk) (R : Fr) (s f m : Nat) (x : Int) (i : Nat) : Nat := if i = m ∧ B.F i = 1 then ofm B (R.set f m (-1)) i 1 (fun _ => x) else ofm B (R.set f m (-1)) i (B.ncc s i) (B.can s i)
theorem rl_col (B : Bk) (R : Fr) (s f m : Nat) (x : Int) : rl B R s f m x = n0 R f m x + sumTo B.nv (rcol B R s f m x) := rfl
theorem ofm_le (B : Bk) (R : Fr) (m n : Nat) (c : Nat → Int) (hn : R.n ≤ 1000) : ofm B R m n c ≤ 1000 := by
  unfold ofm
  split
  · exact minTo_le _ _ _
  · exact Nat.le_trans (bad_le _ _ _ _) hn
theorem rcol_le (B : Bk) (R : Fr) (s f m : Nat) (x : Int) (i : Nat) (hn : R.n ≤ 1000) : rcol B R s f m x i ≤ 1000 := by
  unfold rcol
  split <;> exact ofm_le _ _ _ _ _ hn

set_option maxHeartbeats 4000000 in
set_option maxRecDepth 100000 in
theorem really_no (N : Nat) (v u : Value) (B : Bk) (R : Fr) (s f m : Nat) (x : Int) (w : World) (h : BookAt N w v B) (hf : FruitsAt N w u R) (hg : Good B R) (hs : s < B.ns) (hm : m < B.nv) (hx : cin B s m x = false) :
    Calls Try.prog 94 #[v, u, .int .i64 s, .agg #[.int .i64 f, .int .i64 m], .int .i64 x] w fun e w' => e = .returned (.int .i64 1000) ∧ Below w.heap.size w w' := by
  have h' := h
  obtain ⟨_, a1, c1, a2, c2, a3, c3, rfl, _⟩ := h'
  obtain ⟨ws, hws, HB, hsz, hsz1, hblk, hblk1⟩ := box2 w (.cells #[.slice a1 B.nv c1, .slice a2 B.nf c2, .slice a3 B.ns c3, .int .i64 B.wr] 25) (.cells #[.int .i64 f, .int .i64 m] 40)
  have q0 := cell_blk hblk 0 rfl
  have q1 := cell_blk hblk 1 rfl
  have q2 := cell_blk hblk 2 rfl
  have q3 := cell_blk hblk 3 rfl
  have p0 := cell_blk hblk1 0 rfl
  have p1 := cell_blk hblk1 1 rfl
  obtain ⟨HBF, HB0⟩ := entry HB.out h hf
  clear hblk hblk1 h hf
  obtain ⟨b3, o3, cap, b4, o4, ao, c4, rfl, hb3, hq3, hb4, hq4, HI, _⟩ := can_at HBF.out.1 hs (by rw [hg.nc s hs]; exact hm)
  have g3 : b3 < ws.heap.size := Nat.lt_of_lt_of_le hb3 HBF.out.1.1
  have g4 : b4 < ws.heap.size := Nat.lt_of_lt_of_le hb4 HBF.out.1.1
  have hmi : (m : Int) < (B.nc s : Int) := by rw [hg.nc s hs]; omega
  have hsi : (s : Int) < (B.ns : Int) := by omega
  have HX : Hid _ := Lib.hid hx
  have HId : Hid (IntsAt N ws.drew (.slice ao (B.ncc s m) c4) (B.ncc s m) (B.can s m)) := HI.out.mono ((Below.refl _ _).drew) (Nat.le_refl _)
  clear hg hx
  have S0d := old_of HB0.out.drew; have HB0d := S0d.2
  go_enter Try.func94, Try.ntmps94
  go_wp2
  clear hws
  go_region_held3 (fun w' => (∀ b o, b < ws.heap.size → w'.cell? ⟨b, o, none⟩ = ws.cell? ⟨b, o, none⟩) ∧ Hid (Below ws.heap.size ws w')) (assumption) (first
    | (go_at_call 48; refine (in_any _ _ _ _ _ _ HId.out).mono ?_; rintro e w1 ⟨rfl, hw1⟩; rw [show (anyB (B.ncc s m) fun i => decide (B.can s m i = x)) = _ from HX.out]; have S1 := old_of (hw1 ▸ HB0d.out)))
  clear S0d
  go_wp2
  go_ret
  exact ⟨rfl, fin HB.out HB0d.out⟩

theorem val_blk {W : World} {b : Nat} {x : Int} (h : W.heap[b]? = some (Obj.cells #[.int .i64 x] 3 (0, 0))) : IntsAt W.heap.size W (.slice (some ⟨b, 0, none⟩) 1 1) 1 (fun _ => x) :=
  ⟨_, 1, rfl, by decide, fun _ => ⟨b, 0, rfl, (Array.getElem?_eq_some_iff.1 h).1, fun i hi => ⟨_, by rw [Nat.zero_add]; exact cell_blk h i (by rcases i with _ | i <;> first | rfl | omega), rfl⟩⟩⟩

theorem firm_at {n : Nat} {w : World} {a1 a2 a3 : Option Addr} {c1 c2 c3 : Nat} {B : Bk} {i : Nat} (h : BookAt n w (.agg #[.slice a1 B.nv c1, .slice a2 B.nf c2, .slice a3 B.ns c3, .int .i64 B.wr]) B) (hi : i < B.nf) :
    ∃ b1 o1, a2 = some ⟨b1, o1, none⟩ ∧ b1 < n ∧ w.cell? ⟨b1, o1 + i, none⟩ = some (.int .i64 (B.F i)) := by
  obtain ⟨_, _, _, _, _, _, _, e, _, h1, _⟩ := h
  cases e
  obtain ⟨_, _, e3, _, hc3⟩ := h1
  cases e3
  obtain ⟨b3, off3, rfl, hb3, hr3⟩ := hc3 (by omega)
  obtain ⟨r3, hcell3, rfl⟩ := hr3 i hi
  exact ⟨b3, off3, rfl, hb3, hcell3⟩

set_option maxHeartbeats 4000000 in
set_option maxRecDepth 100000 in
theorem really_yes (N : Nat) (v u : Value) (B : Bk) (R : Fr) (s f m : Nat) (x : Int) (w : World) (h : BookAt N w v B) (hf : FruitsAt N w u R) (hg : Good B R) (hs : s < B.ns) (hfn : f < R.n) (hm : m < B.nv) (hx : cin B s m x = true) :
    Calls Try.prog 94 #[v, u, .int .i64 s, .agg #[.int .i64 f, .int .i64 m], .int .i64 x] w fun e w' => e = .returned (.int .i64 (rl B R s f m x)) ∧ Below w.heap.size w w' := by
  have h' := h
  obtain ⟨_, a1, c1, a2, c2, a3, c3, rfl, _⟩ := h'
  obtain ⟨ws, hws, HB, hsz, hsz1, hblk, hblk1⟩ := box2 w (.cells #[.slice a1 B.nv c1, .slice a2 B.nf c2, .slice a3 B.ns c3, .int .i64 B.wr] 25) (.cells #[.int .i64 f, .int .i64 m] 40)
  have q0 := cell_blk hblk 0 rfl
  have q1 := cell_blk hblk 1 rfl
  have q2 := cell_blk hblk 2 rfl
  have q3 := cell_blk hblk 3 rfl
  have p0 := cell_blk hblk1 0 rfl
  have p1 := cell_blk hblk1 1 rfl
  obtain ⟨HBF, HB0⟩ := entry HB.out h hf
  clear hblk hblk1 h hf
  obtain ⟨b3, o3, cap, b4, o4, rfl, hb3, hq3, hb4, HROW⟩ := can_row HBF.out.1 hs (by rw [hg.nc s hs]; omega)
  obtain ⟨ao, c4, hq4, HI⟩ := HROW.out m (by rw [hg.nc s hs]; exact hm)
  obtain ⟨af, cf, rfl, _, _⟩ := id HBF.out.2
  obtain ⟨b5, o5, b6, o6, cap6, rfl, hb5, hb6, hq5, hq6⟩ := fruit_at HBF.out.2 hfn (by rw [hg.L f hfn]; exact hm)
  have hNs : N ≤ ws.heap.size := HBF.out.1.1
  have g3 : b3 < ws.heap.size := Nat.lt_of_lt_of_le hb3 hNs
  have g4 : b4 < ws.heap.size := Nat.lt_of_lt_of_le hb4 hNs
  have g5 : b5 < ws.heap.size := Nat.lt_of_lt_of_le hb5 hNs
  have g6 : b6 < ws.heap.size := Nat.lt_of_lt_of_le hb6 hNs
  have hmi : (m : Int) < (B.nc s : Int) := by rw [hg.nc s hs]; omega
  have hml : (m : Int) < (R.L f : Int) := by rw [hg.L f hfn]; omega
  have hsi : (s : Int) < (B.ns : Int) := by omega
  have hfi : (f : Int) < (R.n : Int) := by omega
  have hnv6 := hg.nv
  have HX : Hid _ := Lib.hid hx
  have HG : Hid _ := Lib.hid hg
  have HNs : Hid _ := Lib.hid hNs
  have HSN : Hid _ := Lib.hid hs
  have HFN : Hid _ := Lib.hid hfn
  have HMN : Hid _ := Lib.hid hm
  have HId : Hid (IntsAt N ws.drew (.slice ao (B.ncc s m) c4) (B.ncc s m) (B.can s m)) := HI.out.mono ((Below.refl _ _).drew) (Nat.le_refl _)
  obtain ⟨k0, hk0, HK0⟩ : ∃ k0 : Nat, k0 ≤ 1 ∧ Hid (n0 R f m x = k0) := ⟨n0 R f m x, by unfold n0; split <;> omega, rfl⟩
  have hcase : (∃ b1 b2 : Bool, (R.X f m != -1) = b1 ∧ (R.X f m != x) = b2 ∧ k0 = if b1 && b2 then 1 else 0) := by
    refine ⟨_, _, rfl, rfl, ?_⟩
    rw [← HK0.out]; unfold n0
    by_cases h1 : R.X f m = -1 <;> by_cases h2 : R.X f m = x <;> simp [h1, h2]
  clear hg hx hs hfn hm hNs
  have S0d := old_of HB0.out.drew; have HB0d := S0d.2
  obtain ⟨t1, t2, ht1, ht2, hk0'⟩ := hcase
  cases t1
  all_goals
    cases t2
    all_goals
      obtain rfl : k0 = _ := hk0'
      clear hk0
      go_enter Try.func94, Try.ntmps94
      go_wp2
      clear hws
      go_region_held3 (fun w' => (∀ b o, b < ws.heap.size → w'.cell? ⟨b, o, none⟩ = ws.cell? ⟨b, o, none⟩) ∧ Hid (Below ws.heap.size ws w')) (assumption) (first
        | (go_at_call 48; refine (in_any _ _ _ _ _ _ HId.out).mono ?_; rintro e w1 ⟨rfl, hw1⟩; rw [show (anyB (B.ncc s m) fun i => decide (B.can s m i = x)) = _ from HX.out]; have S1 := old_of (hw1 ▸ HB0d.out)))
      clear S1 S0d
      go_wp2_with (go_at_call 17; refine (copyFruits_any N _ R _ (HBF.out.go HB0d.out).2 (Nat.le_trans HNs.out HB0d.out.size) (by have := HG.out.n; omega) (fun f hf => by rw [HG.out.L f hf]; have := HG.out.nv; omega)).mono ?_; rintro e w2 ⟨v2, rfl, hr2, hb2⟩; obtain ⟨ao2, co2, rfl⟩ := hr2.form; have HR2 := Lib.hid hr2; clear hr2; have HB2 := Lib.hid (bel HB0d.out hb2); have c2w := (old_of HB2.out).1; clear hb2)
      have S2d := old_of HB2.out.drew; have HB2d := S2d.2
      go_region_held3 (fun w' => (∀ b o, b < ws.heap.size → w'.cell? ⟨b, o, none⟩ = ws.cell? ⟨b, o, none⟩) ∧ Hid (Below ws.heap.size ws w')) (assumption) (fail)
      clear S2d HB2d c2w
      have HR3 : Hid (RowsIn w2.drew ws.heap.size w2.drew.heap.size (.slice ao2 R.n co2) R.n R.L R.X) := HR2.out.grow (Below.refl _ _).drew
      have HB3 : Hid (Below ws.heap.size ws w2.drew) := HB2.out.drew
      obtain ⟨w3, hw3⟩ : ∃ w3 : World, w2.drew = w3 := ⟨_, rfl⟩
      rw [hw3] at HR3 HB3 ⊢
      clear hw3 HR2 HB2
      go_wp2
      obtain ⟨g0, p0', g, p', heq, y1, y2, y3, hg0, hg, hset⟩ := HR3.out.put HFN.out (by rw [HG.out.L f HFN.out]; exact HMN.out) (-1)
      cases heq
      have HST := Lib.hid hset
      have HGG : Hid (ws.heap.size ≤ g) := hg
      clear hset hg0 hg HR3
      have S3d := old_of HB3.out.drew; have HB3d := S3d.2
      refine wp_region_held_drew (S := (fun w' => (∀ b o, b < ws.heap.size → w'.cell? ⟨b, o, none⟩ = ws.cell? ⟨b, o, none⟩) ∧ Hid (Below ws.heap.size ws w'))) (by kernel_rfl) S3d (fun hHeld => ?_)
      (refine wpAnyH_take (i := 0) (v := ?_) rfl (by kernel_rfl) (by kernel_rfl) (by kernel_rfl) (fun _ _ _ h => h) (Or.inl ⟨by rfl, ?_⟩) (by assumption) ?_; rotate_left; (focus (intro w hSw; (try dsimp only at hSw); go_simp; (try with_reducible rfl))); (try simp only [List.getElem_toArray, List.getElem_cons_zero, List.getElem_cons_succ, Act.put, List.setIfInBounds_toArray, List.set_cons_zero, List.set_cons_succ]))
      (refine wpAnyH_take (i := 1) (v := ?_) rfl (by kernel_rfl) (by kernel_rfl) (by kernel_rfl) (fun _ _ _ h => h) (Or.inl ⟨by rfl, ?_⟩) (by assumption) ?_; rotate_left; (focus (intro w hSw; (try dsimp only at hSw); go_simp; (try with_reducible rfl))); (try simp only [List.getElem_toArray, List.getElem_cons_zero, List.getElem_cons_succ, Act.put, List.setIfInBounds_toArray, List.set_cons_zero, List.set_cons_succ]))
      (refine wpAnyH_take (i := 2) (v := ?_) rfl (by kernel_rfl) (by kernel_rfl) (by kernel_rfl) (fun _ _ _ h => h) (Or.inl ⟨by rfl, ?_⟩) (by assumption) ?_; rotate_left; (focus (intro w hSw; (try dsimp only at hSw); go_simp; (try with_reducible rfl))); (try simp only [List.getElem_toArray, List.getElem_cons_zero, List.getElem_cons_succ, Act.put, List.setIfInBounds_toArray, List.set_cons_zero, List.set_cons_succ]))
      (refine wpAnyH_take (i := 3) (v := ?_) rfl (by kernel_rfl) (by kernel_rfl) (by kernel_rfl) (fun _ _ _ h => h) (Or.inl ⟨by rfl, ?_⟩) (by assumption) ?_; rotate_left; (focus (intro w hSw; (try dsimp only at hSw); go_simp; (try with_reducible rfl))); (try simp only [List.getElem_toArray, List.getElem_cons_zero, List.getElem_cons_succ, Act.put, List.setIfInBounds_toArray, List.set_cons_zero, List.set_cons_succ]))
      (refine wpAnyH_take (i := 5) (v := ?_) rfl (by kernel_rfl) (by kernel_rfl) (by kernel_rfl) (fun _ _ _ h => h) (Or.inl ⟨by rfl, ?_⟩) (by assumption) ?_; rotate_left; (focus (intro w hSw; (try dsimp only at hSw); go_simp; (try with_reducible rfl))); (try simp only [List.getElem_toArray, List.getElem_cons_zero, List.getElem_cons_succ, Act.put, List.setIfInBounds_toArray, List.set_cons_zero, List.set_cons_succ]))
      (refine wpAnyH_take (i := 6) (v := ?_) rfl (by kernel_rfl) (by kernel_rfl) (by kernel_rfl) (fun _ _ _ h => h) (Or.inl ⟨by rfl, ?_⟩) (by assumption) ?_; rotate_left; (focus (intro w hSw; (try dsimp only at hSw); go_simp; (try with_reducible rfl))); (try simp only [List.getElem_toArray, List.getElem_cons_zero, List.getElem_cons_succ, Act.put, List.setIfInBounds_toArray, List.set_cons_zero, List.set_cons_succ]))
      refine wpAnyH_ready (rs := [4]) (by kernel_rfl) (by simp) ?_; refine AllReadyH.cons rfl (fun K hK => ?_) AllReadyH.nil; go_simp
      refine hK.out _ _ S3d (fun hHeld => ?_); clear hK K; (try simp only [List.getElem_toArray, List.getElem_cons_zero, List.getElem_cons_succ, Act.put, List.setIfInBounds_toArray, List.set_cons_zero, List.set_cons_succ])
      (refine wpAnyH_take (i := 7) (v := ?_) rfl (by kernel_rfl) (by kernel_rfl) (by kernel_rfl) (fun _ _ _ h => h) (Or.inl ⟨by rfl, ?_⟩) (by assumption) ?_; rotate_left; (focus (intro w hSw; (try dsimp only at hSw); go_simp; (try with_reducible rfl))); (try simp only [List.getElem_toArray, List.getElem_cons_zero, List.getElem_cons_succ, Act.put, List.setIfInBounds_toArray, List.set_cons_zero, List.set_cons_succ]))
      refine wpAnyH_ready (rs := [8]) (by kernel_rfl) (by simp) ?_; refine AllReadyH.cons rfl (fun K hK => ?_) AllReadyH.nil; go_simp
      obtain ⟨w4, hw4⟩ : ∃ w4 : World, (w3.setCell ⟨g, m, none⟩ (.int .i64 (-1))).drew = w4 := ⟨_, rfl⟩
      have hb4 : Below ws.heap.size ws w4 := by rw [← hw4]; exact (HB3.out.setCell (p := ⟨g, m, none⟩) HGG.out _).drew
      have HR4 : Hid (RowsIn w4 ws.heap.size w4.heap.size (.slice (some ⟨g0, 0, none⟩) R.n co2) R.n R.L (R.set f m (-1)).X) := by
        rw [← hw4]
        have : (w3.setCell ⟨g, m, none⟩ (.int .i64 (-1))).drew.heap.size = w3.heap.size := by simp [World.setCell]
        rw [this]
        exact RowsIn.keep (w := w3.setCell ⟨g, m, none⟩ (.int .i64 (-1))) HST.out fun _ _ _ _ _ _ _ => rfl
      rw [hw4]
      have S4 := old_of hb4
      have HB4 := S4.2
      clear hw4 hb4
      refine hK.out _ _ S4 (fun hHeld => ?_); clear hK K; (try simp only [List.getElem_toArray, List.getElem_cons_zero, List.getElem_cons_succ, Act.put, List.setIfInBounds_toArray, List.set_cons_zero, List.set_cons_succ])
      refine wpAnyH_done (by kernel_rfl) ?_ _; clear hHeld
      clear S4 S3d HB3d HB3 HST y1 y2 y3
      have HFR : Hid (FruitsAt w4.heap.size w4 (.slice (some ⟨g0, 0, none⟩) R.n co2) (R.set f m (-1))) := HR4.out.rows (Nat.le_refl _) (by have := HG.out.n; omega) (fun j hj => by rw [HG.out.L j hj]; have := HG.out.nv; omega)
      have HN4 : Hid (N ≤ w4.heap.size) := Nat.le_trans HNs.out HB4.out.size
      have hR1000 : Hid ((R.set f m (-1)).n ≤ 1000) := by have := HG.out.n; show R.n ≤ 1000; omega
      clear HR4
      have hszr := hsz
      have hszr1 := hsz1
      have c4w := (old_of HB4.out).1
      go_wp2
      clear c4w hszr hszr1 hq4
      go_loopw [12, 14] (fun t i wr => ∃ k : Nat, k ≤ B.nv ∧ i = .int .i64 k ∧ (∃ q : Nat, t = .int .i64 q ∧ Hid (q = n0 R f m x + sumTo k (rcol B R s f m x))) ∧ Hid (Below w4.heap.size w4 wr)) (fun _ i _ => B.nv - (intOf i).toNat)
      case atStart => exact ⟨0, Nat.zero_le _, rfl, ⟨_, rfl, by show _ = _; rw [HK0.out]; simp [sumTo]⟩, Below.refl _ _⟩
      case round =>
        obtain ⟨k, hk, rfl, ⟨q, rfl, HQ⟩, HBw⟩ := hrel
        have HBr : Hid (Below ws.heap.size ws wr) := bel HB4.out HBw.out
        have cr := (old_of HBr.out).1
        have hszr := Nat.lt_of_lt_of_le hsz HBr.out.size
        have hszr1 := Nat.lt_of_lt_of_le hsz1 HBr.out.size
        by_cases hkn : k < B.nv
        · have hkc : k < B.nc s := by rw [HG.out.nc s HSN.out]; exact hkn
          obtain ⟨ao7, c7, hq8, HI7⟩ := HROW.out k hkc
          obtain ⟨b8, o8, rfl, hb8, hq9⟩ := firm_at HBF.out.1 (by rw [HG.out.nf]; exact hkn)
          have g8 : b8 < ws.heap.size := Nat.lt_of_lt_of_le hb8 HNs.out
          have hki : (k : Int) < (B.nc s : Int) := by omega
          have hkf : (k : Int) < (B.nf : Int) := by rw [HG.out.nf]; omega
          have HE : Hid (sumTo (k + 1) (rcol B R s f m x) = sumTo k (rcol B R s f m x) + rcol B R s f m x k) := rfl
          have hq : q ≤ 7000 := by
            have h1 := sumTo_le k (rcol B R s f m x) 1000 fun i _ => rcol_le _ _ _ _ _ _ _ (by have := HG.out.n; omega)
            have h2 := HK0.out
            have h3 := HQ.out
            split at h2 <;> omega
          obtain ⟨rc, hrc⟩ : ∃ rc, rcol B R s f m x k = rc := ⟨_, rfl⟩
          have hrc1 : rc ≤ 1000 := by rw [← hrc]; exact rcol_le _ _ _ _ _ _ _ (by have := HG.out.n; omega)
          have HRC := Lib.hid hrc
          have HLm : Hid (∀ j, j < (R.set f m (-1)).n → k < (R.set f m (-1)).L j) := fun j hj => by show k < R.L j; rw [HG.out.L j hj]; exact hkn
          have hfirm : (k = m ∧ B.F k = 1) ∨ ¬ (k = m ∧ B.F k = 1) := Classical.em _
          clear hkc hrc
          rcases hfirm with hkm | hkm
          · have e1 : ((k : Int) == (m : Int)) = true := by simp [hkm.1]
            have e2 : (B.F k == 1) = true := by simp [hkm.2]
            have HO : Hid (ofm B (R.set f m (-1)) k 1 (fun _ => x) = rc) := by have := HRC.out; unfold rcol at this; rw [if_pos hkm] at this; exact this
            obtain ⟨wa, hwa, HBa, _, hblka⟩ := box1 wr (.cells #[.int .i64 x] 3)
            have HIa := Lib.hid (val_blk hblka)
            have HBra := Lib.hid (bel HBr.out HBa.out)
            have ca := (old_of HBra.out).1
            clear hkm hblka
            go_wp2_with (go_at_call 90; refine (ofMark_any w4.heap.size wa.heap.size _ _ _ B (R.set f m (-1)) k 1 (fun _ => x) _ (((HBF.out.go HBra.out).1).raise HN4.out (bel HBw.out HBa.out).size) (RowsAt.mono HFR.out (bel HBw.out HBa.out) (Nat.le_refl _)) HIa.out (Nat.le_refl _) (by rw [HG.out.nf]; exact hkn) HLm.out).mono ?_; rintro e w6 ⟨rfl, hb6'⟩; rw [HO.out]; have HB6 := Lib.hid (bel (bel HBw.out HBa.out) hb6'); clear hb6')
            go_roundw
            case rel => exact ⟨k + 1, by omega, by go_num, ⟨q + rc, by go_num, by unfold Hid; rw [HE.out, HRC.out, HQ.out]; omega⟩, HB6.out⟩
            case measure => simp [intOf]; omega
          · have HO : Hid (ofm B (R.set f m (-1)) k (B.ncc s k) (B.can s k) = rc) := by have := HRC.out; unfold rcol at this; rw [if_neg hkm] at this; exact this
            have HIr : Hid (IntsAt N wr (.slice ao7 (B.ncc s k) c7) (B.ncc s k) (B.can s k)) := HI7.out.mono (HBr.out.mono HNs.out) (Nat.le_refl _)
            have hcase : (((k : Int) == (m : Int)) = false) ∨ (((k : Int) == (m : Int)) = true ∧ (B.F k == 1) = false) := by
              by_cases h1 : k = m
              · by_cases h2 : B.F k = 1
                · exact absurd ⟨h1, h2⟩ hkm
                · exact .inr ⟨by simp [h1], by simp [h2]⟩
              · exact .inl (by simp; omega)
            clear hkm
            rcases hcase with e1 | ⟨e1, e2⟩
            all_goals
              go_wp2_with (go_at_call 90; refine (ofMark_any w4.heap.size N _ _ _ B (R.set f m (-1)) k _ _ _ (((HBF.out.go HBr.out).1).raise HN4.out HBw.out.size) (RowsAt.mono HFR.out HBw.out (Nat.le_refl _)) HIr.out (Nat.le_trans HNs.out HBr.out.size) (by rw [HG.out.nf]; exact hkn) HLm.out).mono ?_; rintro e w6 ⟨rfl, hb6'⟩; rw [HO.out]; have HB6 := Lib.hid (bel HBw.out hb6'); clear hb6')
              go_roundw
              case rel => exact ⟨k + 1, by omega, by go_num, ⟨q + rc, by go_num, by unfold Hid; rw [HE.out, HRC.out, HQ.out]; omega⟩, HB6.out⟩
              case measure => simp [intOf]; omega
        · have Hk : Hid (k = B.nv) := by show k = _; omega
          go_wp2
          go_ret
          exact ⟨ret_int (by rw [rl_col, ← Hk.out]; exact congrArg Int.ofNat HQ.out), fin HB.out HBr.out⟩

/-- whether a value is real in a truth of a sort, as the chapter asks -/
def rval (B : Bk) (R : Fr) (s f m : Nat) (x : Int) : Nat := if cin B s m x then rl B R s f m x else 1000
theorem rval_le {B : Bk} {R : Fr} {s f m : Nat} {x : Int} (hg : Good B R) (hs : s < B.ns) (hf : f < R.n) (hm : m < B.nv) : rval B R s f m x ≤ 1000 := by
  unfold rval
  split
  · have h := rl_eq (x := x) (s := s) (by have := hg.n; omega) hf hm (hg.ncc s hs)
    have h1 := wrong_le hg s
    have h2 : mw B R s f m x ≤ R.n := bad_le _ _ _ _
    have h3 := hg.n
    omega
  · omega
theorem rval_ex {B : Bk} {R : Fr} {s f m : Nat} {x : Int} (hg : Good B R) (hs : s < B.ns) (hf : f < R.n) (hm : m < B.nv) : decide ((rval B R s f m x : Int) ≤ B.wr) = ex B R s f m x := by
  unfold rval
  cases hc : cin B s m x with
  | true =>
    rw [if_pos rfl]
    exact rl_ex hg hs hf hm (by rw [← cin_inCan]; exact hc)
  | false =>
    rw [if_neg (by simp)]
    have h9 := hg.wr9
    unfold ex
    have h0 : (anyB (B.ncc s m) fun i => decide (x = B.can s m i)) = false := by
      have := cin_inCan B s m x
      rw [hc] at this
      exact this.symm
    rw [h0, Bool.false_and]
    simp
    omega

theorem really_any (N : Nat) (v u : Value) (B : Bk) (R : Fr) (s f m : Nat) (x : Int) (w : World) (h : BookAt N w v B) (hf : FruitsAt N w u R) (hg : Good B R) (hs : s < B.ns) (hfn : f < R.n) (hm : m < B.nv) :
    Calls Try.prog 94 #[v, u, .int .i64 s, .agg #[.int .i64 f, .int .i64 m], .int .i64 x] w fun e w' => e = .returned (.int .i64 (rval B R s f m x)) ∧ Below w.heap.size w w' := by
  cases hc : cin B s m x with
  | true => rw [show rval B R s f m x = rl B R s f m x by unfold rval; rw [hc]; rfl]; exact really_yes N v u B R s f m x w h hf hg hs hfn hm hc
  | false => rw [show rval B R s f m x = 1000 by unfold rval; rw [hc]; rfl]; exact really_no N v u B R s f m x w h hf hg hs hm hc

end Go.Proofs.Ytopajgnemeodeaa
