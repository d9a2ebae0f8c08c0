/-
  JRefC: Copy of the reference.
-/
import Derived.Test.YtffnlimgjnhmpaaJMem
namespace Go.Proofs.Ytffnlimgjnhmpaa
open Go.RowKit

/-- the copy while its rows are copied: those below k are new -/
structure CpI (lo : Nat) (W : World) (v : Value) (S : JB) (A : Nat → Option Addr) (C : Nat → Nat) (k : Nat) (rv : Nat → Value) : Prop where
  pk : PK lo W v S.np S.sz rv
  new : ∀ i, i < k → RI lo W (rv i) (S.pts i)
  old : ∀ i, k ≤ i → i < S.np → rv i = .slice (A i) (S.pts i).length (C i)
  apart : ∀ i j, i < k → j < k → i ≠ j → ∀ g, blockOf (rv i) = some g → 0 < (S.pts i).length → blockOf (rv j) = some g → (S.pts j).length = 0
theorem CpI.keep {lo : Nat} {W W' : World} {v : Value} {S : JB} {A : Nat → Option Addr} {C : Nat → Nat} {k : Nat} {rv : Nat → Value} (h : CpI lo W v S A C k rv) (hk : ∀ g, lo ≤ g → g < W.heap.size → W'.heap[g]? = W.heap[g]?) : CpI lo W' v S A C k rv :=
  ⟨h.pk.keep fun g _ => hk g, fun i hi => (h.new i hi).keep fun g _ => hk g, h.old, h.apart⟩
/-- the next row: a new block -/
theorem CpI.next {lo : Nat} {W : World} {g c m : Nat} {S : JB} {A : Nat → Option Addr} {C : Nat → Nat} {k : Nat} {rv : Nat → Value} (h : CpI lo W (.slice (some ⟨g, 0, none⟩) m c) S A C k rv) (hk : k < S.np) {r : Value} {M : Nat} (hr : RI M W r (S.pts k)) (hM : lo ≤ M) (hold : ∀ i, i < k → ∀ b, blockOf (rv i) = some b → 0 < (S.pts i).length → b < M) :
    CpI lo (W.setCell ⟨g, k * 2 + 1, none⟩ r) (.slice (some ⟨g, 0, none⟩) m c) S A C (k + 1) (fun j => if j = k then r else rv j) := by
  obtain ⟨_, e, _, _, _, _, _, _, cur, hcur⟩ := h.pk.at (by omega)
  cases e
  have hoth : ∀ b, b ≠ g → (W.setCell ⟨g, k * 2 + 1, none⟩ r).heap[b]? = W.heap[b]? := fun b hb => Below.heap_setCell _ _ _ _ (by exact hb)
  have hkeep : ∀ {M : Nat} {v : Value} {l : List Int}, RI M W v l → RI M (W.setCell ⟨g, k * 2 + 1, none⟩ r) v l := fun {M v l} hv => by
    rcases hv with h0 | ⟨h0, g', cap', cur', ev, k1, k2, k3, k4⟩
    · exact .inl h0
    · exact .inr ⟨h0, g', cap', cur', ev, k1, k2, (hoth g' (types_ne k3 hcur (by decide))).trans k3, k4⟩
  have hblk : ∀ b, blockOf r = some b → 0 < (S.pts k).length → M ≤ b := fun b hb h0 => by
    rcases hr with ⟨e, _⟩ | ⟨_, g', cap', cur', ev, k1, _⟩
    · rw [e] at h0; cases h0
    · subst ev; cases hb; exact k1
  refine ⟨h.pk.setRow hk r, fun i hi => ?_, fun i h1 h2 => ?_, fun i j hi hj hij b h1 h2 h3 => ?_⟩
  · by_cases e : i = k
    · subst e; simp only [if_true]; exact (hkeep hr).lower hM
    · simp only [if_neg e]; exact hkeep (h.new i (by omega))
  · have e : i ≠ k := by omega
    simp only [if_neg e]
    exact h.old i (by omega) h2
  · by_cases ei : i = k
    · subst ei
      have ej : j ≠ i := fun e => hij e.symm
      simp only [if_true] at h1
      simp only [if_neg ej] at h3
      rcases Nat.eq_zero_or_pos (S.pts j).length with h0 | h0
      · exact h0
      · have a := hblk b h1 h2
        have c := hold j (by omega) b h3 h0
        omega
    · simp only [if_neg ei] at h1
      by_cases ej : j = k
      · subst ej
        simp only [if_true] at h3
        rcases Nat.eq_zero_or_pos (S.pts j).length with h0 | h0
        · exact h0
        · have a := hblk b h3 h0
          have c := hold i (by omega) b h1 h2
          omega
      · simp only [if_neg ej] at h3
        exact h.apart i j (by omega) (by omega) hij b h1 h2 h3
theorem RI.blk {lo : Nat} {W : World} {v : Value} {l : List Int} (h : RI lo W v l) {b : Nat} (hb : blockOf v = some b) (h0 : 0 < l.length) : b < W.heap.size := by
  rcases h with ⟨e, _⟩ | ⟨_, g, cap, cur, rfl, h1, h2, h3, h4⟩
  · rw [e] at h0; cases h0
  · cases hb; exact heap_lt h3

/-- a show in memory of the call's own -/
def OwnS (lo : Nat) (W : World) (v : Value) (S : JB) : Prop :=
  ∃ a c rv, v = .agg #[.int .i64 S.J, .int .i64 S.D, .int .i64 S.Z, .slice a S.np c] ∧ OwnP lo W 40 (.slice a S.np c) S.np S.sz rv S.pts

set_option maxHeartbeats 6400000 in
set_option maxRecDepth 100000 in
theorem copy_any (N : Nat) (v : Value) (S : JB) (w : World) (h : ShowAt N w v S) (hnp : S.np ≤ 40) (hl : ∀ i, i < S.np → (S.pts i).length ≤ 40) :
    Calls Try.prog 34 #[v] w fun e w' => ∃ v', e = .returned v' ∧ OwnS w.heap.size w' v' S ∧ Below w.heap.size w w' := by
  obtain ⟨a1, c1, rfl⟩ := h.form
  obtain ⟨ws, hws, HB, hsz, hsz1, hblk, hblk1⟩ := box2 w (.cells #[.int .i64 S.J, .int .i64 S.D, .int .i64 S.Z, .slice a1 S.np c1] 24) (.cells #[.int .i64 0, .int .i64 0, .int .i64 0, .slice none 0 0] 24)
  obtain ⟨wo, hwo, HBo, hszo, hblko⟩ := box1 ws (.cells #[.int .i64 0, .int .i64 0, .int .i64 0, .slice none 0 0] 24)
  have q0 := (HBo.out.cell (p := ⟨w.heap.size, 0, none⟩) hsz).trans (cell_blk hblk 0 rfl)
  have q1 := (HBo.out.cell (p := ⟨w.heap.size, 1, none⟩) hsz).trans (cell_blk hblk 1 rfl)
  have q2 := (HBo.out.cell (p := ⟨w.heap.size, 2, none⟩) hsz).trans (cell_blk hblk 2 rfl)
  have q3 := (HBo.out.cell (p := ⟨w.heap.size, 3, none⟩) hsz).trans (cell_blk hblk 3 rfl)
  have e0 := cell_blk hblk 0 rfl
  have e1 := cell_blk hblk 1 rfl
  have e2 := cell_blk hblk 2 rfl
  have e3 := cell_blk hblk 3 rfl
  have HBK := Lib.hid (h.go (HB.out.trans (HBo.out.mono HB.out.size)))
  obtain ⟨A, C, hcap, _, hrows, hcells⟩ := h.plates.open
  have HNW := h.1
  have HRW := Lib.hid hrows
  have HCL := Lib.hid hcells
  have HNO : Hid (N ≤ wo.heap.size) := HBK.out.1
  have HZ1 := Lib.hid hblk1
  have HZ0 := Lib.hid hblk
  have HNP := Lib.hid hnp
  have HL := Lib.hid hl
  have hnp1 : S.np ≤ 1000000 := by omega
  clear hrows hcells hblk hblk1 h hnp hl
  go_enter Try.func34, Try.ntmps34
  go_upto_region 1 with fail
  have f0 := free_blk hblko 0
  have f1 := free_blk hblko 1
  have f2 := free_blk hblko 2
  have f3 := free_blk hblko 3
  have z0 := cell_blk hblko 0 rfl
  have z1 := cell_blk hblko 1 rfl
  have z2 := cell_blk hblko 2 rfl
  have z3 := cell_blk hblko 3 rfl
  go_upto_region 2 with fail
  obtain ⟨w1, hw1, hz1, ho1, hb1⟩ := put4o hblko (.int .i64 S.J) (.int .i64 S.D) (.int .i64 S.Z) (.slice a1 S.np c1)
  rw [hw1]
  have hs1 := hb1.size
  have HB1 : Hid (Below ws.heap.size ws w1) := HBo.out.trans hb1
  have r3 := (HB1.out.cell (p := ⟨w.heap.size, 3, none⟩) hsz).trans e3
  have t3 := cell_blk hz1 3 rfl
  have g3 := free_blk hz1 3
  have HO := Lib.hid hz1
  have hsw1 : w.heap.size < w1.heap.size := Nat.lt_of_lt_of_le hsz HB1.out.size
  have hso1 : ws.heap.size < w1.heap.size := Nat.lt_of_lt_of_le hszo hs1
  have hsN : wo.heap.size ≤ ws.heap.size + 1 := by rw [← hwo]; simp
  have HNw : Hid (N ≤ w.heap.size) := HNW
  have HCL1 : Hid (∀ W, Below w.heap.size w W → 0 < S.np → ∃ b off, a1 = some ⟨b, off, none⟩ ∧ b < N ∧ ∀ i, i < S.np → W.cell? ⟨b, off + i * 2, none⟩ = some (.int .i64 (S.sz i)) ∧ W.cell? ⟨b, off + i * 2 + 1, none⟩ = some (.slice (A i) (S.pts i).length (C i))) := fun W hW h0 => by
    obtain ⟨b, off, e, hb, hr⟩ := HCL.out h0
    have hbw : b < w.heap.size := by have := HNw.out; omega
    exact ⟨b, off, e, hb, fun i hi => ⟨(hW.cell (p := ⟨b, off + i * 2, none⟩) hbw).trans (hr i hi).1, (hW.cell (p := ⟨b, off + i * 2 + 1, none⟩) hbw).trans (hr i hi).2⟩⟩
  have HBw1 : Hid (Below w.heap.size w w1) := HB.out.trans (HB1.out.mono HB.out.size)
  clear hw1 hwo q0 q1 q2 q3 e0 e1 e2 e3 hz1 ho1 hb1
  go_upto_region 3 with (at_builtin; go_must (refine wpList_cloneP _ rfl _ _ rfl rfl N w1.heap.size _ S.np _ S.sz (fun i => .slice (A i) (S.pts i).length (C i)) rfl rfl (HCL1.out _ (HBw1.out.trans (below_alloc HBw1.out.size _))) (by simp; have := HNw.out; omega) hnp1 ?_); intro v2 w2 hp2 hb2; obtain ⟨a2, c2, rfl⟩ := hp2.form; have HP2 := Lib.hid hp2; have HB2 : Hid (Below w1.heap.size w1 w2) := (below_alloc (Nat.le_refl _) _).trans (hb2.mono (by simp)); clear hp2 hb2; have hz2 := (HB2.out.block _ hso1).trans HO.out; have HO2 := Lib.hid hz2; have tt3 := cell_blk hz2 3 rfl; have gg3 := free_blk hz2 3; clear hz2)
  obtain ⟨w3, hw3, hz3, ho3, hb3⟩ := set_step (n := ws.heap.size) (W0 := w2) HO2.out (fun _ _ => rfl) 3 (.slice a2 S.np c2) (Nat.le_refl _)
  rw [hw3]
  have HP3 : Hid (CpI w1.heap.size w3 (.slice a2 S.np c2) S A C 0 (fun i => .slice (A i) (S.pts i).length (C i))) := by
    refine ⟨(HP2.out.lower (by simp)).keep fun g _ h1 _ => ho3 g ?_, fun i hi => absurd hi (Nat.not_lt_zero i), fun i _ _ => rfl, fun i j hi => absurd hi (Nat.not_lt_zero i)⟩
    have h0 : wo.heap.size ≤ w1.heap.size := hs1
    omega
  have HZ3 : Hid (w3.heap[ws.heap.size]? = some (.cells #[.int .i64 S.J, .int .i64 S.D, .int .i64 S.Z, .slice a2 S.np c2] 24)) := hz3
  have HB3 : Hid (Below ws.heap.size ws w3) := HB1.out.trans ((HB2.out.mono (Nat.le_of_lt hso1)).trans hb3)
  clear hw3 hz3 ho3 hb3 t3 g3 tt3 gg3 r3 f0 f1 f2 f3 z0 z1 z2 z3 HP2
  go_wp2_with fail
  go_loopw [4] (fun i wr => ∃ k : Nat, k ≤ S.np ∧ i = .int .i64 k ∧ Hid ((∃ rv, CpI w1.heap.size wr (.slice a2 S.np c2) S A C k rv) ∧ wr.heap[ws.heap.size]? = some (.cells #[.int .i64 S.J, .int .i64 S.D, .int .i64 S.Z, .slice a2 S.np c2] 24) ∧ Below ws.heap.size ws wr)) (fun i _ => S.np - (intOf i).toNat)
  case atStart => exact ⟨0, Nat.zero_le _, rfl, ⟨_, HP3.out⟩, HZ3.out, HB3.out⟩
  case round =>
    obtain ⟨k, hk, rfl, hI⟩ := hrel
    obtain ⟨⟨rv, hcp⟩, hz, hb⟩ := hI
    have HCP := Lib.hid hcp
    have HZ := Lib.hid hz
    have HBr := Lib.hid hb
    have t3 := cell_blk hz 3 rfl
    have hgw := heap_lt hz
    have hsr := hb.size
    clear hcp hz hb
    by_cases hkn : k < S.np
    · obtain ⟨b, off, rfl, hbN, hrr⟩ := HCL1.out _ (HB.out.trans (HBr.out.mono HB.out.size)) (by omega)
      have dk := (hrr k hkn).2
      obtain ⟨g, rfl, _, _, hg1, hg2, hgc, hgf, _⟩ := HCP.out.pk.at (by omega)
      have gk := (hgc k hkn).2
      have gf := hgf (k * 2 + 1)
      obtain ⟨hlC, hLI⟩ := HRW.out k hkn
      obtain ⟨pl, hpl⟩ : ∃ pl, S.pts k = pl := ⟨_, rfl⟩
      rw [hpl] at dk hLI
      obtain ⟨m, hm⟩ : ∃ m, pl.length = m := ⟨_, rfl⟩
      rw [hm] at dk hLI
      have HM := Lib.hid hm
      have HPL := Lib.hid hpl
      have HLI := Lib.hid (hLI.go HNw.out (HB.out.trans (HBr.out.mono HB.out.size)))
      have hm40 : m ≤ 1000000 := by have := HL.out k hkn; rw [hpl, hm] at this; omega
      have r3 := (HBr.out.cell (p := ⟨w.heap.size, 3, none⟩) hsz).trans (cell_blk HZ0.out 3 rfl)
      have hki : (k : Int) < (S.np : Int) := by omega
      clear hrr hgc hgf hlC hLI hpl hm
      go_upto_region 6 with fail
      refine wp_region_held_drew (S := fun w' => w'.cell? ⟨ws.heap.size, 3, none⟩ = some (.slice (some ⟨g, 0, none⟩) S.np c2) ∧ w'.cell? ⟨w.heap.size, 3, none⟩ = some (.slice (some ⟨b, off, none⟩) S.np c1) ∧ w'.cell? ⟨b, off + k * 2 + 1, none⟩ = some (.slice (A k) m (C k))) (by kernel_rfl) ⟨t3, r3, dk⟩ (fun hHeld => ?_)
      (refine wpAnyH_take (i := 0) (v := ?_) rfl (by kernel_rfl) (by kernel_rfl) (by kernel_rfl) (fun _ _ _ h => h) (Or.inl ⟨by rfl, ?_⟩) (by assumption) ?_; rotate_left; (focus (intro w hSw; (try dsimp only at hSw); go_simp; (try with_reducible rfl))); (try simp only [List.getElem_toArray, List.getElem_cons_zero, List.getElem_cons_succ, Act.put, List.setIfInBounds_toArray, List.set_cons_zero, List.set_cons_succ])); (refine wpAnyH_take (i := 1) (v := ?_) rfl (by kernel_rfl) (by kernel_rfl) (by kernel_rfl) (fun _ _ _ h => h) (Or.inl ⟨by rfl, ?_⟩) (by assumption) ?_; rotate_left; (focus (intro w hSw; (try dsimp only at hSw); go_simp; (try with_reducible rfl))); (try simp only [List.getElem_toArray, List.getElem_cons_zero, List.getElem_cons_succ, Act.put, List.setIfInBounds_toArray, List.set_cons_zero, List.set_cons_succ])); (refine wpAnyH_take (i := 2) (v := ?_) rfl (by kernel_rfl) (by kernel_rfl) (by kernel_rfl) (fun _ _ _ h => h) (Or.inl ⟨by rfl, ?_⟩) (by assumption) ?_; rotate_left; (focus (intro w hSw; (try dsimp only at hSw); go_simp; (try with_reducible rfl))); (try simp only [List.getElem_toArray, List.getElem_cons_zero, List.getElem_cons_succ, Act.put, List.setIfInBounds_toArray, List.set_cons_zero, List.set_cons_succ]))
      (refine wpAnyH_take (i := 4) (v := ?_) rfl (by kernel_rfl) (by kernel_rfl) (by kernel_rfl) (fun _ _ _ h => h) (Or.inl ⟨by rfl, ?_⟩) (by assumption) ?_; rotate_left; (focus (intro w hSw; (try dsimp only at hSw); go_simp; (try with_reducible rfl))); (try simp only [List.getElem_toArray, List.getElem_cons_zero, List.getElem_cons_succ, Act.put, List.setIfInBounds_toArray, List.set_cons_zero, List.set_cons_succ])); (refine wpAnyH_take (i := 5) (v := ?_) rfl (by kernel_rfl) (by kernel_rfl) (by kernel_rfl) (fun _ _ _ h => h) (Or.inl ⟨by rfl, ?_⟩) (by assumption) ?_; rotate_left; (focus (intro w hSw; (try dsimp only at hSw); go_simp; (try with_reducible rfl))); (try simp only [List.getElem_toArray, List.getElem_cons_zero, List.getElem_cons_succ, Act.put, List.setIfInBounds_toArray, List.set_cons_zero, List.set_cons_succ])); (refine wpAnyH_take (i := 6) (v := ?_) rfl (by kernel_rfl) (by kernel_rfl) (by kernel_rfl) (fun _ _ _ h => h) (Or.inl ⟨by rfl, ?_⟩) (by assumption) ?_; rotate_left; (focus (intro w hSw; (try dsimp only at hSw); go_simp; (try with_reducible rfl))); (try simp only [List.getElem_toArray, List.getElem_cons_zero, List.getElem_cons_succ, Act.put, List.setIfInBounds_toArray, List.set_cons_zero, List.set_cons_succ])); (refine wpAnyH_take (i := 7) (v := ?_) rfl (by kernel_rfl) (by kernel_rfl) (by kernel_rfl) (fun _ _ _ h => h) (Or.inl ⟨by rfl, ?_⟩) (by assumption) ?_; rotate_left; (focus (intro w hSw; (try dsimp only at hSw); go_simp; (try with_reducible rfl))); (try simp only [List.getElem_toArray, List.getElem_cons_zero, List.getElem_cons_succ, Act.put, List.setIfInBounds_toArray, List.set_cons_zero, List.set_cons_succ])); (refine wpAnyH_take (i := 8) (v := ?_) rfl (by kernel_rfl) (by kernel_rfl) (by kernel_rfl) (fun _ _ _ h => h) (Or.inl ⟨by rfl, ?_⟩) (by assumption) ?_; rotate_left; (focus (intro w hSw; (try dsimp only at hSw); go_simp; (try with_reducible rfl))); (try simp only [List.getElem_toArray, List.getElem_cons_zero, List.getElem_cons_succ, Act.put, List.setIfInBounds_toArray, List.set_cons_zero, List.set_cons_succ])); (refine wpAnyH_take (i := 9) (v := ?_) rfl (by kernel_rfl) (by kernel_rfl) (by kernel_rfl) (fun _ _ _ h => h) (Or.inl ⟨by rfl, ?_⟩) (by assumption) ?_; rotate_left; (focus (intro w hSw; (try dsimp only at hSw); go_simp; (try with_reducible rfl))); (try simp only [List.getElem_toArray, List.getElem_cons_zero, List.getElem_cons_succ, Act.put, List.setIfInBounds_toArray, List.set_cons_zero, List.set_cons_succ]))
      refine wpAnyH_ready (rs := [3]) (by kernel_rfl) (by simp) ?_; refine AllReadyH.cons rfl (fun K hK => ?_) AllReadyH.nil; go_simp
      obtain ⟨we, hwe⟩ : ∃ we, (wr.alloc (.cells #[] 3)).drew = we := ⟨_, rfl⟩
      rw [hwe]
      have HBe : Hid (Below wr.heap.size wr we) := by rw [← hwe]; exact (below_alloc (Nat.le_refl _) _).drew
      have hSe : we.cell? ⟨ws.heap.size, 3, none⟩ = some (.slice (some ⟨g, 0, none⟩) S.np c2) ∧ we.cell? ⟨w.heap.size, 3, none⟩ = some (.slice (some ⟨b, off, none⟩) S.np c1) ∧ we.cell? ⟨b, off + k * 2 + 1, none⟩ = some (.slice (A k) m (C k)) :=
        ⟨(HBe.out.cell (p := ⟨ws.heap.size, 3, none⟩) hgw).trans t3, (HBe.out.cell (p := ⟨w.heap.size, 3, none⟩) (Nat.lt_of_lt_of_le hsz hsr)).trans r3, (HBe.out.cell (p := ⟨b, off + k * 2 + 1, none⟩) (by have := HNw.out; show b < _; omega)).trans dk⟩
      clear hwe
      refine hK.out _ _ hSe (fun hHeld => ?_); clear hK K; (try simp only [List.getElem_toArray, List.getElem_cons_zero, List.getElem_cons_succ, Act.put, List.setIfInBounds_toArray, List.set_cons_zero, List.set_cons_succ])
      refine wpAnyH_ready (rs := [10]) (by kernel_rfl) (by simp) ?_; refine AllReadyH.cons rfl (fun K hK => ?_) AllReadyH.nil; rw [if_pos (by rfl)]
      refine wp_cloneI _ (.tmp 21) (.tmp 27) rfl rfl N wr.heap.size _ m (C k) pl HM.out.symm rfl rfl (HLI.out.go (by have := HNw.out; omega) HBe.out) (by have := HNw.out; have := HBe.out.size; omega) hm40 ?_
      intro vf wf hrf hbf
      obtain ⟨af, cf, rfl⟩ := hrf.form
      rw [HM.out] at hrf ⊢
      have HRF := Lib.hid hrf
      have HBf : Hid (Below wr.heap.size wr wf) := HBe.out.trans (hbf.mono HBe.out.size)
      have hSf : wf.cell? ⟨ws.heap.size, 3, none⟩ = some (.slice (some ⟨g, 0, none⟩) S.np c2) ∧ wf.cell? ⟨w.heap.size, 3, none⟩ = some (.slice (some ⟨b, off, none⟩) S.np c1) ∧ wf.cell? ⟨b, off + k * 2 + 1, none⟩ = some (.slice (A k) m (C k)) :=
        ⟨(HBf.out.cell (p := ⟨ws.heap.size, 3, none⟩) hgw).trans t3, (HBf.out.cell (p := ⟨w.heap.size, 3, none⟩) (Nat.lt_of_lt_of_le hsz hsr)).trans r3, (HBf.out.cell (p := ⟨b, off + k * 2 + 1, none⟩) (by have := HNw.out; show b < _; omega)).trans dk⟩
      clear hrf hbf hSe
      refine hK.out _ _ hSf (fun hHeld => ?_); clear hK K; (try simp only [List.getElem_toArray, List.getElem_cons_zero, List.getElem_cons_succ, Act.put, List.setIfInBounds_toArray, List.set_cons_zero, List.set_cons_succ])
      (refine wpAnyH_take (i := 11) (v := ?_) rfl (by kernel_rfl) (by kernel_rfl) (by kernel_rfl) (fun _ _ _ h => h) (Or.inl ⟨by rfl, ?_⟩) (by assumption) ?_; rotate_left; (focus (intro w hSw; (try dsimp only at hSw); go_simp; (try with_reducible rfl))); (try simp only [List.getElem_toArray, List.getElem_cons_zero, List.getElem_cons_succ, Act.put, List.setIfInBounds_toArray, List.set_cons_zero, List.set_cons_succ])); (refine wpAnyH_take (i := 12) (v := ?_) rfl (by kernel_rfl) (by kernel_rfl) (by kernel_rfl) (fun _ _ _ h => h) (Or.inl ⟨by rfl, ?_⟩) (by assumption) ?_; rotate_left; (focus (intro w hSw; (try dsimp only at hSw); go_simp; (try with_reducible rfl))); (try simp only [List.getElem_toArray, List.getElem_cons_zero, List.getElem_cons_succ, Act.put, List.setIfInBounds_toArray, List.set_cons_zero, List.set_cons_succ]))
      have gf2 : wf.frozen? ⟨g, k * 2 + 1, none⟩ = false := (HBf.out.frozen (p := ⟨g, k * 2 + 1, none⟩) hg2).trans gf
      have gk2 : wf.cell? ⟨g, k * 2 + 1, none⟩ = some (rv k) := (HBf.out.cell (p := ⟨g, k * 2 + 1, none⟩) hg2).trans gk
      refine wpAnyH_ready (rs := [13]) (by kernel_rfl) (by simp) ?_; refine AllReadyH.cons rfl (fun K hK => ?_) AllReadyH.nil; go_simp
      obtain ⟨wg, hwg⟩ : ∃ wg, wf.setCell ⟨g, k * 2 + 1, none⟩ (.slice af m cf) = wg := ⟨_, rfl⟩
      rw [hwg]
      have HBg : Hid (Below g wf wg) := by rw [← hwg]; exact (Below.refl g wf).setCell (p := ⟨g, k * 2 + 1, none⟩) (Nat.le_refl _) _
      have hgs : ws.heap.size < g := by omega
      have hSg : wg.cell? ⟨ws.heap.size, 3, none⟩ = some (.slice (some ⟨g, 0, none⟩) S.np c2) ∧ wg.cell? ⟨w.heap.size, 3, none⟩ = some (.slice (some ⟨b, off, none⟩) S.np c1) ∧ wg.cell? ⟨b, off + k * 2 + 1, none⟩ = some (.slice (A k) m (C k)) :=
        ⟨(HBg.out.cell (p := ⟨ws.heap.size, 3, none⟩) hgs).trans hSf.1, (HBg.out.cell (p := ⟨w.heap.size, 3, none⟩) (by show w.heap.size < g; omega)).trans hSf.2.1, (HBg.out.cell (p := ⟨b, off + k * 2 + 1, none⟩) (by have := HNw.out; show b < g; omega)).trans hSf.2.2⟩
      have HCPg : Hid (∃ rv, CpI w1.heap.size wg (.slice (some ⟨g, 0, none⟩) S.np c2) S A C (k + 1) rv) := by
        refine ⟨fun j => if j = k then .slice af m cf else rv j, ?_⟩
        rw [← hwg]
        refine (HCP.out.keep fun g _ h => HBf.out.block g h).next hkn (M := we.heap.size) (r := .slice af m cf) (by rw [HPL.out]; exact HRF.out) ?_ fun i hi b hb h0 => ?_
        · have := HBe.out.size; omega
        · have h1 := (HCP.out.new i hi).blk hb h0
          have := HBe.out.size
          omega
      have HZg : Hid (wg.heap[ws.heap.size]? = some (.cells #[.int .i64 S.J, .int .i64 S.D, .int .i64 S.Z, .slice (some ⟨g, 0, none⟩) S.np c2] 24)) := (HBg.out.block _ hgs).trans ((HBf.out.block _ hgw).trans HZ.out)
      have HBrg : Hid (Below ws.heap.size ws wg) := HBr.out.trans ((HBf.out.mono hsr).trans (HBg.out.mono (Nat.le_of_lt hgs)))
      clear hwg hSf gf2 gk2
      refine hK.out _ _ hSg (fun hHeld => ?_); clear hK K; (try simp only [List.getElem_toArray, List.getElem_cons_zero, List.getElem_cons_succ, Act.put, List.setIfInBounds_toArray, List.set_cons_zero, List.set_cons_succ])
      refine wpAnyH_done (by kernel_rfl) ?_ _; clear hHeld
      clear hSg
      go_wp2
      go_roundw
      case rel => exact ⟨k + 1, by omega, by go_num, HCPg.out, HZg.out, HBrg.out⟩
      case measure => simp [intOf]; omega
    · have hke : k = S.np := by omega
      have HKE := Lib.hid hke
      have hki : ¬ (k : Int) < (S.np : Int) := by omega
      clear hke
      have t0 := cell_blk HZ.out 0 rfl
      have t1 := cell_blk HZ.out 1 rfl
      have t2 := cell_blk HZ.out 2 rfl
      have hzr := (HBr.out.block _ hsz1).trans HZ1.out
      have x0 := cell_blk hzr 0 rfl
      have x1 := cell_blk hzr 1 rfl
      have x2 := cell_blk hzr 2 rfl
      have x3 := cell_blk hzr 3 rfl
      have y0 := free_blk hzr 0
      have y1 := free_blk hzr 1
      have y2 := free_blk hzr 2
      have y3 := free_blk hzr 3
      have HZR := Lib.hid hzr
      clear hzr
      go_wp2
      obtain ⟨wz, hwz, hzz, hoz, hbz⟩ := put4o HZR.out (.int .i64 S.J) (.int .i64 S.D) (.int .i64 S.Z) (.slice a2 S.np c2)
      rw [hwz]
      refine bodyPost_ret (v := .agg #[.int .i64 S.J, .int .i64 S.D, .int .i64 S.Z, .slice a2 S.np c2]) (resShow rfl rfl rfl hzz) rfl ?_
      have hcp := HCP.out.keep (W' := wz) fun g h1 _ => hoz g (by have := HB1.out.size; omega)
      refine ⟨_, rfl, ⟨a2, c2, rv, rfl, ?_⟩, HB.out.trans ((HBr.out.mono HB.out.size).trans (hbz.mono (by omega)))⟩
      exact (hcp.pk.lower (by omega)).ownP (fun i hi => (hcp.new i (by have := HKE.out; omega)).lower (by omega)) fun i j hi hj hij b h1 h2 h3 => hcp.apart i j (by have := HKE.out; omega) (by have := HKE.out; omega) hij b h1 h2 h3

end Go.Proofs.Ytffnlimgjnhmpaa
