/-
  With: contracts of the functions that its theorems name.
-/
import Derived.Test.YtopajgnemeodeaaBoxA
namespace Go.Proofs.Ytopajgnemeodeaa
open Go.RowKit

theorem Try.infoInts : (Try.prog.info? 22).map (fun i => (i.zero, i.size, i.bytes)) = some (some (.slice none 0 0), 1, 24) := by kernel_rfl

/-- the first n of x -/
def fromF (n : Nat) (x : Nat → Int) : List Int := (List.range n).map x
theorem fromF_len (n : Nat) (x : Nat → Int) : (fromF n x).length = n := by simp [fromF]

theorem addr_add (b off j : Nat) : (⟨b, off, none⟩ : Addr).add j = ⟨b, off + j, none⟩ := by simp [Addr.add]

set_option maxHeartbeats 1000000 in
theorem cloneInts_any (N : Nat) (v : Value) (n : Nat) (x : Nat → Int) (w : World) (h : IntsAt N w v n x) (hN : N ≤ w.heap.size) (h0 : 0 < n) (h40 : n ≤ 40) :
    Calls Try.prog 101 #[v] w fun e w' => ∃ g cap, e = .returned (.slice (some ⟨g, 0, none⟩) n cap) ∧ w.heap.size ≤ g ∧ w'.ownsRow w.heap.size 3 1 (.slice (some ⟨g, 0, none⟩) n cap) n ((fromF n x).map (Value.int .i64)) ∧ Below w.heap.size w w' := by
  obtain ⟨ao, cap, rfl, hn, hc⟩ := h
  obtain ⟨b, off, rfl, hb, hr⟩ := hc h0
  obtain ⟨i0, hi, hz0, hz1, hz2⟩ := info_parts Try.infoInt
  have hcells : Hid (∀ (W : World), (∀ i, i < n → W.cell? ⟨b, off + i, none⟩ = w.cell? ⟨b, off + i, none⟩) → ∀ (j : Nat) (u : Value), ((fromF n x).map (Value.int .i64))[j]? = some u → W.cell? ((⟨b, off, none⟩ : Addr).add j) = some u) := by
    intro W hW j u hj
    have hjn : j < n := by
      have := (List.getElem?_eq_some_iff.1 hj).1
      simpa [fromF] using this
    obtain ⟨r, h1, rfl⟩ := hr j hjn
    have : u = .int .i64 (x j) := by
      rw [List.getElem?_map] at hj
      simp [fromF, hjn] at hj
      exact hj.symm
    rw [this, addr_add]
    exact (hW j hjn).trans h1
  clear hr hc
  have q22 : ∀ (w : World) (a : Option Addr) (n c n' c' : Nat), (binOp .eql 22 (.slice a n c) (.slice none n' c')).run Try.prog w = .ok (.bool a.isNone) w := fun w a n c n' c' => Lib.run_eql_slice_nil w _ _ a n c n' c' Try.underlying22
  go_enter Try.func101, Try.ntmps101
  go_wp2_with (at_builtin; refine wpList_append_own _ rfl _ _ 22 rfl w.heap.size 3 i0 (.int .i64 0) 1 8 Try.underlying22 hi hz0 hz1 hz2 rfl (by decide) _ _ _ rfl (World.ownsRow_made w #[] 0 (Nat.le_refl _) (Nat.zero_le _) rfl) ⟨b, off, none⟩ n cap ((fromF n x).map (Value.int .i64)) rfl ?qc1 ?qc2 ?qc3 ?qc4 ?qc5 ?qc6 ?_)
  case qc1 => simp [fromF]
  case qc2 => exact hcells.out _ fun i hi => World.cell?_alloc_lt w _ _ (by show b < w.heap.size; omega)
  case qc3 => intro u hu; obtain ⟨x, _, rfl⟩ := List.mem_map.1 hu; rfl
  case qc4 => unfold maxLen; omega
  case qc5 => omega
  case qc6 => simp
  intro v' w1 hown hgrow hnil
  obtain ⟨hl, ⟨rfl, h2⟩ | ⟨g, cap', cur, rfl, hg, hh⟩⟩ := hown
  · omega
  go_wp2
  go_ret
  exact ⟨g, cap', by simp, hg, ⟨hl, .inr ⟨g, cap', cur, rfl, hg, hh⟩⟩, ((Below.refl _ w).alloc (Nat.le_refl _) _).grown hgrow (by simp) (by intro k hk; simp [Value.ownBlock] at hk; omega)⟩

/-- the values of a list's cells -/
def cellsOf (w : World) (b off n : Nat) : List Value := (List.range n).map fun i => (w.cell? ⟨b, off + i, none⟩).getD default

set_option maxHeartbeats 1000000 in
theorem cloneRows_any (N : Nat) (v : Value) (n : Nat) (E : Nat → Value → Prop) (w : World) (h : ListAt N w E v n) (hE : ∀ i r, i < n → E i r → r.oneCell' = true) (hN : N ≤ w.heap.size) (h0 : 0 < n) (h40 : n ≤ 40) :
    Calls Try.prog 102 #[v] w fun e w' => ∃ g cap rs, e = .returned (.slice (some ⟨g, 0, none⟩) n cap) ∧ w.heap.size ≤ g ∧ w'.ownsRow w.heap.size 22 1 (.slice (some ⟨g, 0, none⟩) n cap) n rs ∧ rs.length = n ∧ (∀ i, i < n → ∃ r, rs[i]? = some r ∧ E i r) ∧ Below w.heap.size w w' := by
  obtain ⟨ao, cap, rfl, hn, hc⟩ := h
  obtain ⟨b, off, rfl, hb, hr⟩ := hc h0
  obtain ⟨i0, hi, hz0, hz1, hz2⟩ := info_parts Try.infoInts
  have hat : Hid (∀ i, i < n → ∃ r, (cellsOf w b off n)[i]? = some r ∧ w.cell? ⟨b, off + i, none⟩ = some r ∧ E i r) := by
    intro i hi
    obtain ⟨r, h1, h2⟩ := hr i hi
    exact ⟨r, by simp [cellsOf, hi, h1], h1, h2⟩
  have hcells : Hid (∀ (W : World), (∀ i, i < n → W.cell? ⟨b, off + i, none⟩ = w.cell? ⟨b, off + i, none⟩) → ∀ (j : Nat) (u : Value), (cellsOf w b off n)[j]? = some u → W.cell? ((⟨b, off, none⟩ : Addr).add j) = some u) := by
    intro W hW j u hj
    have hjn : j < n := by
      have := (List.getElem?_eq_some_iff.1 hj).1
      simpa [cellsOf] using this
    obtain ⟨r, h1, h2, _⟩ := hat.out j hjn
    rw [addr_add, hW j hjn, h2, ← h1, hj]
  have hone : Hid (∀ u ∈ cellsOf w b off n, u.oneCell' = true) := by
    intro u hu
    obtain ⟨i, hi, rfl⟩ := List.mem_map.1 hu
    have hi' := List.mem_range.1 hi
    obtain ⟨r, h1, h2⟩ := hr i hi'
    rw [h1]; exact hE i r hi' h2
  have hl : Hid ((cellsOf w b off n).length = n) := by unfold Hid; simp [cellsOf]
  clear hr hc hE
  generalize cellsOf w b off n = rs at *
  have q22 : ∀ (w : World) (a : Option Addr) (n c n' c' : Nat), (binOp .eql 26 (.slice a n c) (.slice none n' c')).run Try.prog w = .ok (.bool a.isNone) w := fun w a n c n' c' => Lib.run_eql_slice_nil w _ _ a n c n' c' Try.underlying26
  go_enter Try.func102, Try.ntmps102
  go_wp2_with (at_builtin; refine wpList_append_own _ rfl _ _ 26 rfl w.heap.size 22 i0 (.slice none 0 0) 1 24 Try.underlying26 hi hz0 hz1 hz2 rfl (by decide) _ _ _ rfl (World.ownsRow_made w #[] 0 (Nat.le_refl _) (Nat.zero_le _) rfl) ⟨b, off, none⟩ n cap rs rfl ?qc1 ?qc2 ?qc3 ?qc4 ?qc5 ?qc6 ?_)
  case qc1 => rw [hl.out]; omega
  case qc2 => exact hcells.out _ fun i hi => World.cell?_alloc_lt w _ _ (by show b < w.heap.size; omega)
  case qc3 => exact hone.out
  case qc4 => unfold maxLen; omega
  case qc5 => omega
  case qc6 => simp
  intro v' w1 hown hgrow hnil
  obtain ⟨hl2, ⟨rfl, h2⟩ | ⟨g, cap', cur, rfl, hg, hh⟩⟩ := hown
  · omega
  go_wp2
  go_ret
  exact ⟨g, cap', rs, by simp, hg, ⟨hl2, .inr ⟨g, cap', cur, rfl, hg, hh⟩⟩, hl.out, fun i hi => by obtain ⟨r, h1, _, h3⟩ := hat.out i hi; exact ⟨r, h1, h3⟩, ((Below.refl _ w).alloc (Nat.le_refl _) _).grown hgrow (by simp) (by intro k hk; simp [Value.ownBlock] at hk; omega)⟩

end Go.Proofs.Ytopajgnemeodeaa

namespace Go.Proofs.Ytopajgnemeodeaa
open Go.RowKit

/-- fruits of which one more value was seen -/
def Fr.set (R : Fr) (f m : Nat) (x : Int) : Fr := ⟨R.n, R.L, fun g i => if g = f ∧ i = m then x else R.X g i⟩

/-- a call that makes a box -/
def GivesBox (w : World) (B : Bk) (R : Fr) (e : Ending) (w' : World) : Prop := ∃ u, e = .returned u ∧ BoxAt w'.heap.size w' u B R ∧ Below w.heap.size w w'

theorem cell_blk {W : World} {b : Nat} {cs : Array Value} {t : TypeId} (h : W.heap[b]? = some (.cells cs t)) (i : Nat) {x : Value} (hx : cs[i]? = some x) : W.cell? ⟨b, i, none⟩ = some x := by
  simp [World.cell?, h, hx]
theorem free_blk {W : World} {b : Nat} {cs : Array Value} {t : TypeId} (h : W.heap[b]? = some (.cells cs t)) (i : Nat) : W.frozen? ⟨b, i, none⟩ = false := by
  simp [World.frozen?, h]
theorem own_cell {W : World} {base g n cap : Nat} {e : TypeId} {xs : List Value} (h : W.ownsRow base e 1 (.slice (some ⟨g, 0, none⟩) n cap) n xs) (j : Nat) {x : Value} (hj : xs[j]? = some x) : W.cell? ⟨g, j, none⟩ = some x := by
  have hl : j < n * 1 := by have := (List.getElem?_eq_some_iff.1 hj).1; rw [h.1] at this; exact this
  rw [World.ownsRow.cellAt h j hl]; exact hj
theorem own_free {W : World} {base g n cap : Nat} {e : TypeId} {xs : List Value} (h : W.ownsRow base e 1 (.slice (some ⟨g, 0, none⟩) n cap) n xs) (j : Nat) : W.frozen? ⟨g, j, none⟩ = false := World.ownsRow.frozenAt h j

set_option maxHeartbeats 4000000 in
theorem with_any (N : Nat) (v : Value) (B : Bk) (R : Fr) (f m : Nat) (x : Int) (w : World) (h : BoxAt N w v B R) (hg : Good B R) (hf : f < R.n) (hm : m < B.nv) :
    Calls Try.prog 95 #[v, .agg #[.int .i64 f, .int .i64 m], .int .i64 x] w (GivesBox w B (R.set f m x)) := by
  have H : Hid (BoxAt N w v B R) := h
  have HG : Hid _ := Lib.hid hg
  obtain ⟨hN, a1, c1, a2, c2, a3, c3, af, cf, rfl, h1, h2, h3, h4⟩ := h
  have HR : Hid (FruitsAt N w (.slice af R.n cf) R) := h4
  obtain ⟨_, _, e4, _, hc4⟩ := h4
  cases e4
  obtain ⟨b4, off4, rfl, hb4, hr4⟩ := hc4 (by omega)
  obtain ⟨r4, hcell4, hrow⟩ := hr4 f hf
  have hLf : R.L f = B.nv := hg.L f hf
  have HI : Hid (IntsAt N w r4 (R.L f) (R.X f)) := hrow
  obtain ⟨a5, c5, rfl, hn5, _⟩ := hrow
  have HLF : Hid _ := Lib.hid hLf
  have H6 := hg.nv
  have H5 := hg.n
  have g4 : b4 < w.heap.size := by omega
  clear hg hc4 hr4 h1 h2 h3 hLf
  obtain ⟨ws, hws⟩ : ∃ ws : World, ((w.alloc (.cells #[.slice a1 B.nv c1, .slice a2 B.nf c2, .slice a3 B.ns c3, .int .i64 B.wr, .slice (some ⟨b4, off4, none⟩) R.n cf] 93)).alloc (.cells #[.int .i64 f, .int .i64 m] 40)).alloc (.cells #[.slice none 0 0, .slice none 0 0, .slice none 0 0, .int .i64 0, .slice none 0 0] 93) = ws := ⟨_, rfl⟩
  have hsz : ws.heap.size = w.heap.size + 3 := by rw [← hws]; simp
  have hB0 : Below w.heap.size w ws := by
    rw [← hws]; exact (((Below.refl _ w).alloc (Nat.le_refl _) _).alloc (by simp) _).alloc (by simp; omega) _
  have hbox : Hid (∀ W, Below ws.heap.size ws W → W.heap[w.heap.size]? = some (.cells #[.slice a1 B.nv c1, .slice a2 B.nf c2, .slice a3 B.ns c3, .int .i64 B.wr, .slice (some ⟨b4, off4, none⟩) R.n cf] 93) ∧ W.heap[w.heap.size + 1]? = some (.cells #[.int .i64 f, .int .i64 m] 40) ∧ W.heap[w.heap.size + 1 + 1]? = some (.cells #[.slice none 0 0, .slice none 0 0, .slice none 0 0, .int .i64 0, .slice none 0 0] 93)) := by
    intro W hW
    rw [hW.block _ (by omega), hW.block _ (by omega), hW.block _ (by omega), ← hws]
    refine ⟨?_, ?_, ?_⟩
    · rw [Below.heap_alloc _ _ _ (by simp; omega), Below.heap_alloc _ _ _ (by simp)]; exact World.alloc_heap_new _ _
    · rw [Below.heap_alloc _ _ _ (by simp)]; have := World.alloc_heap_new (w.alloc (.cells #[.slice a1 B.nv c1, .slice a2 B.nf c2, .slice a3 B.ns c3, .int .i64 B.wr, .slice (some ⟨b4, off4, none⟩) R.n cf] 93)) (.cells #[.int .i64 f, .int .i64 m] 40); rwa [World.size_alloc] at this
    · have := World.alloc_heap_new ((w.alloc (.cells #[.slice a1 B.nv c1, .slice a2 B.nf c2, .slice a3 B.ns c3, .int .i64 B.wr, .slice (some ⟨b4, off4, none⟩) R.n cf] 93)).alloc (.cells #[.int .i64 f, .int .i64 m] 40)) (.cells #[.slice none 0 0, .slice none 0 0, .slice none 0 0, .int .i64 0, .slice none 0 0] 93); rwa [World.size_alloc, World.size_alloc] at this
  have k3 : ∀ o o' o'', (((w.alloc o).alloc o').alloc o'').cell? ⟨b4, off4 + f, none⟩ = some (.slice a5 (R.L f) c5) := fun o o' o'' => ((below_alloc (N := w.heap.size) (Nat.le_refl _) o).alloc (by simp) o').alloc (by simp; omega) o'' |>.cell (p := ⟨b4, off4 + f, none⟩) g4 |>.trans hcell4
  have HSZ : Hid _ := Lib.hid hsz
  clear hsz
  have HWS : Hid _ := Lib.hid hws
  clear hws
  go_enter Try.func95, Try.ntmps95
  have hx : Hid (((fromF (R.L f) (R.X f)).map (Value.int .i64))[m]? = some (.int .i64 (R.X f m))) := by
    unfold Hid; rw [List.getElem?_map]; simp [fromF, HLF.out, hm]
  have hmL : (m : Int) < (R.L f : Int) := by rw [HLF.out]; omega
  have HSL : Hid (w.heap.size < ws.heap.size ∧ w.heap.size + 1 < ws.heap.size ∧ w.heap.size + 1 + 1 < ws.heap.size ∧ N ≤ ws.heap.size) := by unfold Hid; have := HSZ.out; omega
  go_wp2_with (first
    | (go_at_call 101; rw [HWS.out]; refine (cloneInts_any N _ _ _ _ (HI.out.mono (hB0.mono hN) (Nat.le_refl _)) HSL.out.2.2.2 (by rw [HLF.out]; omega) (by rw [HLF.out]; omega)).mono ?_; rintro e w1 ⟨g, cap, rfl, hg, hown, hb1⟩; have hb := hbox.out w1 hb1; have p1 := cell_blk hb.2.1 1 rfl; have y := own_cell hown m hx.out; have z := own_free hown m; have hB2 := hb1.setCell (p := ⟨g, m, none⟩) hg (.int .i64 x); have hd := hbox.out _ hB2; have d4 := cell_blk hd.1 4 rfl; clear hb hd)
    | (go_at_call 102; refine (cloneRows_any N _ _ _ _ (ListAt.mono (E := fun i r => IntsAt N w r (R.L i) (R.X i)) (E' := fun i r => IntsAt N w r (R.L i) (R.X i)) HR.out ((hB0.mono hN).trans (hB2.mono HSL.out.2.2.2)) (Nat.le_refl _) (fun _ _ _ h => h)) (fun i r _ hr => by obtain ⟨_, _, rfl, _⟩ := hr; rfl) (Nat.le_trans HSL.out.2.2.2 hB2.size) (by omega) (by omega)).mono ?_; rintro e w3 ⟨g2, cap2, rs, rfl, hg2, hown2, hrl, hrs, hb3⟩; have hB3 := step hB2 (Nat.le_refl _) hb3; have hb := hbox.out w3 hB3; have k4 := cell_blk hb.1 4 rfl; have kf := free_blk hb.1 4; obtain ⟨rf, hrf, _⟩ := hrs f hf; have y2 := own_cell hown2 f hrf; have z2 := own_free hown2 f; have hgs : w.heap.size + 1 + 1 < g2 := Nat.lt_of_lt_of_le HSL.out.2.2.1 (Nat.le_trans hB2.size hg2); have e1 : (w3.setCell ⟨w.heap.size, 4, none⟩ (.slice (some ⟨g2, 0, none⟩) R.n cap2)).cell? ⟨w.heap.size + 1, 0, none⟩ = some (.int .i64 f) := (World.cell?_setCell_far _ _ _ _ (by show w.heap.size ≠ w.heap.size + 1; omega)).trans (cell_blk hb.2.1 0 rfl); have e2 : (w3.setCell ⟨w.heap.size, 4, none⟩ (.slice (some ⟨g2, 0, none⟩) R.n cap2)).cell? ⟨w.heap.size, 4, none⟩ = some (.slice (some ⟨g2, 0, none⟩) R.n cap2) := World.cell?_setCell_same _ _ _ k4; have e3 : (w3.setCell ⟨w.heap.size, 4, none⟩ (.slice (some ⟨g2, 0, none⟩) R.n cap2)).cell? ⟨g2, f, none⟩ = some rf := (World.cell?_setCell_far _ _ _ _ (by show w.heap.size ≠ g2; omega)).trans y2; have e4 : (w3.setCell ⟨w.heap.size, 4, none⟩ (.slice (some ⟨g2, 0, none⟩) R.n cap2)).frozen? ⟨g2, f, none⟩ = false := (World.frozen?_setCell _ _ _ _).trans z2; have n0 : ((w3.setCell ⟨w.heap.size, 4, none⟩ (.slice (some ⟨g2, 0, none⟩) R.n cap2)).setCell ⟨g2, f, none⟩ (.slice (some ⟨g, 0, none⟩) (R.L f) cap)).cell? ⟨w.heap.size, 0, none⟩ = _ := (World.cell?_setCell_far _ _ _ _ (by show g2 ≠ w.heap.size; omega)).trans ((World.cell?_setCell_other _ _ _ _ (by simp)).trans (cell_blk hb.1 0 rfl)); have n1 : ((w3.setCell ⟨w.heap.size, 4, none⟩ (.slice (some ⟨g2, 0, none⟩) R.n cap2)).setCell ⟨g2, f, none⟩ (.slice (some ⟨g, 0, none⟩) (R.L f) cap)).cell? ⟨w.heap.size, 1, none⟩ = _ := (World.cell?_setCell_far _ _ _ _ (by show g2 ≠ w.heap.size; omega)).trans ((World.cell?_setCell_other _ _ _ _ (by simp)).trans (cell_blk hb.1 1 rfl)); have n2 : ((w3.setCell ⟨w.heap.size, 4, none⟩ (.slice (some ⟨g2, 0, none⟩) R.n cap2)).setCell ⟨g2, f, none⟩ (.slice (some ⟨g, 0, none⟩) (R.L f) cap)).cell? ⟨w.heap.size, 2, none⟩ = _ := (World.cell?_setCell_far _ _ _ _ (by show g2 ≠ w.heap.size; omega)).trans ((World.cell?_setCell_other _ _ _ _ (by simp)).trans (cell_blk hb.1 2 rfl)); have n3 : ((w3.setCell ⟨w.heap.size, 4, none⟩ (.slice (some ⟨g2, 0, none⟩) R.n cap2)).setCell ⟨g2, f, none⟩ (.slice (some ⟨g, 0, none⟩) (R.L f) cap)).cell? ⟨w.heap.size, 3, none⟩ = _ := (World.cell?_setCell_far _ _ _ _ (by show g2 ≠ w.heap.size; omega)).trans ((World.cell?_setCell_other _ _ _ _ (by simp)).trans (cell_blk hb.1 3 rfl)); have n4 : ((w3.setCell ⟨w.heap.size, 4, none⟩ (.slice (some ⟨g2, 0, none⟩) R.n cap2)).setCell ⟨g2, f, none⟩ (.slice (some ⟨g, 0, none⟩) (R.L f) cap)).cell? ⟨w.heap.size, 4, none⟩ = _ := (World.cell?_setCell_far _ _ _ _ (by show g2 ≠ w.heap.size; omega)).trans e2; have r0 : ((w3.setCell ⟨w.heap.size, 4, none⟩ (.slice (some ⟨g2, 0, none⟩) R.n cap2)).setCell ⟨g2, f, none⟩ (.slice (some ⟨g, 0, none⟩) (R.L f) cap)).cell? ⟨w.heap.size + 1 + 1, 0, none⟩ = _ := (World.cell?_setCell_far _ _ _ _ (by show g2 ≠ w.heap.size + 1 + 1; omega)).trans ((World.cell?_setCell_far _ _ _ _ (by show w.heap.size ≠ w.heap.size + 1 + 1; omega)).trans (cell_blk hb.2.2 0 rfl)); have s0 : ((w3.setCell ⟨w.heap.size, 4, none⟩ (.slice (some ⟨g2, 0, none⟩) R.n cap2)).setCell ⟨g2, f, none⟩ (.slice (some ⟨g, 0, none⟩) (R.L f) cap)).frozen? ⟨w.heap.size + 1 + 1, 0, none⟩ = false := (World.frozen?_setCell _ _ _ _).trans ((World.frozen?_setCell _ _ _ _).trans (free_blk hb.2.2 0)); have r1 : ((w3.setCell ⟨w.heap.size, 4, none⟩ (.slice (some ⟨g2, 0, none⟩) R.n cap2)).setCell ⟨g2, f, none⟩ (.slice (some ⟨g, 0, none⟩) (R.L f) cap)).cell? ⟨w.heap.size + 1 + 1, 1, none⟩ = _ := (World.cell?_setCell_far _ _ _ _ (by show g2 ≠ w.heap.size + 1 + 1; omega)).trans ((World.cell?_setCell_far _ _ _ _ (by show w.heap.size ≠ w.heap.size + 1 + 1; omega)).trans (cell_blk hb.2.2 1 rfl)); have s1 : ((w3.setCell ⟨w.heap.size, 4, none⟩ (.slice (some ⟨g2, 0, none⟩) R.n cap2)).setCell ⟨g2, f, none⟩ (.slice (some ⟨g, 0, none⟩) (R.L f) cap)).frozen? ⟨w.heap.size + 1 + 1, 1, none⟩ = false := (World.frozen?_setCell _ _ _ _).trans ((World.frozen?_setCell _ _ _ _).trans (free_blk hb.2.2 1)); have r2 : ((w3.setCell ⟨w.heap.size, 4, none⟩ (.slice (some ⟨g2, 0, none⟩) R.n cap2)).setCell ⟨g2, f, none⟩ (.slice (some ⟨g, 0, none⟩) (R.L f) cap)).cell? ⟨w.heap.size + 1 + 1, 2, none⟩ = _ := (World.cell?_setCell_far _ _ _ _ (by show g2 ≠ w.heap.size + 1 + 1; omega)).trans ((World.cell?_setCell_far _ _ _ _ (by show w.heap.size ≠ w.heap.size + 1 + 1; omega)).trans (cell_blk hb.2.2 2 rfl)); have s2 : ((w3.setCell ⟨w.heap.size, 4, none⟩ (.slice (some ⟨g2, 0, none⟩) R.n cap2)).setCell ⟨g2, f, none⟩ (.slice (some ⟨g, 0, none⟩) (R.L f) cap)).frozen? ⟨w.heap.size + 1 + 1, 2, none⟩ = false := (World.frozen?_setCell _ _ _ _).trans ((World.frozen?_setCell _ _ _ _).trans (free_blk hb.2.2 2)); have r3 : ((w3.setCell ⟨w.heap.size, 4, none⟩ (.slice (some ⟨g2, 0, none⟩) R.n cap2)).setCell ⟨g2, f, none⟩ (.slice (some ⟨g, 0, none⟩) (R.L f) cap)).cell? ⟨w.heap.size + 1 + 1, 3, none⟩ = _ := (World.cell?_setCell_far _ _ _ _ (by show g2 ≠ w.heap.size + 1 + 1; omega)).trans ((World.cell?_setCell_far _ _ _ _ (by show w.heap.size ≠ w.heap.size + 1 + 1; omega)).trans (cell_blk hb.2.2 3 rfl)); have s3 : ((w3.setCell ⟨w.heap.size, 4, none⟩ (.slice (some ⟨g2, 0, none⟩) R.n cap2)).setCell ⟨g2, f, none⟩ (.slice (some ⟨g, 0, none⟩) (R.L f) cap)).frozen? ⟨w.heap.size + 1 + 1, 3, none⟩ = false := (World.frozen?_setCell _ _ _ _).trans ((World.frozen?_setCell _ _ _ _).trans (free_blk hb.2.2 3)); have r4 : ((w3.setCell ⟨w.heap.size, 4, none⟩ (.slice (some ⟨g2, 0, none⟩) R.n cap2)).setCell ⟨g2, f, none⟩ (.slice (some ⟨g, 0, none⟩) (R.L f) cap)).cell? ⟨w.heap.size + 1 + 1, 4, none⟩ = _ := (World.cell?_setCell_far _ _ _ _ (by show g2 ≠ w.heap.size + 1 + 1; omega)).trans ((World.cell?_setCell_far _ _ _ _ (by show w.heap.size ≠ w.heap.size + 1 + 1; omega)).trans (cell_blk hb.2.2 4 rfl)); have s4 : ((w3.setCell ⟨w.heap.size, 4, none⟩ (.slice (some ⟨g2, 0, none⟩) R.n cap2)).setCell ⟨g2, f, none⟩ (.slice (some ⟨g, 0, none⟩) (R.L f) cap)).frozen? ⟨w.heap.size + 1 + 1, 4, none⟩ = false := (World.frozen?_setCell _ _ _ _).trans ((World.frozen?_setCell _ _ _ _).trans (free_blk hb.2.2 4)); clear hb))
  have hBw : Below w.heap.size w (((((((w3.setCell ⟨w.heap.size, 4, none⟩ (.slice (some ⟨g2, 0, none⟩) R.n cap2)).setCell ⟨g2, f, none⟩ (.slice (some ⟨g, 0, none⟩) (R.L f) cap)).setCell ⟨w.heap.size + 1 + 1, 0, none⟩ (.slice a1 B.nv c1)).setCell ⟨w.heap.size + 1 + 1, 1, none⟩ (.slice a2 B.nf c2)).setCell ⟨w.heap.size + 1 + 1, 2, none⟩ (.slice a3 B.ns c3)).setCell ⟨w.heap.size + 1 + 1, 3, none⟩ (.int .i64 B.wr)).setCell ⟨w.heap.size + 1 + 1, 4, none⟩ (.slice (some ⟨g2, 0, none⟩) R.n cap2)) :=
    (((((((hB0.trans (hB3.mono (Nat.le_of_lt HSL.out.1))).setCell (p := ⟨w.heap.size, 4, none⟩) (Nat.le_refl _) _).setCell (p := ⟨g2, f, none⟩) (by show w.heap.size ≤ g2; omega) _).setCell (p := ⟨w.heap.size + 1 + 1, 0, none⟩) (by show w.heap.size ≤ w.heap.size + 1 + 1; omega) _).setCell (p := ⟨w.heap.size + 1 + 1, 1, none⟩) (by show w.heap.size ≤ w.heap.size + 1 + 1; omega) _).setCell (p := ⟨w.heap.size + 1 + 1, 2, none⟩) (by show w.heap.size ≤ w.heap.size + 1 + 1; omega) _).setCell (p := ⟨w.heap.size + 1 + 1, 3, none⟩) (by show w.heap.size ≤ w.heap.size + 1 + 1; omega) _).setCell (p := ⟨w.heap.size + 1 + 1, 4, none⟩) (by show w.heap.size ≤ w.heap.size + 1 + 1; omega) _
  have hfar : ∀ a : Addr, a.block ≠ w.heap.size → a.block ≠ w.heap.size + 1 + 1 → (((((((w3.setCell ⟨w.heap.size, 4, none⟩ (.slice (some ⟨g2, 0, none⟩) R.n cap2)).setCell ⟨g2, f, none⟩ (.slice (some ⟨g, 0, none⟩) (R.L f) cap)).setCell ⟨w.heap.size + 1 + 1, 0, none⟩ (.slice a1 B.nv c1)).setCell ⟨w.heap.size + 1 + 1, 1, none⟩ (.slice a2 B.nf c2)).setCell ⟨w.heap.size + 1 + 1, 2, none⟩ (.slice a3 B.ns c3)).setCell ⟨w.heap.size + 1 + 1, 3, none⟩ (.int .i64 B.wr)).setCell ⟨w.heap.size + 1 + 1, 4, none⟩ (.slice (some ⟨g2, 0, none⟩) R.n cap2)).cell? a = ((w3.setCell ⟨w.heap.size, 4, none⟩ (.slice (some ⟨g2, 0, none⟩) R.n cap2)).setCell ⟨g2, f, none⟩ (.slice (some ⟨g, 0, none⟩) (R.L f) cap)).cell? a := by
    intro a h1 h2
    rw [World.cell?_setCell_far _ _ _ _ (Ne.symm h2), World.cell?_setCell_far _ _ _ _ (Ne.symm h2), World.cell?_setCell_far _ _ _ _ (Ne.symm h2), World.cell?_setCell_far _ _ _ _ (Ne.symm h2), World.cell?_setCell_far _ _ _ _ (Ne.symm h2)]
  refine bodyPost_ret (v := .agg #[.slice a1 B.nv c1, .slice a2 B.nf c2, .slice a3 B.ns c3, .int .i64 B.wr, .slice (some ⟨g2, 0, none⟩) R.n cap2]) (by simp [results, Try.results95, go_sem, r0, r1, r2, r3, r4]) rfl ⟨_, rfl, ?_, hBw⟩
  obtain ⟨_, _, _, _, _, _, _, _, _, e, h1, h2, h3, _⟩ := H.out
  cases e
  have hgS : w.heap.size + 1 + 1 < g := Nat.lt_of_lt_of_le HSL.out.2.2.1 hg
  have hglt : g < w1.heap.size := (hown.lt g rfl).2
  have hg2lt : g2 < w3.heap.size := (hown2.lt g2 rfl).2
  have hg12 : g2 ≠ g := by have := hg2; simp at this; omega
  refine ⟨Nat.le_refl _, a1, c1, a2, c2, a3, c3, _, cap2, rfl, h1.mono (hBw.mono hN) (Nat.le_trans hN hBw.size), h2.mono (hBw.mono hN) (Nat.le_trans hN hBw.size), h3.mono (hBw.mono hN) (Nat.le_trans hN hBw.size), ?_⟩
  refine ⟨_, cap2, rfl, by show R.n ≤ _; omega, fun _ => ⟨g2, 0, rfl, by simp; omega, fun i hi => ?_⟩⟩
  rw [Nat.zero_add, hfar ⟨g2, i, none⟩ (by show g2 ≠ _; omega) (by show g2 ≠ _; omega)]
  by_cases hif : i = f
  · subst hif
    refine ⟨_, World.cell?_setCell_same _ _ _ e3, _, cap, rfl, hn5, fun _ => ⟨g, 0, rfl, by simp; have := hb3.size; simp at this; omega, fun j hj => ⟨_, ?_, rfl⟩⟩⟩
    rw [Nat.zero_add, hfar ⟨g, j, none⟩ (by show g ≠ _; omega) (by show g ≠ _; omega), World.cell?_setCell_far _ _ _ _ (by exact hg12), World.cell?_setCell_far _ _ _ _ (by show w.heap.size ≠ g; omega), hb3.cell (p := ⟨g, j, none⟩) (by simpa using hglt)]
    by_cases hjm : j = m
    · subst hjm
      rw [World.cell?_setCell_same _ _ _ y]; simp [Fr.set]
    · rw [World.cell?_setCell_other _ _ _ _ (by simp)]
      rw [own_cell hown j (x := .int .i64 (R.X i j)) (by
        have hj' : j < R.L i := hj
        rw [List.getElem?_map]; simp [fromF, hj'])]
      simp [Fr.set, hjm]
  · obtain ⟨r, hr1, hr2⟩ := hrs i hi
    refine ⟨r, ?_, ?_⟩
    · rw [World.cell?_setCell_other _ _ _ _ (by simp), World.cell?_setCell_far _ _ _ _ (by show w.heap.size ≠ g2; omega)]
      exact own_cell hown2 i hr1
    · have hh := hr2.mono (hBw.mono hN) (Nat.le_trans hN hBw.size)
      have hX : (R.set f m x).X i = R.X i := by funext j; simp [Fr.set, hif]
      show IntsAt _ _ _ _ ((R.set f m x).X i)
      rw [hX]; exact hh

end Go.Proofs.Ytopajgnemeodeaa
