/-
  Ref3: how often a gift gives each sort, as the reference counts it.
-/
import Derived.Test.YtnnngbnimmcjiaaRef2
import Derived.Test.YtnnngbnimmcjiaaExp3
import Derived.Deep.OwnRows
namespace Go.Proofs.Ytnnngbnimmcjiaa
open Go.RowKit

/-- numbers in a block -/
def NB (W : World) (g n : Nat) (c : Nat → Nat) : Prop := ∃ cur, W.heap[g]? = some (.cells cur 3) ∧ cur.size = n ∧ ∀ i, i < n → cur[i]? = some (.int .i64 (c i : Nat))
theorem NB.keep {W W' : World} {g n : Nat} {c : Nat → Nat} (h : NB W g n c) (hk : W'.heap[g]? = W.heap[g]?) : NB W' g n c := by
  obtain ⟨cur, h1, h2⟩ := h
  exact ⟨cur, hk.trans h1, h2⟩
theorem NB.cell {W : World} {g n : Nat} {c : Nat → Nat} (h : NB W g n c) {i : Nat} (hi : i < n) : W.cell? ⟨g, i, none⟩ = some (.int .i64 (c i : Nat)) := by
  obtain ⟨cur, h1, h2, h3⟩ := h
  exact cell_blk h1 i (h3 i hi)
theorem NB.free {W : World} {g n : Nat} {c : Nat → Nat} (h : NB W g n c) (i : Nat) : W.frozen? ⟨g, i, none⟩ = false := by
  obtain ⟨cur, h1, h2, h3⟩ := h
  exact free_blk h1 i
theorem NB.lt {W : World} {g n : Nat} {c : Nat → Nat} (h : NB W g n c) : g < W.heap.size := by
  obtain ⟨cur, h1, _⟩ := h
  exact heap_lt h1
theorem NB.set {W : World} {g n : Nat} {c : Nat → Nat} (h : NB W g n c) {s : Nat} (hs : s < n) (z : Nat) : NB (W.setCell ⟨g, s, none⟩ (.int .i64 (z : Nat))) g n (fun i => if i = s then z else c i) := by
  obtain ⟨cur, h1, h2, h3⟩ := h
  refine ⟨_, blk_set h1 s _, by simpa using h2, fun i hi => ?_⟩
  by_cases e : i = s
  · subst e
    rw [Array.getElem?_setIfInBounds_self_of_lt (by omega)]
    simp
  · rw [Array.getElem?_setIfInBounds_ne (fun e' => e e'.symm), h3 i hi]; simp [e]
theorem NB.congr {W : World} {g n : Nat} {c d : Nat → Nat} (h : NB W g n c) (e : ∀ i, i < n → c i = d i) : NB W g n d := by
  obtain ⟨cur, h1, h2, h3⟩ := h
  exact ⟨cur, h1, h2, fun i hi => by rw [← e i hi]; exact h3 i hi⟩
theorem NB.made {W : World} {g n : Nat} (h : W.heap[g]? = some (.cells (madeCells #[.int .i64 0] n) 3)) : NB W g n (fun _ => 0) := by
  refine ⟨_, h, by simp [madeCells], fun i hi => ?_⟩
  simp [madeCells, hi, Nat.mod_one]
theorem NB.own {W : World} {g n lo : Nat} {c : Nat → Nat} (h : NB W g n c) (hl : lo ≤ g) (hn : n ≤ 1000) : OwnI lo W (.slice (some ⟨g, 0, none⟩) n n) (fromF n fun i => (c i : Nat)) := by
  obtain ⟨cur, h1, h2, h3⟩ := h
  have e : (fromF n fun i => ((c i : Nat) : Int)).length = n := by simp [fromF]
  unfold OwnI
  rw [e]
  refine ⟨by simp [fromF], .inr ⟨g, n, cur, rfl, hl, h1, Nat.le_refl _, by unfold maxLen; omega, by omega, ?_⟩⟩
  apply List.ext_getElem?
  intro i
  by_cases hi : i < n
  · rw [List.getElem?_take_of_lt (by omega), Array.getElem?_toList, h3 i hi, List.getElem?_map]
    simp [fromF, hi]
  · rw [List.getElem?_eq_none (by simp; omega), List.getElem?_eq_none (by simp [fromF]; omega)]

set_option maxRecDepth 100000 in
set_option maxHeartbeats 3200000 in
theorem counts_any (N M : Nat) (v u : Value) (B : SB) (p n : Nat) (x : Nat → Int) (w : World) (h : BookAt N w v B) (hG : GoodL B p) (hu : IntsAt M w u n x) (hM : M ≤ w.heap.size) (hx : ∀ i, i < n → 0 ≤ x i ∧ x i < B.nw) (hn : n ≤ 1000) :
    Calls Try.prog 19 #[v, u] w fun e w' => (∃ g, e = .returned (.slice (some ⟨g, 0, none⟩) B.ns B.ns) ∧ w.heap.size ≤ g ∧ NB w' g B.ns (cS B (natL n x))) ∧ Below w.heap.size w w' := by
  obtain ⟨au, cu, rfl, _, _⟩ := id hu
  have h' := h
  obtain ⟨_, a1, z1, a2, z2, a3, z3, rfl, _⟩ := h'
  obtain ⟨ws, hws, HB, hsz, hblk⟩ := box1 w (.cells #[.slice a1 B.ns z1, .slice a2 B.ng z2, .slice a3 B.nw z3] 26)
  have q0 := cell_blk hblk 0 rfl
  have q1 := cell_blk hblk 1 rfl
  have q2 := cell_blk hblk 2 rfl
  have HBK := Lib.hid (h.go HB.out)
  have HB0 : Hid (Below ws.heap.size ws ws) := Below.refl _ _
  have HNS : Hid (N ≤ ws.heap.size) := HBK.out.1
  have hlens := h.lens
  obtain ⟨hlv, hls, hln⟩ := hlens
  clear hblk h
  have HX := Lib.hid (hu.go hM HB.out)
  have hMs : M ≤ ws.heap.size := Nat.le_trans hM HB.out.size
  have HG := Lib.hid hG
  have HXX := Lib.hid hx
  have hns := hG.ns
  clear hu hM hG hx
  have hmk := run_make_row' (P := Try.prog) 22 3 (.int .i64 0) 8 Try.underlying22 Try.infoInt rfl .i64 .i64 B.ns (by omega) (by omega)
  obtain ⟨w1, hw1, HB1, hsz1, hblk1⟩ := box1 ws (.cells (madeCells #[.int .i64 0] B.ns) 3)
  have HN0 := Lib.hid (NB.made hblk1)
  go_enter Try.func19, Try.ntmps19
  go_wp2
  obtain ⟨g, hg⟩ : ∃ g, ws.heap.size = g := ⟨_, rfl⟩
  have HGE := Lib.hid hg
  have hgw : w.heap.size < g := by rw [← hg]; exact hsz
  have hMg : M ≤ g := by rw [← hg]; exact hMs
  have hNg : N ≤ g := by rw [← hg]; exact HNS.out
  have HBg : Hid (Below g ws w1) := by rw [← hg]; exact HB1.out
  rw [hg] at HN0 ⊢
  have HN00 : Hid (NB w1 g B.ns (cS B (natL 0 x))) := HN0.out
  clear hws hw1 hmk hblk1 hg hsz1
  go_loopw [6] (fun i wr => ∃ k : Nat, k ≤ n ∧ i = .int .i64 k ∧ Hid (NB wr g B.ns (cS B (natL k x))) ∧ Hid (Below g ws wr)) (fun i _ => n - (intOf i).toNat)
  case atStart => exact ⟨0, Nat.zero_le _, rfl, HN00, HBg⟩
  case round =>
    obtain ⟨k, hk, rfl, HC, HBr⟩ := hrel
    by_cases hkn : k < n
    · have hki : (k : Int) < (n : Int) := by omega
      obtain ⟨b, off, e, hbM, hr⟩ := HX.out.cells (by omega)
      cases e
      obtain ⟨y, hy, hyn⟩ : ∃ y : Nat, x k = y ∧ y < B.nw := ⟨(x k).toNat, by have := HXX.out k hkn; omega, by have := HXX.out k hkn; omega⟩
      have c0 := (HBr.out.cell (p := ⟨b, off + k, none⟩) (show b < g by omega)).trans (hr k hkn)
      rw [hy] at c0
      obtain ⟨b3, off3, e3, hb3, hr3⟩ := HBK.out.wants.cells (by omega)
      cases e3
      have c1 := (HBr.out.cell (p := ⟨b3, off3 + y * 2 + 1, none⟩) (show b3 < g by omega)).trans (hr3 y hyn).2
      rw [(HG.out.sN hyn).2] at c1
      have r2 := (HBr.out.cell (p := ⟨w.heap.size, 2, none⟩) hgw).trans q2
      have hsn := (HG.out.sN hyn).1
      obtain ⟨s, hs⟩ : ∃ s, B.sN y = s := ⟨_, rfl⟩
      have HSE := Lib.hid hs
      rw [hs] at c1 hsn
      have hsi : (s : Int) < (B.ns : Int) := by omega
      have hyi : (y : Int) < (B.nw : Int) := by omega
      have cc := HC.out.cell hsn
      have fz := HC.out.free s
      have hcl : cS B (natL k x) s ≤ 1000 := Nat.le_trans List.countP_le_length (by rw [natL_len]; omega)
      have HL : Hid (natL (k + 1) x = natL k x ++ [y]) := by unfold Hid; rw [natL_succ, hy]; rfl
      obtain ⟨z, hz⟩ : ∃ z, cS B (natL k x) s = z := ⟨_, rfl⟩
      have hwz : IntKind.i64.wrap ((z : Int) + 1) = ((z + 1 : Nat) : Int) := by rw [IntWalk.i64_in _ (by omega)]; omega
      have HZ := Lib.hid hz
      rw [hz] at cc hcl
      have hgg : b ≠ g := by omega
      have hgg3 : b3 ≠ g := by omega
      have hggw : w.heap.size ≠ g := by omega
      clear hr hr3 hy hs hz
      go_wp2
      refine wp_region_held_drew (S := fun w' => w'.cell? ⟨w.heap.size, 2, none⟩ = some (.slice (some ⟨b3, off3, none⟩) B.nw z3) ∧ w'.cell? ⟨b, off + k, none⟩ = some (.int .i64 y) ∧ w'.cell? ⟨b3, off3 + y * 2 + 1, none⟩ = some (.int .i64 s)) (by kernel_rfl) ⟨r2, c0, c1⟩ (fun hHeld => ?_)
      (refine wpAnyH_take (i := 0) (v := ?_) rfl (by kernel_rfl) (by kernel_rfl) (by kernel_rfl) (fun _ _ _ h => h) (Or.inl ⟨by rfl, ?_⟩) (by assumption) ?_; rotate_left; (focus (intro w hSw; (try dsimp only at hSw); go_simp; (try with_reducible rfl))); (try simp only [List.getElem_toArray, List.getElem_cons_zero, List.getElem_cons_succ, Act.put, List.setIfInBounds_toArray, List.set_cons_zero, List.set_cons_succ])); (refine wpAnyH_take (i := 1) (v := ?_) rfl (by kernel_rfl) (by kernel_rfl) (by kernel_rfl) (fun _ _ _ h => h) (Or.inl ⟨by rfl, ?_⟩) (by assumption) ?_; rotate_left; (focus (intro w hSw; (try dsimp only at hSw); go_simp; (try with_reducible rfl))); (try simp only [List.getElem_toArray, List.getElem_cons_zero, List.getElem_cons_succ, Act.put, List.setIfInBounds_toArray, List.set_cons_zero, List.set_cons_succ])); (refine wpAnyH_take (i := 2) (v := ?_) rfl (by kernel_rfl) (by kernel_rfl) (by kernel_rfl) (fun _ _ _ h => h) (Or.inl ⟨by rfl, ?_⟩) (by assumption) ?_; rotate_left; (focus (intro w hSw; (try dsimp only at hSw); go_simp; (try with_reducible rfl))); (try simp only [List.getElem_toArray, List.getElem_cons_zero, List.getElem_cons_succ, Act.put, List.setIfInBounds_toArray, List.set_cons_zero, List.set_cons_succ])); (refine wpAnyH_take (i := 3) (v := ?_) rfl (by kernel_rfl) (by kernel_rfl) (by kernel_rfl) (fun _ _ _ h => h) (Or.inl ⟨by rfl, ?_⟩) (by assumption) ?_; rotate_left; (focus (intro w hSw; (try dsimp only at hSw); go_simp; (try with_reducible rfl))); (try simp only [List.getElem_toArray, List.getElem_cons_zero, List.getElem_cons_succ, Act.put, List.setIfInBounds_toArray, List.set_cons_zero, List.set_cons_succ])); (refine wpAnyH_take (i := 4) (v := ?_) rfl (by kernel_rfl) (by kernel_rfl) (by kernel_rfl) (fun _ _ _ h => h) (Or.inl ⟨by rfl, ?_⟩) (by assumption) ?_; rotate_left; (focus (intro w hSw; (try dsimp only at hSw); go_simp; (try with_reducible rfl))); (try simp only [List.getElem_toArray, List.getElem_cons_zero, List.getElem_cons_succ, Act.put, List.setIfInBounds_toArray, List.set_cons_zero, List.set_cons_succ])); (refine wpAnyH_take (i := 5) (v := ?_) rfl (by kernel_rfl) (by kernel_rfl) (by kernel_rfl) (fun _ _ _ h => h) (Or.inl ⟨by rfl, ?_⟩) (by assumption) ?_; rotate_left; (focus (intro w hSw; (try dsimp only at hSw); go_simp; (try with_reducible rfl))); (try simp only [List.getElem_toArray, List.getElem_cons_zero, List.getElem_cons_succ, Act.put, List.setIfInBounds_toArray, List.set_cons_zero, List.set_cons_succ])); (refine wpAnyH_take (i := 6) (v := ?_) rfl (by kernel_rfl) (by kernel_rfl) (by kernel_rfl) (fun _ _ _ h => h) (Or.inl ⟨by rfl, ?_⟩) (by assumption) ?_; rotate_left; (focus (intro w hSw; (try dsimp only at hSw); go_simp; (try with_reducible rfl))); (try simp only [List.getElem_toArray, List.getElem_cons_zero, List.getElem_cons_succ, Act.put, List.setIfInBounds_toArray, List.set_cons_zero, List.set_cons_succ])); (refine wpAnyH_take (i := 7) (v := ?_) rfl (by kernel_rfl) (by kernel_rfl) (by kernel_rfl) (fun _ _ _ h => h) (Or.inl ⟨by rfl, ?_⟩) (by assumption) ?_; rotate_left; (focus (intro w hSw; (try dsimp only at hSw); go_simp; (try with_reducible rfl))); (try simp only [List.getElem_toArray, List.getElem_cons_zero, List.getElem_cons_succ, Act.put, List.setIfInBounds_toArray, List.set_cons_zero, List.set_cons_succ])); (refine wpAnyH_take (i := 8) (v := ?_) rfl (by kernel_rfl) (by kernel_rfl) (by kernel_rfl) (fun _ _ _ h => h) (Or.inl ⟨by rfl, ?_⟩) (by assumption) ?_; rotate_left; (focus (intro w hSw; (try dsimp only at hSw); go_simp; (try with_reducible rfl))); (try simp only [List.getElem_toArray, List.getElem_cons_zero, List.getElem_cons_succ, Act.put, List.setIfInBounds_toArray, List.set_cons_zero, List.set_cons_succ])); (refine wpAnyH_take (i := 9) (v := ?_) rfl (by kernel_rfl) (by kernel_rfl) (by kernel_rfl) (fun _ _ _ h => h) (Or.inl ⟨by rfl, ?_⟩) (by assumption) ?_; rotate_left; (focus (intro w hSw; (try dsimp only at hSw); go_simp; (try with_reducible rfl))); (try simp only [List.getElem_toArray, List.getElem_cons_zero, List.getElem_cons_succ, Act.put, List.setIfInBounds_toArray, List.set_cons_zero, List.set_cons_succ])); (refine wpAnyH_take (i := 10) (v := ?_) rfl (by kernel_rfl) (by kernel_rfl) (by kernel_rfl) (fun _ _ _ h => h) (Or.inl ⟨by rfl, ?_⟩) (by assumption) ?_; rotate_left; (focus (intro w hSw; (try dsimp only at hSw); go_simp; (try with_reducible rfl))); (try simp only [List.getElem_toArray, List.getElem_cons_zero, List.getElem_cons_succ, Act.put, List.setIfInBounds_toArray, List.set_cons_zero, List.set_cons_succ]))
      refine wpAnyH_ready (rs := [11]) (by kernel_rfl) (by simp) ?_; refine AllReadyH.cons rfl (fun K hK => ?_) AllReadyH.nil; go_simp
      refine hK.out _ _ ⟨r2, c0, c1⟩ (fun hHeld => ?_)
      clear hK K
      (try simp only [List.getElem_toArray, List.getElem_cons_zero, List.getElem_cons_succ, Act.put, List.setIfInBounds_toArray, List.set_cons_zero, List.set_cons_succ])
      (refine wpAnyH_take (i := 12) (v := ?_) rfl (by kernel_rfl) (by kernel_rfl) (by kernel_rfl) (fun _ _ _ h => h) (Or.inl ⟨by rfl, ?_⟩) (by assumption) ?_; rotate_left; (focus (intro w hSw; (try dsimp only at hSw); go_simp; (try with_reducible rfl))); (try simp only [List.getElem_toArray, List.getElem_cons_zero, List.getElem_cons_succ, Act.put, List.setIfInBounds_toArray, List.set_cons_zero, List.set_cons_succ])); (refine wpAnyH_take (i := 13) (v := ?_) rfl (by kernel_rfl) (by kernel_rfl) (by kernel_rfl) (fun _ _ _ h => h) (Or.inl ⟨by rfl, ?_⟩) (by assumption) ?_; rotate_left; (focus (intro w hSw; (try dsimp only at hSw); go_simp; (try with_reducible rfl))); (try simp only [List.getElem_toArray, List.getElem_cons_zero, List.getElem_cons_succ, Act.put, List.setIfInBounds_toArray, List.set_cons_zero, List.set_cons_succ]))
      refine wpAnyH_ready (rs := [14]) (by kernel_rfl) (by simp) ?_; refine AllReadyH.cons rfl (fun K hK => ?_) AllReadyH.nil; go_simp
      have HC2 : Hid (NB (wr.setCell ⟨g, s, none⟩ (.int .i64 (z + 1 : Nat))).drew g B.ns (cS B (natL (k + 1) x))) := by
        have h1 := HC.out.set hsn (z + 1)
        refine NB.congr (W := (wr.setCell ⟨g, s, none⟩ (.int .i64 (z + 1 : Nat))).drew) h1 fun i _ => ?_
        rw [HL.out, cS_snoc, HSE.out]
        by_cases e : i = s
        · subst e; simp [HZ.out]
        · simp [e]
      have HB2 : Hid (Below g ws (wr.setCell ⟨g, s, none⟩ (.int .i64 (z + 1 : Nat))).drew) := (HBr.out.setCell (p := ⟨g, s, none⟩) (Nat.le_refl _) _).drew
      obtain ⟨w2, hw2⟩ : ∃ w2, (wr.setCell ⟨g, s, none⟩ (.int .i64 (z + 1 : Nat))).drew = w2 := ⟨_, rfl⟩
      rw [show ((z : Int) + 1) = ((z + 1 : Nat) : Int) by omega]
      rw [hw2] at HC2 HB2 ⊢
      have r2' := (HB2.out.cell (p := ⟨w.heap.size, 2, none⟩) hgw).trans q2
      have c0' : w2.cell? ⟨b, off + k, none⟩ = some (.int .i64 y) := by rw [← hw2]; exact (World.cell?_setCell_far _ _ _ _ (by show g ≠ b; omega)).trans c0
      have c1' : w2.cell? ⟨b3, off3 + y * 2 + 1, none⟩ = some (.int .i64 s) := by rw [← hw2]; exact (World.cell?_setCell_far _ _ _ _ (by show g ≠ b3; omega)).trans c1
      refine hK.out _ _ ⟨r2', c0', c1'⟩ (fun hHeld => ?_)
      clear hK K hw2
      (try simp only [List.getElem_toArray, List.getElem_cons_zero, List.getElem_cons_succ, Act.put, List.setIfInBounds_toArray, List.set_cons_zero, List.set_cons_succ])
      refine wpAnyH_done (by kernel_rfl) ?_ _; clear hHeld
      go_wp2
      go_roundw
      case rel => exact ⟨k + 1, by omega, by go_num, HC2, HB2⟩
      case measure => simp [intOf]; omega
    · have hkk : k = n := by omega
      subst hkk
      go_wp2
      go_ret
      exact ⟨⟨g, rfl, Nat.le_of_lt hgw, HC.out⟩, HB.out.trans (HBr.out.mono (Nat.le_of_lt hgw))⟩

end Go.Proofs.Ytnnngbnimmcjiaa
