import Derived.Test.YtmmadlpkolcgkaaWith
namespace Go.Proofs.Ytmmadlpkolcgkaa
open Go.RowKit

def maxTo : Nat → (Nat → Nat) → Nat
  | 0, _ => 0
  | n + 1, g => max (maxTo n g) (g n)
theorem maxTo_le (n : Nat) (g : Nat → Nat) (c : Nat) (h : ∀ i, i < n → g i ≤ c) : maxTo n g ≤ c := by
  induction n with
  | zero => simp [maxTo]
  | succ n ih =>
    have h1 := ih fun i hi => h i (by omega)
    have h2 := h n (by omega)
    simp only [maxTo]; omega

theorem Good.set {B : Bk} {R : Fr} (hg : Good B R) {f m : Nat} {x : Int} (hx : x = -1 ∨ (0 ≤ x ∧ x < B.V m)) : Good B (R.set f m x) :=
  ⟨hg.nv, hg.nf, hg.V, hg.F, hg.ns, hg.nc, hg.ncc, hg.can, hg.wr0, hg.wr9, hg.n, hg.L, by
    intro g hg' i hi
    by_cases h : g = f ∧ i = m
    · obtain ⟨rfl, rfl⟩ := h; simpa [Fr.set] using hx
    · have := hg.X g hg' i hi; simpa [Fr.set, h] using this⟩

theorem OwnI.form {N : Nat} {w : World} {v : Value} {l : List Int} (h : OwnI N w v l) : ∃ ao cap, v = .slice ao l.length cap := by
  obtain ⟨h1, ⟨rfl, h2⟩ | ⟨g, cap, cur, rfl, _⟩⟩ := h
  · exact ⟨none, 0, by rw [h2]⟩
  · exact ⟨_, _, rfl⟩

theorem sorts_len {B : Bk} (hg : B.ns ≤ 8) (R : Fr) : (sorts B R).length ≤ 8 := Nat.le_trans (sel_len _ _) hg

/-- so many sorts at the most, whatever is seen -/
def afterOf (B : Bk) (R : Fr) (f m : Nat) : Nat := maxTo (B.V m).toNat fun x => (sorts B (R.set f m x)).length

set_option maxHeartbeats 2000000 in
theorem after_any (N : Nat) (v : Value) (B : Bk) (R : Fr) (f m : Nat) (w : World) (h : BoxAt N w v B R) (hg : Good B R) (hf : f < R.n) (hm : m < B.nv) :
    Calls Try.prog 79 #[v, .agg #[.int .i64 f, .int .i64 m]] w fun e w' => e = .returned (.int .i64 (afterOf B R f m)) ∧ Below w.heap.size w w' := by
  have H : Hid (BoxAt N w v B R) := h
  have HG : Hid _ := Lib.hid hg
  obtain ⟨hN, a1, c1, a2, c2, a3, c3, af, cf, rfl, h1, h2, h3, h4⟩ := h
  obtain ⟨_, _, e1, _, hc1⟩ := h1
  cases e1
  obtain ⟨b1, off1, rfl, hb1, hr1⟩ := hc1 (by omega)
  obtain ⟨r1, hcell1, rfl⟩ := hr1 m hm
  have hV := hg.V m hm
  obtain ⟨n, hn⟩ : ∃ n : Nat, B.V m = n := ⟨(B.V m).toNat, by omega⟩
  have hn5 : n ≤ 5 := by omega
  have HV : Hid ((B.V m).toNat = n) := by unfold Hid; omega
  have HVn : Hid (B.V m = n) := hn
  rw [hn] at hcell1
  have g1 : b1 < w.heap.size := by omega
  have k1 : ∀ o o', ((w.alloc o).alloc o').cell? ⟨b1, off1 + m, none⟩ = some (.int .i64 n) := fun o o' => ((below_alloc (N := w.heap.size) (Nat.le_refl _) o).alloc (by simp) o') |>.cell (p := ⟨b1, off1 + m, none⟩) g1 |>.trans hcell1
  have H8 := hg.ns
  clear hg hc1 hr1 h2 h3 h4 hV hn
  go_enter Try.func79, Try.ntmps79
  go_wp2
  obtain ⟨ws, hws⟩ : ∃ ws : World, (w.alloc (.cells #[.slice (some ⟨b1, off1, none⟩) B.nv c1, .slice a2 B.nf c2, .slice a3 B.ns c3, .int .i64 B.wr, .slice af R.n cf] 93)).alloc (.cells #[.int .i64 f, .int .i64 m] 40) = ws := ⟨_, rfl⟩
  have hB0 : Below w.heap.size w ws := by
    rw [← hws]; exact ((Below.refl _ w).alloc (Nat.le_refl _) _).alloc (by simp) _
  have hsz : w.heap.size + 1 < ws.heap.size := by rw [← hws]; simp
  have hbox : Hid (ws.heap[w.heap.size]? = some (.cells #[.slice (some ⟨b1, off1, none⟩) B.nv c1, .slice a2 B.nf c2, .slice a3 B.ns c3, .int .i64 B.wr, .slice af R.n cf] 93) ∧ ws.heap[w.heap.size + 1]? = some (.cells #[.int .i64 f, .int .i64 m] 40)) := by
    rw [← hws]
    refine ⟨?_, ?_⟩
    · rw [Below.heap_alloc _ _ _ (by simp)]; exact World.alloc_heap_new _ _
    · have := World.alloc_heap_new (w.alloc (.cells #[.slice (some ⟨b1, off1, none⟩) B.nv c1, .slice a2 B.nf c2, .slice a3 B.ns c3, .int .i64 B.wr, .slice af R.n cf] 93)) (.cells #[.int .i64 f, .int .i64 m] 40); rwa [World.size_alloc] at this
  rw [hws]
  clear hws k1
  go_loopw [5, 14] (fun t i wr => ∃ k : Nat, k ≤ n ∧ i = .int .i64 k ∧ t = .int .i64 (maxTo k fun x => (sorts B (R.set f m x)).length) ∧ Hid (Below ws.heap.size ws wr)) (fun _ i _ => n - (intOf i).toNat)
  case atStart => exact ⟨0, Nat.zero_le _, rfl, rfl, Below.refl _ _⟩
  case round =>
    obtain ⟨k, hk, rfl, rfl, hB⟩ := hrel
    by_cases hkn : k < n
    · have hb0 := (hB.out.block _ (Nat.lt_of_succ_lt hsz)).trans hbox.out.1
      have hb1' := (hB.out.block _ hsz).trans hbox.out.2
      have q0 := cell_blk hb0 0 rfl
      have q1 := cell_blk hb0 1 rfl
      have q2 := cell_blk hb0 2 rfl
      have q3 := cell_blk hb0 3 rfl
      have q4 := cell_blk hb0 4 rfl
      have p0 := cell_blk hb1' 0 rfl
      have p1 := cell_blk hb1' 1 rfl
      have HW : Hid (Below w.heap.size w wr) := hB0.trans (hB.out.mono (by omega))
      have hl : maxTo k (fun x => (sorts B (R.set f m x)).length) ≤ 8 := maxTo_le _ _ _ fun i _ => sorts_len H8 _
      have hl2 := sorts_len H8 (R.set f m k)
      have HE : Hid (maxTo (k + 1) (fun x => (sorts B (R.set f m x)).length) = max (maxTo k (fun x => (sorts B (R.set f m x)).length)) (sorts B (R.set f m k)).length) := rfl
      have HS : Hid (Good B (R.set f m k)) := HG.out.set (.inr ⟨by omega, by rw [HVn.out]; omega⟩)
      clear hb0 hb1'
      generalize maxTo k (fun x => (sorts B (R.set f m x)).length) = t at *
      go_wp2_with (first
        | (go_at_call 95; refine (with_any N _ B R f m k _ (H.out.mono (HW.out.mono hN) (Nat.le_refl _) (Nat.le_trans hN HW.out.size)) HG.out hf hm).mono ?_; rintro e w1 ⟨u, rfl, hu, hw1⟩)
        | (go_at_call 71; refine (sorts_any _ _ B (R.set f m k) _ hu HS.out).mono ?_; rintro e w2 ⟨u2, rfl, ho, hw2⟩; obtain ⟨_, _, rfl⟩ := ho.form))
      go_roundw
      case rel => exact ⟨k + 1, by omega, by go_num, by rw [HE.out]; first | rfl | (congr 1; omega), (step hB.out (Nat.le_refl _) hw1).trans (hw2.mono (Nat.le_trans hB.out.size hw1.size))⟩
      case measure => simp [intOf]; omega
    · have Hk : Hid (k = n) := by show k = _; omega
      go_wp2
      go_ret
      exact ⟨ret_int (by unfold afterOf; rw [HV.out]; exact congrArg (fun q => ((maxTo q (fun x => (sorts B (R.set f m x)).length) : Nat) : Int)) Hk.out), hB0.trans (hB.out.mono (by omega))⟩

end Go.Proofs.Ytmmadlpkolcgkaa
