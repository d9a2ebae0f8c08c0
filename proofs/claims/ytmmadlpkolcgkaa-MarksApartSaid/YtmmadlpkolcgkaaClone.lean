import Derived.Test.YtmmadlpkolcgkaaBox4
namespace Go.Proofs.Ytmmadlpkolcgkaa
open Go.RowKit

theorem Try.infoInts : (Try.prog.info? 22).map (fun i => (i.zero, i.size, i.bytes)) = some (some (.slice none 0 0), 1, 24) := by kernel_rfl

/-- the first n of x -/
def fromF (n : Nat) (x : Nat → Int) : List Int := (List.range n).map x
theorem fromF_len (n : Nat) (x : Nat → Int) : (fromF n x).length = n := by simp [fromF]

theorem addr_add (b off j : Nat) : (⟨b, off, none⟩ : Addr).add j = ⟨b, off + j, none⟩ := by simp [Addr.add]

set_option maxHeartbeats 1000000 in
theorem cloneInts_any (N : Nat) (v : Value) (n : Nat) (x : Nat → Int) (w : World) (h : IntsAt N w v n x) (hN : N ≤ w.heap.size) (h0 : 0 < n) (h40 : n ≤ 40) :
    Calls Try.prog 101 #[v] w fun e w' => ∃ g cap, e = .returned (.slice (some ⟨g, 0, none⟩) n cap) ∧ w.heap.size ≤ g ∧ w'.ownsRow w.heap.size 3 1 (.slice (some ⟨g, 0, none⟩) n cap) n ((fromF n x).map (Value.int .i64)) ∧ Below w.heap.size w w' := by
  obtain ⟨ao, cap, rfl, hn, hc⟩ := h
  obtain ⟨b, off, rfl, hb, hr⟩ := hc h0
  obtain ⟨i0, hi, hz0, hz1, hz2⟩ := info_parts Try.infoInt
  have hcells : Hid (∀ (W : World), (∀ i, i < n → W.cell? ⟨b, off + i, none⟩ = w.cell? ⟨b, off + i, none⟩) → ∀ (j : Nat) (u : Value), ((fromF n x).map (Value.int .i64))[j]? = some u → W.cell? ((⟨b, off, none⟩ : Addr).add j) = some u) := by
    intro W hW j u hj
    have hjn : j < n := by
      have := (List.getElem?_eq_some_iff.1 hj).1
      simpa [fromF] using this
    obtain ⟨r, h1, rfl⟩ := hr j hjn
    have : u = .int .i64 (x j) := by
      rw [List.getElem?_map] at hj
      simp [fromF, hjn] at hj
      exact hj.symm
    rw [this, addr_add]
    exact (hW j hjn).trans h1
  clear hr hc
  have q22 : ∀ (w : World) (a : Option Addr) (n c n' c' : Nat), (binOp .eql 22 (.slice a n c) (.slice none n' c')).run Try.prog w = .ok (.bool a.isNone) w := fun w a n c n' c' => Lib.run_eql_slice_nil w _ _ a n c n' c' Try.underlying22
  go_enter Try.func101, Try.ntmps101
  go_wp2_with (at_builtin; refine wpList_append_own _ rfl _ _ 22 rfl w.heap.size 3 i0 (.int .i64 0) 1 8 Try.underlying22 hi hz0 hz1 hz2 rfl (by decide) _ _ _ rfl (World.ownsRow_made w #[] 0 (Nat.le_refl _) (Nat.zero_le _) rfl) ⟨b, off, none⟩ n cap ((fromF n x).map (Value.int .i64)) rfl ?qc1 ?qc2 ?qc3 ?qc4 ?qc5 ?qc6 ?_)
  case qc1 => simp [fromF]
  case qc2 => exact hcells.out _ fun i hi => World.cell?_alloc_lt w _ _ (by show b < w.heap.size; omega)
  case qc3 => intro u hu; obtain ⟨x, _, rfl⟩ := List.mem_map.1 hu; rfl
  case qc4 => unfold maxLen; omega
  case qc5 => omega
  case qc6 => simp
  intro v' w1 hown hgrow hnil
  obtain ⟨hl, ⟨rfl, h2⟩ | ⟨g, cap', cur, rfl, hg, hh⟩⟩ := hown
  · omega
  go_wp2
  go_ret
  exact ⟨g, cap', by simp, hg, ⟨hl, .inr ⟨g, cap', cur, rfl, hg, hh⟩⟩, ((Below.refl _ w).alloc (Nat.le_refl _) _).grown hgrow (by simp) (by intro k hk; simp [Value.ownBlock] at hk; omega)⟩

/-- the values of a list's cells -/
def cellsOf (w : World) (b off n : Nat) : List Value := (List.range n).map fun i => (w.cell? ⟨b, off + i, none⟩).getD default

set_option maxHeartbeats 1000000 in
theorem cloneRows_any (N : Nat) (v : Value) (n : Nat) (E : Nat → Value → Prop) (w : World) (h : ListAt N w E v n) (hE : ∀ i r, i < n → E i r → r.oneCell' = true) (hN : N ≤ w.heap.size) (h0 : 0 < n) (h40 : n ≤ 40) :
    Calls Try.prog 102 #[v] w fun e w' => ∃ g cap rs, e = .returned (.slice (some ⟨g, 0, none⟩) n cap) ∧ w.heap.size ≤ g ∧ w'.ownsRow w.heap.size 22 1 (.slice (some ⟨g, 0, none⟩) n cap) n rs ∧ rs.length = n ∧ (∀ i, i < n → ∃ r, rs[i]? = some r ∧ E i r) ∧ Below w.heap.size w w' := by
  obtain ⟨ao, cap, rfl, hn, hc⟩ := h
  obtain ⟨b, off, rfl, hb, hr⟩ := hc h0
  obtain ⟨i0, hi, hz0, hz1, hz2⟩ := info_parts Try.infoInts
  have hat : Hid (∀ i, i < n → ∃ r, (cellsOf w b off n)[i]? = some r ∧ w.cell? ⟨b, off + i, none⟩ = some r ∧ E i r) := by
    intro i hi
    obtain ⟨r, h1, h2⟩ := hr i hi
    exact ⟨r, by simp [cellsOf, hi, h1], h1, h2⟩
  have hcells : Hid (∀ (W : World), (∀ i, i < n → W.cell? ⟨b, off + i, none⟩ = w.cell? ⟨b, off + i, none⟩) → ∀ (j : Nat) (u : Value), (cellsOf w b off n)[j]? = some u → W.cell? ((⟨b, off, none⟩ : Addr).add j) = some u) := by
    intro W hW j u hj
    have hjn : j < n := by
      have := (List.getElem?_eq_some_iff.1 hj).1
      simpa [cellsOf] using this
    obtain ⟨r, h1, h2, _⟩ := hat.out j hjn
    rw [addr_add, hW j hjn, h2, ← h1, hj]
  have hone : Hid (∀ u ∈ cellsOf w b off n, u.oneCell' = true) := by
    intro u hu
    obtain ⟨i, hi, rfl⟩ := List.mem_map.1 hu
    have hi' := List.mem_range.1 hi
    obtain ⟨r, h1, h2⟩ := hr i hi'
    rw [h1]; exact hE i r hi' h2
  have hl : Hid ((cellsOf w b off n).length = n) := by unfold Hid; simp [cellsOf]
  clear hr hc hE
  generalize cellsOf w b off n = rs at *
  have q22 : ∀ (w : World) (a : Option Addr) (n c n' c' : Nat), (binOp .eql 26 (.slice a n c) (.slice none n' c')).run Try.prog w = .ok (.bool a.isNone) w := fun w a n c n' c' => Lib.run_eql_slice_nil w _ _ a n c n' c' Try.underlying26
  go_enter Try.func102, Try.ntmps102
  go_wp2_with (at_builtin; refine wpList_append_own _ rfl _ _ 26 rfl w.heap.size 22 i0 (.slice none 0 0) 1 24 Try.underlying26 hi hz0 hz1 hz2 rfl (by decide) _ _ _ rfl (World.ownsRow_made w #[] 0 (Nat.le_refl _) (Nat.zero_le _) rfl) ⟨b, off, none⟩ n cap rs rfl ?qc1 ?qc2 ?qc3 ?qc4 ?qc5 ?qc6 ?_)
  case qc1 => rw [hl.out]; omega
  case qc2 => exact hcells.out _ fun i hi => World.cell?_alloc_lt w _ _ (by show b < w.heap.size; omega)
  case qc3 => exact hone.out
  case qc4 => unfold maxLen; omega
  case qc5 => omega
  case qc6 => simp
  intro v' w1 hown hgrow hnil
  obtain ⟨hl2, ⟨rfl, h2⟩ | ⟨g, cap', cur, rfl, hg, hh⟩⟩ := hown
  · omega
  go_wp2
  go_ret
  exact ⟨g, cap', rs, by simp, hg, ⟨hl2, .inr ⟨g, cap', cur, rfl, hg, hh⟩⟩, hl.out, fun i hi => by obtain ⟨r, h1, _, h3⟩ := hat.out i hi; exact ⟨r, h1, h3⟩, ((Below.refl _ w).alloc (Nat.le_refl _) _).grown hgrow (by simp) (by intro k hk; simp [Value.ownBlock] at hk; omega)⟩

end Go.Proofs.Ytmmadlpkolcgkaa
