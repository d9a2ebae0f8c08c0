/-
  The chapter's CopyFruits.
-/
import Derived.Test.YtmmadlpkolcgkaaCopy1
namespace Go.Proofs.Ytmmadlpkolcgkaa
open Go.RowKit

set_option maxHeartbeats 2000000 in
set_option maxRecDepth 100000 in
theorem copyFruits_any (N : Nat) (u : Value) (R : Fr) (w : World) (hf : FruitsAt N w u R) (hN : N ≤ w.heap.size) (hn : R.n ≤ 1000) (hL : ∀ f, f < R.n → R.L f ≤ 1000) :
    Calls Try.prog 17 #[u] w fun e w' => ∃ v, e = .returned v ∧ RowsIn w' w.heap.size w'.heap.size v R.n R.L R.X ∧ Below w.heap.size w w' := by
  obtain ⟨i1, hi, hz0, hz1, hz2⟩ := info_parts Try.infoInts
  obtain ⟨au, cu, rfl, hnR, hcR⟩ := hf
  have HCR : Hid _ := Lib.hid hcR
  have HL : Hid _ := Lib.hid hL
  have HN : Hid _ := Lib.hid hN
  clear hcR hL hN
  go_enter Try.func17, Try.ntmps17
  go_wp2
  go_loopw [3, 4] (fun v i wr => ∃ k : Nat, k ≤ R.n ∧ i = .int .i64 k ∧ Hid (RowsIn wr w.heap.size wr.heap.size v k R.L R.X) ∧ Hid (Below w.heap.size w wr)) (fun _ i _ => R.n - (intOf i).toNat)
  case atStart => exact ⟨0, Nat.zero_le _, rfl, rowsIn_nil _ _ _ _ _ _ (Nat.le_refl _) rfl, Below.refl _ _⟩
  case round =>
    obtain ⟨k, hk, rfl, hrows, HBr⟩ := hrel
    by_cases hkn : k < R.n
    · obtain ⟨rows, M, ho, hob, hlen, h0, hM, hm, hr⟩ := hrows.out
      clear hob
      obtain ⟨b, off, rfl, hb, hcr⟩ := HCR.out (by omega)
      obtain ⟨r, hcell, hints⟩ := hcr k hkn
      replace hcell := (HBr.out.cell (p := ⟨b, off + k, none⟩) (by have := HN.out; show b < _; omega)).trans hcell
      have HI : Hid (IntsAt N wr r (R.L k) (R.X k)) := hints.mono (HBr.out.mono HN.out) (Nat.le_refl _)
      obtain ⟨ar, cr, rfl, _, _⟩ := hints
      have HO : Hid _ := Lib.hid ho
      have HR : Hid _ := Lib.hid hr
      have HH : Hid (rows.length = k ∧ w.heap.size ≤ M 0 ∧ M k ≤ wr.heap.size ∧ ∀ j, j < k → M j ≤ M (j + 1)) := ⟨hlen, h0, hM, hm⟩
      have hlen' := hlen
      clear ho hr hlen h0 hM hm hcr hlen'
      have HS : Hid (w.heap.size ≤ wr.heap.size) := HBr.out.size
      have hbs : b < wr.heap.size := Nat.lt_of_lt_of_le hb (Nat.le_trans HN.out HS.out)
      go_wp2_with (first
        | (at_builtin; refine wpList_clone _ ?_ (.tmp 12) (.tmp 16) ?_ ?_ N wr.heap.size _ (R.L k) _ (R.X k) ?_ ?_ (HI.out.mono (below_alloc (Nat.le_trans HN.out HS.out) _) (Nat.le_refl _)) (by have := HL.out k hkn; omega) ?_; (any_goals (exact rfl)); intro v1 w1 hrow hb1; obtain ⟨g1, p1, rfl⟩ := hrow.form; have HRW := Lib.hid (hrow.wider (Nat.le_of_lt (by simp)) (Nat.le_refl _) : RowIn w1 wr.heap.size w1.heap.size _ _ _); have HB1 := Lib.hid ((below_alloc (Nat.le_refl _) _).trans (hb1.mono (Nat.le_of_lt (by simp))) : Below wr.heap.size wr w1); clear hrow hb1; have hown1 := own_below HO.out HB1.out)
        | (at_builtin; refine wpList_append_own _ rfl (.tmp 11) (.tmp 18) 26 rfl w.heap.size 22 i1 (.slice none 0 0) 1 24 Try.underlying26 hi hz0 hz1 hz2 rfl (by decide) _ _ _ rfl (hown1.alloc _) ⟨w1.heap.size, 0, none⟩ 1 1 [.slice (some ⟨g1, 0, none⟩) (R.L k) p1] rfl rfl (cell_one_new _ _ _) (by simp [Value.oneCell']) (by unfold maxLen; omega) (by omega) (by have := HB1.out.size; have := HS.out; simp; omega) ?_; intro v' w2 hown2 hgrow _))
      go_roundw
      case rel =>
        refine ⟨k + 1, by omega, by go_num, ?_, ?_⟩
        · obtain ⟨hlen, h0, hM, hm⟩ := HH.out
          refine rowsIn_step hlen h0 hM hm HR.out HB1.out HRW.out hown2 (fun g cur hg => ?_) (by have := hgrow.size; simp at this; omega)
          have hlt : g < w1.heap.size := (Array.getElem?_eq_some_iff.1 hg).1
          have hall : (w1.alloc (.cells #[.slice (some ⟨g1, 0, none⟩) (R.L k) p1] 22)).heap[g]? = w1.heap[g]? := Below.heap_alloc _ _ _ hlt
          rw [hgrow.block g (by simp; omega) (own_other hown1 hg), hall]
        · exact (Below.alloc (HBr.out.trans (HB1.out.mono HS.out)) (Nat.le_trans HS.out HB1.out.size) _).grown hgrow (by have := HB1.out.size; have := HS.out; simp; omega) (fun j e => (hown1.lt j e).1)
      case measure => simp [intOf]; omega
    · have Hk : Hid (k = R.n) := by show k = _; omega
      go_wp2
      go_ret
      exact ⟨_, rfl, by rw [← Hk.out]; exact hrows.out, HBr.out⟩

end Go.Proofs.Ytmmadlpkolcgkaa
