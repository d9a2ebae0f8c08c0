import Derived.Test.YtmmadlpkolcgkaaBox7
namespace Go.Proofs.Ytmmadlpkolcgkaa
open Go.RowKit

/-- places -/
def OwnP (N : Nat) (w : World) (v : Value) (l : List (Nat × Nat)) : Prop := w.ownsRow N 40 2 v l.length (l.flatMap fun p => [Value.int .i64 (p.1 : Int), Value.int .i64 (p.2 : Int)])
def GivesP (N : Nat) (w : World) (l : List (Nat × Nat)) (e : Ending) (w' : World) : Prop := ∃ v, e = .returned v ∧ OwnP N w' v l ∧ Below N w w'

def rowP (p : Nat → Nat → Bool) (f : Nat) : Nat → List (Nat × Nat)
  | 0 => []
  | i + 1 => if p f i then rowP p f i ++ [(f, i)] else rowP p f i
def allP (p : Nat → Nat → Bool) (n : Nat) : Nat → List (Nat × Nat)
  | 0 => []
  | f + 1 => allP p n f ++ rowP p f n
theorem rowP_len (p : Nat → Nat → Bool) (f i : Nat) : (rowP p f i).length ≤ i := by
  induction i with
  | zero => simp [rowP]
  | succ i ih =>
    unfold rowP; split
    · simp; omega
    · omega
theorem allP_len (p : Nat → Nat → Bool) (n f : Nat) : (allP p n f).length ≤ f * n := by
  induction f with
  | zero => simp [allP]
  | succ f ih =>
    have := rowP_len p f n
    unfold allP; rw [List.length_append, Nat.succ_mul]; omega

theorem Try.infoPlace : (Try.prog.info? 40).map (fun i => (i.zero, i.size, i.bytes)) = some (some (.agg #[.int .i64 0, .int .i64 0]), 2, 16) := by kernel_rfl

/-- is the value that was seen wrong in each truth? -/
def misB (B : Bk) (R : Fr) (f i : Nat) : Bool := decide (R.X f i ≠ -1) && !exAny B R f i (R.X f i)
def mistakes (B : Bk) (R : Fr) : List (Nat × Nat) := allP (misB B R) B.nv R.n

theorem cells_new (w : World) (cs : List Value) (t : TypeId) : ∀ j u, cs[j]? = some u → (w.alloc (.cells cs.toArray t)).cell? ((⟨w.heap.size, 0, none⟩ : Addr).add j) = some u := by
  intro j u h
  rw [addr_add, Nat.zero_add, World.cell?_alloc_new]
  simpa using h

set_option maxHeartbeats 4000000 in
theorem mistakes_any (N : Nat) (v : Value) (B : Bk) (R : Fr) (w : World) (h : BoxAt N w v B R) (hg : Good B R) :
    Calls Try.prog 78 #[v] w (GivesP w.heap.size w (mistakes B R)) := by
  have H : Hid (BoxAt N w v B R) := h
  have HG : Hid _ := Lib.hid hg
  obtain ⟨i0, hi, hz0, hz1, hz2⟩ := info_parts Try.infoPlace
  obtain ⟨hN, a1, c1, a2, c2, a3, c3, af, cf, rfl, h1, h2, h3, h4⟩ := h
  obtain ⟨_, _, e4, _, hc4⟩ := h4
  cases e4
  have HC4 : Hid _ := Lib.hid hc4
  have H8 := hg.ns
  have H5 := hg.n
  have H6 := hg.nv
  clear hg h1 h2 h3 hc4
  go_enter Try.func78, Try.ntmps78
  go_wp2
  go_loopw [3, 13] (fun t i wr => ∃ k : Nat, k ≤ R.n ∧ i = .int .i64 k ∧ Hid (OwnP (w.heap.size + 1) wr t (allP (misB B R) B.nv k)) ∧ Hid (Below (w.heap.size + 1) (w.alloc (.cells #[.slice a1 B.nv c1, .slice a2 B.nf c2, .slice a3 B.ns c3, .int .i64 B.wr, .slice af R.n cf] 93)) wr)) (fun _ i _ => R.n - (intOf i).toNat)
  case atStart => exact ⟨0, Nat.zero_le _, rfl, World.ownsRow_nil _ _ _ _, Below.refl _ _⟩
  case round =>
    obtain ⟨k, hk, rfl, ho, hB⟩ := hrel
    by_cases hkn : k < R.n
    · obtain ⟨b4, off4, rfl, hb4, hr4⟩ := HC4.out (by omega)
      obtain ⟨r4, hcell4, ao, cap, rfl, hL, hcr⟩ := hr4 k hkn
      have HCR : Hid _ := Lib.hid hcr
      have HL : Hid (R.L k = B.nv) := HG.out.L k hkn
      replace hcell4 := ((below_of hB.out).cell (p := ⟨b4, off4 + k, none⟩) (by show b4 < _; omega)).trans hcell4
      clear hr4 hcr
      go_wp2
      obtain ⟨wo, rfl⟩ : ∃ wo : World, wo = wr := ⟨_, rfl⟩
      have hal := allP_len (misB B R) B.nv k
      have hal2 : (allP (misB B R) B.nv k).length ≤ 30 := Nat.le_trans hal (Nat.le_trans (Nat.mul_le_mul (by omega : k ≤ 5) H6) (by decide))
      clear hcell4 hal
      go_step3
      go_wp2
      go_step3
      go_wp2
      go_loopw [3, 20] (fun t i wr => ∃ j : Nat, j ≤ R.L k ∧ i = .int .i64 j ∧ Hid (OwnP (w.heap.size + 1) wr t (allP (misB B R) B.nv k ++ rowP (misB B R) k j)) ∧ Hid (Below (w.heap.size + 1) (w.alloc (.cells #[.slice a1 B.nv c1, .slice a2 B.nf c2, .slice a3 B.ns c3, .int .i64 B.wr, .slice (some ⟨b4, off4, none⟩) R.n cf] 93)) wr)) (fun _ i _ => R.L k - (intOf i).toNat)
      case atStart => exact ⟨0, Nat.zero_le _, rfl, by unfold rowP; rw [List.append_nil]; exact ho, hB⟩
      case round =>
        obtain ⟨j, hj, rfl, ho2, hB2⟩ := hrel
        by_cases hjn : j < R.L k
        · obtain ⟨b5, off5, rfl, hb5, hr5⟩ := HCR.out (by omega)
          obtain ⟨r5, hcell5, rfl⟩ := hr5 j hjn
          replace hcell5 := ((below_of hB2.out).cell (p := ⟨b5, off5 + j, none⟩) (by show b5 < _; omega)).trans hcell5
          clear hr5
          have hrl := rowP_len (misB B R) k j
          by_cases hx : R.X k j = -1
          · have hxe : (R.X k j == -1) = true := by simp [hx]
            have HP : Hid (rowP (misB B R) k (j + 1) = rowP (misB B R) k j) := by unfold Hid; simp [rowP, misB, hx]
            clear hx
            go_wp2
            go_roundw
            case rel => exact ⟨j + 1, by omega, by go_num, by rw [HP.out]; exact ho2, hB2⟩
            case measure => simp [intOf]; omega
          · have hxe : (R.X k j == -1) = false := by simp [hx]
            have HX : Hid (¬ R.X k j = -1) := hx
            clear hx
            have q2 := box_cell hB2.out 2 rfl
            have hsz := size_of hB2.out
            go_wp2
            have hPl : Hid (Below (w.heap.size + 1) (w.alloc (.cells #[.slice a1 B.nv c1, .slice a2 B.nf c2, .slice a3 B.ns c3, .int .i64 B.wr, .slice (some ⟨b4, off4, none⟩) R.n cf] 93)) (wr.alloc (.cells #[.int .i64 k, .int .i64 j] 40))) := chain_alloc hB2.out _
            obtain ⟨wi, rfl⟩ : ∃ wi : World, wi = wr := ⟨_, rfl⟩
            have HO : Hid _ := Lib.hid (ho2.out.alloc (.cells #[.int .i64 k, .int .i64 j] 40))
            clear q2 hcell5
            go_loopw [34] (fun i wr => ∃ q : Nat, q ≤ B.ns ∧ i = .int .i64 q ∧ Hid (∀ s, s < q → ex B R s k j (R.X k j) = false) ∧ Hid (Below (wi.heap.size + 1) (wi.alloc (.cells #[.int .i64 k, .int .i64 j] 40)) wr)) (fun i _ => B.ns - (intOf i).toNat)
            case atStart => exact ⟨0, Nat.zero_le _, rfl, fun j hj => absurd hj (Nat.not_lt_zero j), Below.refl _ _⟩
            case round =>
              obtain ⟨q, hq, rfl, hno, hC⟩ := hrel
              have hD : Hid (Below (w.heap.size + 1) (w.alloc (.cells #[.slice a1 B.nv c1, .slice a2 B.nf c2, .slice a3 B.ns c3, .int .i64 B.wr, .slice (some ⟨b4, off4, none⟩) R.n cf] 93)) wr) := hPl.out.trans (hC.out.mono (by omega))
              have HO2 : Hid _ := Lib.hid (own_below HO.out (hC.out.mono (by simp)))
              have p0 := box_cell hC.out 0 rfl
              have p1 := box_cell hC.out 1 rfl
              by_cases hqn : q < B.ns
              · have q0 := box_cell hD.out 0 rfl
                have q1 := box_cell hD.out 1 rfl
                have q2 := box_cell hD.out 2 rfl
                have q3 := box_cell hD.out 3 rfl
                have q4 := box_cell hD.out 4 rfl
                have hjv : j < B.nv := by have := HL.out; omega
                cases hex : ex B R q k j (R.X k j) with
                | true =>
                  have HEX : Hid _ := Lib.hid hex
                  have HP : Hid (rowP (misB B R) k (j + 1) = rowP (misB B R) k j) := by
                    have hz : exAny B R k j (R.X k j) = true := anyB_true.2 ⟨q, hqn, hex⟩
                    unfold Hid; simp [rowP, misB, hz]
                  clear hex
                  go_wp2_with (first
                    | (go_at_call 93; refine (explains_any N _ B R q k j _ _ (H.out.chain hD.out) HG.out hqn hjv).mono ?_; rintro e w1 ⟨rfl, hb1⟩; rw [HEX.out]))
                  go_roundw
                  case rel => exact ⟨j + 1, by omega, by go_num, by rw [HP.out]; exact own_below HO2.out hb1, chain hD.out hb1⟩
                  case measure => simp [intOf]; omega
                | false =>
                  have HEX : Hid _ := Lib.hid hex
                  clear hex
                  go_wp2_with (first
                    | (go_at_call 93; refine (explains_any N _ B R q k j _ _ (H.out.chain hD.out) HG.out hqn hjv).mono ?_; rintro e w1 ⟨rfl, hb1⟩; rw [HEX.out]))
                  go_roundw
                  case rel => exact ⟨q + 1, by omega, by go_num, lt_succ hno.out HEX.out, chain hC.out hb1⟩
                  case measure => simp [intOf]; omega
              · have HP : Hid (rowP (misB B R) k (j + 1) = rowP (misB B R) k j ++ [(k, j)]) := by
                  have hz : exAny B R k j (R.X k j) = false := anyB_false.2 fun s hs => hno.out s (by omega)
                  unfold Hid; simp [rowP, misB, hz, HX.out]
                have hrl2 : (allP (misB B R) B.nv k ++ rowP (misB B R) k j).length ≤ 40 := by
                  have := HL.out
                  rw [List.length_append]; omega
                have hsz2 := size_of hD.out
                have hown := HO2.out
                generalize hll : allP (misB B R) B.nv k ++ rowP (misB B R) k j = l at *
                have HLL : Hid _ := Lib.hid hll
                clear hll
                go_wp2_with (at_builtin; refine wpList_append_own _ rfl _ _ 48 rfl (w.heap.size + 1) 40 i0 (.agg #[.int .i64 0, .int .i64 0]) 2 16 Try.underlying48 hi hz0 hz1 hz2 rfl (by decide) _ _ _ rfl (hown.alloc _) ⟨wr.heap.size, 0, none⟩ 1 1 [.int .i64 k, .int .i64 j] rfl rfl (cells_new _ _ _) (by simp [Value.oneCell']) (by unfold maxLen; omega) (by omega) (by simp; omega) ?_; intro v' w2 hown2 hgrow _)
                go_roundw
                case rel => exact ⟨j + 1, by omega, by go_num, by
                  rw [HP.out, ← List.append_assoc, HLL.out]; unfold Hid OwnP; rw [List.length_append, List.flatMap_append]; exact hown2, (Below.alloc hD.out (by omega) _).grown hgrow (by simp; omega) (fun j e => (hown.lt j e).1)⟩
                case measure => simp [intOf]; omega
        · have Hj : Hid (j = R.L k) := by show j = _; omega
          have HP : Hid (allP (misB B R) B.nv (k + 1) = allP (misB B R) B.nv k ++ rowP (misB B R) k j) := by
            unfold Hid; rw [Hj.out, HL.out]; rfl
          go_wp2
          show Exit.inBlock 1 _ Exit.normal _ _
          go_wp2
          go_roundw
          case rel => exact ⟨k + 1, by omega, by go_num, by rw [HP.out]; exact ho2, hB2⟩
          case measure => simp [intOf]; omega
    · have Hk : Hid (k = R.n) := by show k = _; omega
      go_wp2
      go_ret
      exact ⟨_, rfl, by unfold mistakes; rw [← Hk.out]; exact own_mono ho.out (by omega), below_of hB.out⟩

end Go.Proofs.Ytmmadlpkolcgkaa
