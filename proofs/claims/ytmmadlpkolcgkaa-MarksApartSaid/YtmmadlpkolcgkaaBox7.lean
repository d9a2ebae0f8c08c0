import Derived.Test.YtmmadlpkolcgkaaBox6
namespace Go.Proofs.Ytmmadlpkolcgkaa
open Go.RowKit

/-- the values that the mark m of the fruit f really has in truths -/
def exAny (B : Bk) (R : Fr) (f m : Nat) (x : Int) : Bool := anyB B.ns fun s => ex B R s f m x
def vals (B : Bk) (R : Fr) (f m : Nat) : List Int := sel (fun x => exAny B R f m x) (B.V m).toNat

set_option maxHeartbeats 4000000 in
theorem values_any (N : Nat) (v : Value) (B : Bk) (R : Fr) (f m : Nat) (w : World) (h : BoxAt N w v B R) (hg : Good B R) (hm : m < B.nv) :
    Calls Try.prog 76 #[v, .agg #[.int .i64 f, .int .i64 m]] w (GivesI w.heap.size w (vals B R f m)) := by
  have H : Hid (BoxAt N w v B R) := h
  have HG : Hid _ := Lib.hid hg
  obtain ⟨i0, hi, hz0, hz1, hz2⟩ := info_parts Try.infoInt
  obtain ⟨hN, a1, c1, a2, c2, a3, c3, af, cf, rfl, h1, h2, h3, h4⟩ := h
  obtain ⟨_, _, e1, _, hc1⟩ := h1
  cases e1
  obtain ⟨b1, off1, rfl, hb1, hr1⟩ := hc1 (by omega)
  obtain ⟨r1, hcell1, rfl⟩ := hr1 m hm
  have hV := hg.V m hm
  obtain ⟨n, hn⟩ : ∃ n : Nat, B.V m = n := ⟨(B.V m).toNat, by omega⟩
  have hn5 : n ≤ 5 := by omega
  have HV : Hid ((B.V m).toNat = n) := by unfold Hid; omega
  rw [hn] at hcell1
  have g1 : b1 < w.heap.size := by omega
  have k1 : ∀ o o', ((w.alloc o).alloc o').cell? ⟨b1, off1 + m, none⟩ = some (.int .i64 n) := fun o o' => ((below_alloc (N := w.heap.size) (Nat.le_refl _) o).alloc (by simp) o') |>.cell (p := ⟨b1, off1 + m, none⟩) g1 |>.trans hcell1
  have H8 := hg.ns
  clear hg hc1 hr1 h2 h3 h4 hV hn
  go_enter Try.func76, Try.ntmps76
  go_wp2
  obtain ⟨ws, hws⟩ : ∃ ws : World, (w.alloc (.cells #[.slice (some ⟨b1, off1, none⟩) B.nv c1, .slice a2 B.nf c2, .slice a3 B.ns c3, .int .i64 B.wr, .slice af R.n cf] 93)).alloc (.cells #[.int .i64 f, .int .i64 m] 40) = ws := ⟨_, rfl⟩
  have hB0 : Below w.heap.size w ws := by
    rw [← hws]; exact ((Below.refl _ w).alloc (Nat.le_refl _) _).alloc (by simp) _
  have hsz : w.heap.size + 1 < ws.heap.size := by rw [← hws]; simp
  have hbox : Hid (ws.heap[w.heap.size]? = some (.cells #[.slice (some ⟨b1, off1, none⟩) B.nv c1, .slice a2 B.nf c2, .slice a3 B.ns c3, .int .i64 B.wr, .slice af R.n cf] 93) ∧ ws.heap[w.heap.size + 1]? = some (.cells #[.int .i64 f, .int .i64 m] 40)) := by
    rw [← hws]
    refine ⟨?_, ?_⟩
    · rw [Below.heap_alloc _ _ _ (by simp)]; exact World.alloc_heap_new _ _
    · have := World.alloc_heap_new (w.alloc (.cells #[.slice (some ⟨b1, off1, none⟩) B.nv c1, .slice a2 B.nf c2, .slice a3 B.ns c3, .int .i64 B.wr, .slice af R.n cf] 93)) (.cells #[.int .i64 f, .int .i64 m] 40); rwa [World.size_alloc] at this
  rw [hws]
  clear hws k1
  go_loopw [5, 15] (fun t i wr => ∃ k : Nat, k ≤ n ∧ i = .int .i64 k ∧ Hid (OwnI ws.heap.size wr t (sel (fun x => exAny B R f m x) k)) ∧ Hid (Below ws.heap.size ws wr)) (fun _ i _ => n - (intOf i).toNat)
  case atStart => exact ⟨0, Nat.zero_le _, rfl, World.ownsRow_nil _ _ _ _, Below.refl _ _⟩
  case round =>
    obtain ⟨k, hk, rfl, ho, hB⟩ := hrel
    by_cases hkn : k < n
    · have hb0 := (hB.out.block _ (Nat.lt_of_succ_lt hsz)).trans hbox.out.1
      have q2 := cell_blk hb0 2 rfl
      clear hb0
      have hsl := sel_len (fun x => exAny B R f m x) k
      go_wp2
      obtain ⟨wo, rfl⟩ : ∃ wo : World, wo = wr := ⟨_, rfl⟩
      obtain ⟨T, rfl⟩ : ∃ T, T = u5 := ⟨_, rfl⟩
      clear q2
      go_loopw [5, 22] (fun t i wr => ∃ j : Nat, j ≤ B.ns ∧ i = .int .i64 j ∧ t = T ∧ Hid (∀ s, s < j → ex B R s f m k = false) ∧ Hid (Below wo.heap.size wo wr)) (fun _ i _ => B.ns - (intOf i).toNat)
      case atStart => exact ⟨0, Nat.zero_le _, rfl, rfl, fun j hj => absurd hj (Nat.not_lt_zero j), Below.refl _ _⟩
      case round =>
        obtain ⟨j, hj, rfl, rfl, hno, hC⟩ := hrel
        by_cases hjn : j < B.ns
        · have hD : Hid (Below ws.heap.size ws wr) := step hB.out (Nat.le_refl _) hC.out
          have hb0 := (hD.out.block _ (Nat.lt_of_succ_lt hsz)).trans hbox.out.1
          have hb1' := (hD.out.block _ hsz).trans hbox.out.2
          have q0 := cell_blk hb0 0 rfl
          have q1 := cell_blk hb0 1 rfl
          have q2 := cell_blk hb0 2 rfl
          have q3 := cell_blk hb0 3 rfl
          have q4 := cell_blk hb0 4 rfl
          have p0 := cell_blk hb1' 0 rfl
          have p1 := cell_blk hb1' 1 rfl
          have HW : Hid (Below w.heap.size w wr) := hB0.trans (hD.out.mono (by omega))
          clear hb0 hb1'
          cases hex : ex B R j f m k with
          | true =>
            have HEX : Hid _ := Lib.hid hex
            have HP : Hid (sel (fun x => exAny B R f m x) (k + 1) = sel (fun x => exAny B R f m x) k ++ [(k : Int)]) := sel_hit (anyB_true.2 ⟨j, hjn, hex⟩)
            clear hex
            generalize sel (fun x => exAny B R f m x) k = l at *
            go_wp2_with (first
              | (go_at_call 93; refine (explains_any N _ B R j f m _ _ (H.out.mono (HW.out.mono hN) (Nat.le_refl _) (Nat.le_trans hN HW.out.size)) HG.out hjn hm).mono ?_; rintro e w1 ⟨rfl, hb1⟩; rw [HEX.out]; have hown1 := own_below (own_below ho.out hC.out) hb1; have hE := step hD.out (Nat.le_refl _) hb1)
              | (at_builtin; refine wpList_append_own _ rfl _ _ 22 rfl ws.heap.size 3 i0 (.int .i64 0) 1 8 Try.underlying22 hi hz0 hz1 hz2 rfl (by decide) _ _ _ rfl (hown1.alloc _) ⟨w1.heap.size, 0, none⟩ 1 1 [.int .i64 k] rfl rfl (cell_one_new _ _ _) (by simp [Value.oneCell']) (by unfold maxLen; omega) (by omega) (Nat.le_trans hE.size (by simp)) ?_; intro v' w2 hown2 hgrow _))
            go_roundw
            case rel => exact ⟨k + 1, by omega, by go_num, by rw [HP.out]; unfold Hid OwnI; rw [List.length_append, List.map_append]; exact hown2, (Below.alloc hE hE.size _).grown hgrow (Nat.le_trans hE.size (by simp)) (fun j e => (hown1.lt j e).1)⟩
            case measure => simp [intOf]; omega
          | false =>
            have HEX : Hid _ := Lib.hid hex
            clear hex
            go_wp2_with (first
              | (go_at_call 93; refine (explains_any N _ B R j f m _ _ (H.out.mono (HW.out.mono hN) (Nat.le_refl _) (Nat.le_trans hN HW.out.size)) HG.out hjn hm).mono ?_; rintro e w1 ⟨rfl, hb1⟩; rw [HEX.out]))
            go_roundw
            case rel => exact ⟨j + 1, by omega, by go_num, rfl, lt_succ hno.out HEX.out, step hC.out (Nat.le_refl _) hb1⟩
            case measure => simp [intOf]; omega
        · have HP : Hid (sel (fun x => exAny B R f m x) (k + 1) = sel (fun x => exAny B R f m x) k) := sel_miss (anyB_false.2 fun s hs => hno.out s (by omega))
          have HO : Hid _ := Lib.hid (own_below ho.out hC.out)
          go_wp2
          go_roundw
          case rel => exact ⟨k + 1, by omega, by go_num, by rw [HP.out]; exact HO.out, step hB.out (Nat.le_refl _) hC.out⟩
          case measure => simp [intOf]; omega
    · have Hk : Hid (k = n) := by show k = _; omega
      go_wp2
      go_ret
      exact ⟨_, rfl, by unfold vals; rw [HV.out, ← Hk.out]; exact own_mono ho.out (by omega), hB0.trans (hB.out.mono (by omega))⟩

end Go.Proofs.Ytmmadlpkolcgkaa
