/-
  JKT: slices.Delete of one number, in a list of the call's own.
-/
import Derived.Test.YtffnlimgjnhmpaaJKP
import Derived.Laws.AppendOwn
import Derived.Laws.CopyOwn
import Derived.Lib.SliceRun
namespace Go.Proofs.Ytffnlimgjnhmpaa
open Go.RowKit

theorem oper_append {P : Program} {o : Oper} {a : Act} {w : World} {K : Act → World → Prop} {Q : Exit → Act → World → Prop} {s x : Operand} {t : TypeId} {vs vx v' : Value} {w' : World}
    (hop : o.op = Op.call { callee := Callee.builtin Builtin.append, args := #[s, x], argTypes := #[t, t] }) (hs : a.eval s = vs) (hx : a.eval x = vx)
    (hrun : (Builtin.append_ #[t, t] o.type #[vs, vx]).run P w = .ok v' w') (hK : K (a.put o.dst v') w') : Oper.wp P o a w K Q := by
  unfold Oper.wp
  simp [execOp, hop, resolve, invoke, builtin, hs, hx, hrun, Result.andThen]
  exact hK
set_option maxRecDepth 10000 in
/-- one number is taken out: the others behind it are moved -/
theorem del_run (g c k n : Nat) (ad : Addr) (c2 : Nat) (l : List Int) (cur : Array Value) (w : World) (hn : l.length = n) (hk : k < n) (hc : n ≤ c) (hh : w.heap[g]? = some (.cells cur 3)) (hcur : ∀ i, i < l.length → cur[i]? = some (.int .i64 (l.getD i 0)))
    (had : k + 1 < n → ad = ⟨g, k + 1, none⟩) :
    ∃ w' cur', (Builtin.append_ #[25, 25] 25 #[.slice (some ⟨g, 0, none⟩) k c, .slice (some ad) (n - (k + 1)) c2]).run Try.prog w = .ok (.slice (some ⟨g, 0, none⟩) (n - 1) c) w' ∧ w'.heap[g]? = some (.cells cur' 3) ∧ cur'.size = cur.size ∧ (∀ i, i < n - 1 → cur'[i]? = some (.int .i64 ((l.eraseIdx k).getD i 0))) ∧ (∀ b, b ≠ g → w'.heap[b]? = w.heap[b]?) ∧ Below g w w' := by
  obtain ⟨i0, hi0, hz0, hz1, hz2⟩ := info_parts Try.infoInt
  have hsz : n ≤ cur.size := by
    have := hcur (n - 1) (by omega)
    rw [Array.getElem?_eq_some_iff] at this
    obtain ⟨h, _⟩ := this
    omega
  have hnl : ((l.drop (k + 1)).map (Value.int .i64)).length = n - (k + 1) := by simp [hn]
  have hrun := run_append_room (P := Try.prog) (w := w) 25 25 3 i0 Try.underlying25 hi0 g k c cur hh ad (n - (k + 1)) c2 ((l.drop (k + 1)).map (Value.int .i64)) (by rw [hnl, hz1]; omega)
    (fun j u hu => by
      rcases Nat.lt_or_ge (k + 1 + j) n with h | h
      · have e : ((l.drop (k + 1)).map (Value.int .i64))[j]? = some (.int .i64 (l.getD (k + 1 + j) 0)) := by
          rw [List.getElem?_map, List.getElem?_drop, List.getElem?_eq_getElem (hn ▸ h), getD_at (hn ▸ h)]; rfl
        rw [e] at hu
        injection hu with hu
        rw [had (Nat.lt_of_le_of_lt (Nat.le_add_right _ _) h), ← hu, Addr.add_lit]
        exact cell_blk hh (k + 1 + j) (hcur (k + 1 + j) (hn ▸ h))
      · rw [List.getElem?_eq_none (by rw [hnl]; omega)] at hu; cases hu)
    (fun u hu => by obtain ⟨x, _, rfl⟩ := List.mem_map.1 hu; rfl) (by omega) (by rw [hnl, hz1]; omega)
  rw [hz1, Nat.mul_one, hnl, show k + (n - (k + 1)) = n - 1 by omega] at hrun
  refine ⟨_, _, hrun, setRow_heap w g cur _ _ _ hh, ?_, fun i hi => ?_, fun b hb => setRow_other w g b _ hb, below_setRow (Below.refl _ _) (Nat.le_refl _) _⟩
  · simp [hn]; omega
  · have e1 : cur.toList.take k = (l.take k).map (Value.int .i64) := by
      refine List.ext_getElem (by simp; omega) fun m h1 h2 => ?_
      simp at h1 h2
      have h3 := hcur m (by omega)
      rw [getD_at (by omega)] at h3
      rw [Array.getElem?_eq_some_iff] at h3
      obtain ⟨_, h3⟩ := h3
      simp [h3]
    rw [e1, ← List.map_append, ← List.eraseIdx_eq_take_drop_succ]
    have hel : (l.eraseIdx k).length = n - 1 := by rw [List.length_eraseIdx_of_lt (by omega), hn]
    rw [List.getElem?_toArray, List.getElem?_append_left (by rw [List.length_map, hel]; exact hi), List.getElem?_map, List.getElem?_eq_getElem (by rw [hel]; exact hi), getD_at (by rw [hel]; exact hi)]
    rfl
theorem zeroI (w : World) : (zeroValue 3).run Try.prog w = .ok (.int .i64 0) w := by kernel_rfl
/-- one cell is cleared -/
theorem clr_run {g : Nat} {cur : Array Value} {w : World} (m : Nat) (hh : w.heap[g]? = some (.cells cur 3)) (hm : m < cur.size) :
    ∃ w' cur', (∀ ty c, (Builtin.clear_ #[25] ty #[.slice (some ⟨g, m, none⟩) 1 c]).run Try.prog w = .ok (.tuple #[]) w') ∧ w'.heap[g]? = some (.cells cur' 3) ∧ (∀ i, i < m → cur'[i]? = cur[i]?) ∧ (∀ b, b ≠ g → w'.heap[b]? = w.heap[b]?) ∧ Below g w w' := by
  refine ⟨_, cur.setIfInBounds m (.int .i64 0), fun ty c => Lib.run_clear_slice w 25 3 ty (.int .i64 0) Try.underlying25 zeroI rfl rfl g m 1 c (by omega) (fun j hj => ?_) (fun j hj => free_blk hh _), ?_, fun i hi => ?_, fun b hb => ?_, ?_⟩
  · rw [cell_blk hh (m + j) (x := cur[m]) (by rw [show m + j = m by omega]; exact Array.getElem?_eq_getElem hm)]; rfl
  · exact blk_set hh m _
  · rw [Array.getElem?_setIfInBounds_ne (by omega)]
  · exact Below.heap_setCell _ _ _ _ (by exact hb)
  · exact (Below.refl g w).setCell (p := ⟨g, m, none⟩) (Nat.le_refl _) _

set_option maxHeartbeats 6400000 in
set_option maxRecDepth 100000 in
theorem kdelete_any (g c k : Nat) (l : List Int) (cur : Array Value) (w : World) (hk : k < l.length) (hl : l.length ≤ 40) (hc : l.length ≤ c) (hh : w.heap[g]? = some (.cells cur 3)) (hcur : ∀ i, i < l.length → cur[i]? = some (.int .i64 (l.getD i 0))) :
    Calls Try.prog 100 #[.slice (some ⟨g, 0, none⟩) l.length c, .int .i64 k, .int .i64 (k + 1)] w fun e w' => e = .returned (.slice (some ⟨g, 0, none⟩) (l.length - 1) c) ∧ ∃ cur', w'.heap[g]? = some (.cells cur' 3) ∧ (∀ i, i < l.length - 1 → cur'[i]? = some (.int .i64 ((l.eraseIdx k).getD i 0))) ∧ (∀ b, b ≠ g → w'.heap[b]? = w.heap[b]?) ∧ Below g w w' := by
  obtain ⟨n, hn⟩ : ∃ n, l.length = n := ⟨_, rfl⟩
  have HN := Lib.hid hn
  have HC := Lib.hid hcur
  have HH := Lib.hid hh
  rw [hn] at hk hl hc ⊢
  clear hn hcur hh
  obtain ⟨m, rfl⟩ : ∃ m, n = m + 1 := ⟨n - 1, by omega⟩
  have hcs : m + 1 ≤ cur.size := by
    have := HC.out m (by rw [HN.out]; omega)
    rw [Array.getElem?_eq_some_iff] at this
    obtain ⟨h, _⟩ := this
    omega
  rw [Nat.add_sub_cancel]
  have hki : (k : Int) < ((m + 1 : Nat) : Int) := by omega
  have hkc : k ≤ c := by omega
  by_cases hck : c = k + 1
  · have hn1 : k = m := by omega
    subst hn1
    subst hck
    go_enter Try.func100, Try.ntmps100
    go_upto_region 5 with fail
    obtain ⟨wd, hwd⟩ : ∃ wd, w.drew = wd := ⟨_, rfl⟩
    have hbd : Below g w wd := by rw [← hwd]; exact (Below.refl g w).drew
    have hhd : wd.heap[g]? = some (.cells cur 3) := by rw [← hwd]; exact HH.out
    have hod : ∀ b, b ≠ g → wd.heap[b]? = w.heap[b]? := fun b _ => by rw [← hwd]; rfl
    refine wp_region_held_drew (S := fun _ => True) (by kernel_rfl) trivial (fun hHeld => ?_)
    rw [hwd]
    have hS0 := trivial
    (refine wpAnyH_take (i := 0) (v := ?_) rfl (by kernel_rfl) (by kernel_rfl) (by kernel_rfl) (fun _ _ _ h => h) (Or.inl ⟨by rfl, ?_⟩) (by assumption) ?_; rotate_left; (focus (intro w hSw; (try dsimp only at hSw); go_simp; (try rw [if_pos (by omega)]); (try with_reducible rfl))); (try simp only [List.getElem_toArray, List.getElem_cons_zero, List.getElem_cons_succ, Act.put, List.setIfInBounds_toArray, List.set_cons_zero, List.set_cons_succ]))
    (refine wpAnyH_take (i := 1) (v := ?_) rfl (by kernel_rfl) (by kernel_rfl) (by kernel_rfl) (fun _ _ _ h => h) (Or.inl ⟨by rfl, ?_⟩) (by assumption) ?_; rotate_left; (focus (intro w hSw; (try dsimp only at hSw); go_simp; (try rw [if_pos (by omega)]); (try with_reducible rfl))); (try simp only [List.getElem_toArray, List.getElem_cons_zero, List.getElem_cons_succ, Act.put, List.setIfInBounds_toArray, List.set_cons_zero, List.set_cons_succ]))
    (refine wpAnyH_take (i := 2) (v := ?_) rfl (by kernel_rfl) (by kernel_rfl) (by kernel_rfl) (fun _ _ _ h => h) (Or.inl ⟨by rfl, ?_⟩) (by assumption) ?_; rotate_left; (focus (intro w hSw; (try dsimp only at hSw); go_simp; (try rw [if_pos (by omega)]); (try with_reducible rfl))); (try simp only [List.getElem_toArray, List.getElem_cons_zero, List.getElem_cons_succ, Act.put, List.setIfInBounds_toArray, List.set_cons_zero, List.set_cons_succ]))
    (refine wpAnyH_take (i := 3) (v := ?_) rfl (by kernel_rfl) (by kernel_rfl) (by kernel_rfl) (fun _ _ _ h => h) (Or.inl ⟨by rfl, ?_⟩) (by assumption) ?_; rotate_left; (focus (intro w hSw; (try dsimp only at hSw); go_simp; (try rw [if_pos (by omega)]); (try with_reducible rfl))); (try simp only [List.getElem_toArray, List.getElem_cons_zero, List.getElem_cons_succ, Act.put, List.setIfInBounds_toArray, List.set_cons_zero, List.set_cons_succ]))
    (refine wpAnyH_take (i := 4) (v := ?_) rfl (by kernel_rfl) (by kernel_rfl) (by kernel_rfl) (fun _ _ _ h => h) (Or.inl ⟨by rfl, ?_⟩) (by assumption) ?_; rotate_left; (focus (intro w hSw; (try dsimp only at hSw); go_simp; (try rw [if_pos (by omega)]); (try with_reducible rfl))); (try simp only [List.getElem_toArray, List.getElem_cons_zero, List.getElem_cons_succ, Act.put, List.setIfInBounds_toArray, List.set_cons_zero, List.set_cons_succ]))
    (refine wpAnyH_take (i := 5) (v := ?_) rfl (by kernel_rfl) (by kernel_rfl) (by kernel_rfl) (fun _ _ _ h => h) (Or.inl ⟨by rfl, ?_⟩) (by assumption) ?_; rotate_left; (focus (intro w hSw; (try dsimp only at hSw); go_simp; (try rw [if_pos (by omega)]); (try with_reducible rfl))); (try simp only [List.getElem_toArray, List.getElem_cons_zero, List.getElem_cons_succ, Act.put, List.setIfInBounds_toArray, List.set_cons_zero, List.set_cons_succ]))
    refine wpAnyH_ready (rs := [6]) (by kernel_rfl) (by simp) ?_; refine AllReadyH.cons rfl (fun K hK => ?_) AllReadyH.nil; rw [if_pos (by rfl)]
    obtain ⟨w2, cur2, hr2, hh2, hs2, hc2, ho2, hb2⟩ := del_run g (k + 1) k (k + 1) ⟨g, 0, none⟩ (k + 1 - (k + 1)) l cur wd HN.out hk hc hhd HC.out (fun h => absurd h (Nat.lt_irrefl _))
    have hclr := clr_run ((k + 1) - 1) hh2 (by rw [hs2]; omega)
    rw [Nat.add_sub_cancel] at hclr
    obtain ⟨w3, cur3, hclr, hh3, hc3, ho3, hb3⟩ := hclr
    rw [Nat.add_sub_cancel] at hr2 hc2
    (try rw [Nat.sub_self] at hr2)
    (try rw [Nat.add_sub_add_right] at hr2)
    refine oper_append (vs := .slice (some ⟨g, 0, none⟩) k (k + 1)) (vx := (.slice (some ⟨g, 0, none⟩) 0 0)) rfl rfl rfl hr2 ?_
    refine hK.out _ _ trivial (fun hHeld => ?_)
    clear hK K hr2
    (try simp only [List.getElem_toArray, List.getElem_cons_zero, List.getElem_cons_succ, Act.put, List.setIfInBounds_toArray, List.set_cons_zero, List.set_cons_succ])
    (refine wpAnyH_take (i := 7) (v := ?_) rfl (by kernel_rfl) (by kernel_rfl) (by kernel_rfl) (fun _ _ _ h => h) (Or.inl ⟨by rfl, ?_⟩) (by assumption) ?_; rotate_left; (focus (intro w hSw; (try dsimp only at hSw); go_simp; (try with_reducible rfl))); (try simp only [List.getElem_toArray, List.getElem_cons_zero, List.getElem_cons_succ, Act.put, List.setIfInBounds_toArray, List.set_cons_zero, List.set_cons_succ]))
    refine wpAnyH_done (by kernel_rfl) ?_ _; clear hHeld
    go_upto_region 6 with fail
    go_wp2_with fail
    go_ret
    exact ⟨rfl, cur3, hh3, fun i hi => (hc3 i hi).trans (hc2 i hi), fun b hb => (ho3 b hb).trans ((ho2 b hb).trans (hod b hb)), hbd.trans (hb2.trans hb3)⟩
  · skip
    go_enter Try.func100, Try.ntmps100
    go_upto_region 5 with fail
    obtain ⟨wd, hwd⟩ : ∃ wd, w.drew = wd := ⟨_, rfl⟩
    have hbd : Below g w wd := by rw [← hwd]; exact (Below.refl g w).drew
    have hhd : wd.heap[g]? = some (.cells cur 3) := by rw [← hwd]; exact HH.out
    have hod : ∀ b, b ≠ g → wd.heap[b]? = w.heap[b]? := fun b _ => by rw [← hwd]; rfl
    refine wp_region_held_drew (S := fun _ => True) (by kernel_rfl) trivial (fun hHeld => ?_)
    rw [hwd]
    have hS0 := trivial
    (refine wpAnyH_take (i := 0) (v := ?_) rfl (by kernel_rfl) (by kernel_rfl) (by kernel_rfl) (fun _ _ _ h => h) (Or.inl ⟨by rfl, ?_⟩) (by assumption) ?_; rotate_left; (focus (intro w hSw; (try dsimp only at hSw); go_simp; (try rw [if_pos (by omega)]); (try with_reducible rfl))); (try simp only [List.getElem_toArray, List.getElem_cons_zero, List.getElem_cons_succ, Act.put, List.setIfInBounds_toArray, List.set_cons_zero, List.set_cons_succ]))
    (refine wpAnyH_take (i := 1) (v := ?_) rfl (by kernel_rfl) (by kernel_rfl) (by kernel_rfl) (fun _ _ _ h => h) (Or.inl ⟨by rfl, ?_⟩) (by assumption) ?_; rotate_left; (focus (intro w hSw; (try dsimp only at hSw); go_simp; (try rw [if_pos (by omega)]); (try with_reducible rfl))); (try simp only [List.getElem_toArray, List.getElem_cons_zero, List.getElem_cons_succ, Act.put, List.setIfInBounds_toArray, List.set_cons_zero, List.set_cons_succ]))
    (refine wpAnyH_take (i := 2) (v := ?_) rfl (by kernel_rfl) (by kernel_rfl) (by kernel_rfl) (fun _ _ _ h => h) (Or.inl ⟨by rfl, ?_⟩) (by assumption) ?_; rotate_left; (focus (intro w hSw; (try dsimp only at hSw); go_simp; (try rw [if_pos (by omega)]); (try with_reducible rfl))); (try simp only [List.getElem_toArray, List.getElem_cons_zero, List.getElem_cons_succ, Act.put, List.setIfInBounds_toArray, List.set_cons_zero, List.set_cons_succ]))
    (refine wpAnyH_take (i := 3) (v := ?_) rfl (by kernel_rfl) (by kernel_rfl) (by kernel_rfl) (fun _ _ _ h => h) (Or.inl ⟨by rfl, ?_⟩) (by assumption) ?_; rotate_left; (focus (intro w hSw; (try dsimp only at hSw); go_simp; (try rw [if_pos (by omega)]); (try with_reducible rfl))); (try simp only [List.getElem_toArray, List.getElem_cons_zero, List.getElem_cons_succ, Act.put, List.setIfInBounds_toArray, List.set_cons_zero, List.set_cons_succ]))
    (refine wpAnyH_take (i := 4) (v := ?_) rfl (by kernel_rfl) (by kernel_rfl) (by kernel_rfl) (fun _ _ _ h => h) (Or.inl ⟨by rfl, ?_⟩) (by assumption) ?_; rotate_left; (focus (intro w hSw; (try dsimp only at hSw); go_simp; (try rw [if_pos (by omega)]); (try with_reducible rfl))); (try simp only [List.getElem_toArray, List.getElem_cons_zero, List.getElem_cons_succ, Act.put, List.setIfInBounds_toArray, List.set_cons_zero, List.set_cons_succ]))
    (refine wpAnyH_take (i := 5) (v := ?_) rfl (by kernel_rfl) (by kernel_rfl) (by kernel_rfl) (fun _ _ _ h => h) (Or.inl ⟨by rfl, ?_⟩) (by assumption) ?_; rotate_left; (focus (intro w hSw; (try dsimp only at hSw); go_simp; (try rw [if_pos (by omega)]); (try with_reducible rfl))); (try simp only [List.getElem_toArray, List.getElem_cons_zero, List.getElem_cons_succ, Act.put, List.setIfInBounds_toArray, List.set_cons_zero, List.set_cons_succ]))
    refine wpAnyH_ready (rs := [6]) (by kernel_rfl) (by simp) ?_; refine AllReadyH.cons rfl (fun K hK => ?_) AllReadyH.nil; rw [if_pos (by rfl)]
    obtain ⟨w2, cur2, hr2, hh2, hs2, hc2, ho2, hb2⟩ := del_run g c k (m + 1) ⟨g, k + 1, none⟩ (c - (k + 1)) l cur wd HN.out hk hc hhd HC.out (fun _ => rfl)
    have hclr := clr_run ((m + 1) - 1) hh2 (by rw [hs2]; omega)
    rw [Nat.add_sub_cancel] at hclr
    obtain ⟨w3, cur3, hclr, hh3, hc3, ho3, hb3⟩ := hclr
    rw [Nat.add_sub_cancel] at hr2 hc2
    (try rw [Nat.sub_self] at hr2)
    (try rw [Nat.add_sub_add_right] at hr2)
    refine oper_append (vs := .slice (some ⟨g, 0, none⟩) k c) (vx := (.slice (some ⟨g, k + 1, none⟩) (m - k) (c - (k + 1)))) rfl rfl rfl hr2 ?_
    refine hK.out _ _ trivial (fun hHeld => ?_)
    clear hK K hr2
    (try simp only [List.getElem_toArray, List.getElem_cons_zero, List.getElem_cons_succ, Act.put, List.setIfInBounds_toArray, List.set_cons_zero, List.set_cons_succ])
    (refine wpAnyH_take (i := 7) (v := ?_) rfl (by kernel_rfl) (by kernel_rfl) (by kernel_rfl) (fun _ _ _ h => h) (Or.inl ⟨by rfl, ?_⟩) (by assumption) ?_; rotate_left; (focus (intro w hSw; (try dsimp only at hSw); go_simp; (try with_reducible rfl))); (try simp only [List.getElem_toArray, List.getElem_cons_zero, List.getElem_cons_succ, Act.put, List.setIfInBounds_toArray, List.set_cons_zero, List.set_cons_succ]))
    refine wpAnyH_done (by kernel_rfl) ?_ _; clear hHeld
    go_upto_region 6 with fail
    go_wp2_with fail
    go_ret
    exact ⟨rfl, cur3, hh3, fun i hi => (hc3 i hi).trans (hc2 i hi), fun b hb => (ho3 b hb).trans ((ho2 b hb).trans (hod b hb)), hbd.trans (hb2.trans hb3)⟩

theorem RI.keepT {lo : Nat} {W W' : World} {v : Value} {l : List Int} {g : Nat} {cs : Array Value} {t : TypeId} (h : RI lo W v l) (hg : W.heap[g]? = some (.cells cs t)) (ht : 3 ≠ t) (ho : ∀ b, b < W.heap.size → b ≠ g → W'.heap[b]? = W.heap[b]?) : RI lo W' v l := by
  rcases h with h0 | ⟨h0, g', cap', cur', ev, k1, k2, k3, k4⟩
  · exact .inl h0
  · exact .inr ⟨h0, g', cap', cur', ev, k1, k2, (ho g' (heap_lt k3) (types_ne k3 hg ht)).trans k3, k4⟩

end Go.Proofs.Ytffnlimgjnhmpaa
