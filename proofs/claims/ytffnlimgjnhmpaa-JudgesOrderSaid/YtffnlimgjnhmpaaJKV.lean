/-
  JKT: slices.Delete of one number, in a list of the call's own.
  JKU: without of a jury.
  JKV: decide of a jury.
-/
import Derived.Test.YtffnlimgjnhmpaaJKP
import Derived.Laws.AppendOwn
import Derived.Laws.CopyOwn
import Derived.Lib.SliceRun
import Derived.Test.YtffnlimgjnhmpaaJLink
import Derived.Test.YtffnlimgjnhmpaaJKR
namespace Go.Proofs.Ytffnlimgjnhmpaa
open Go.RowKit

theorem oper_append {P : Program} {o : Oper} {a : Act} {w : World} {K : Act → World → Prop} {Q : Exit → Act → World → Prop} {s x : Operand} {t : TypeId} {vs vx v' : Value} {w' : World}
    (hop : o.op = Op.call { callee := Callee.builtin Builtin.append, args := #[s, x], argTypes := #[t, t] }) (hs : a.eval s = vs) (hx : a.eval x = vx)
    (hrun : (Builtin.append_ #[t, t] o.type #[vs, vx]).run P w = .ok v' w') (hK : K (a.put o.dst v') w') : Oper.wp P o a w K Q := by
  unfold Oper.wp
  simp [execOp, hop, resolve, invoke, builtin, hs, hx, hrun, Result.andThen]
  exact hK
set_option maxRecDepth 10000 in
/-- one number is taken out: the others behind it are moved -/
theorem del_run (g c k n : Nat) (ad : Addr) (c2 : Nat) (l : List Int) (cur : Array Value) (w : World) (hn : l.length = n) (hk : k < n) (hc : n ≤ c) (hh : w.heap[g]? = some (.cells cur 3)) (hcur : ∀ i, i < l.length → cur[i]? = some (.int .i64 (l.getD i 0)))
    (had : k + 1 < n → ad = ⟨g, k + 1, none⟩) :
    ∃ w' cur', (Builtin.append_ #[25, 25] 25 #[.slice (some ⟨g, 0, none⟩) k c, .slice (some ad) (n - (k + 1)) c2]).run Try.prog w = .ok (.slice (some ⟨g, 0, none⟩) (n - 1) c) w' ∧ w'.heap[g]? = some (.cells cur' 3) ∧ cur'.size = cur.size ∧ (∀ i, i < n - 1 → cur'[i]? = some (.int .i64 ((l.eraseIdx k).getD i 0))) ∧ (∀ b, b ≠ g → w'.heap[b]? = w.heap[b]?) ∧ Below g w w' := by
  obtain ⟨i0, hi0, hz0, hz1, hz2⟩ := info_parts Try.infoInt
  have hsz : n ≤ cur.size := by
    have := hcur (n - 1) (by omega)
    rw [Array.getElem?_eq_some_iff] at this
    obtain ⟨h, _⟩ := this
    omega
  have hnl : ((l.drop (k + 1)).map (Value.int .i64)).length = n - (k + 1) := by simp [hn]
  have hrun := run_append_room (P := Try.prog) (w := w) 25 25 3 i0 Try.underlying25 hi0 g k c cur hh ad (n - (k + 1)) c2 ((l.drop (k + 1)).map (Value.int .i64)) (by rw [hnl, hz1]; omega)
    (fun j u hu => by
      rcases Nat.lt_or_ge (k + 1 + j) n with h | h
      · have e : ((l.drop (k + 1)).map (Value.int .i64))[j]? = some (.int .i64 (l.getD (k + 1 + j) 0)) := by
          rw [List.getElem?_map, List.getElem?_drop, List.getElem?_eq_getElem (hn ▸ h), getD_at (hn ▸ h)]; rfl
        rw [e] at hu
        injection hu with hu
        rw [had (Nat.lt_of_le_of_lt (Nat.le_add_right _ _) h), ← hu, Addr.add_lit]
        exact cell_blk hh (k + 1 + j) (hcur (k + 1 + j) (hn ▸ h))
      · rw [List.getElem?_eq_none (by rw [hnl]; omega)] at hu; cases hu)
    (fun u hu => by obtain ⟨x, _, rfl⟩ := List.mem_map.1 hu; rfl) (by omega) (by rw [hnl, hz1]; omega)
  rw [hz1, Nat.mul_one, hnl, show k + (n - (k + 1)) = n - 1 by omega] at hrun
  refine ⟨_, _, hrun, setRow_heap w g cur _ _ _ hh, ?_, fun i hi => ?_, fun b hb => setRow_other w g b _ hb, below_setRow (Below.refl _ _) (Nat.le_refl _) _⟩
  · simp [hn]; omega
  · have e1 : cur.toList.take k = (l.take k).map (Value.int .i64) := by
      refine List.ext_getElem (by simp; omega) fun m h1 h2 => ?_
      simp at h1 h2
      have h3 := hcur m (by omega)
      rw [getD_at (by omega)] at h3
      rw [Array.getElem?_eq_some_iff] at h3
      obtain ⟨_, h3⟩ := h3
      simp [h3]
    rw [e1, ← List.map_append, ← List.eraseIdx_eq_take_drop_succ]
    have hel : (l.eraseIdx k).length = n - 1 := by rw [List.length_eraseIdx_of_lt (by omega), hn]
    rw [List.getElem?_toArray, List.getElem?_append_left (by rw [List.length_map, hel]; exact hi), List.getElem?_map, List.getElem?_eq_getElem (by rw [hel]; exact hi), getD_at (by rw [hel]; exact hi)]
    rfl
theorem zeroI (w : World) : (zeroValue 3).run Try.prog w = .ok (.int .i64 0) w := by kernel_rfl
/-- one cell is cleared -/
theorem clr_run {g : Nat} {cur : Array Value} {w : World} (m : Nat) (hh : w.heap[g]? = some (.cells cur 3)) (hm : m < cur.size) :
    ∃ w' cur', (∀ ty c, (Builtin.clear_ #[25] ty #[.slice (some ⟨g, m, none⟩) 1 c]).run Try.prog w = .ok (.tuple #[]) w') ∧ w'.heap[g]? = some (.cells cur' 3) ∧ (∀ i, i < m → cur'[i]? = cur[i]?) ∧ (∀ b, b ≠ g → w'.heap[b]? = w.heap[b]?) ∧ Below g w w' := by
  refine ⟨_, cur.setIfInBounds m (.int .i64 0), fun ty c => Lib.run_clear_slice w 25 3 ty (.int .i64 0) Try.underlying25 zeroI rfl rfl g m 1 c (by omega) (fun j hj => ?_) (fun j hj => free_blk hh _), ?_, fun i hi => ?_, fun b hb => ?_, ?_⟩
  · rw [cell_blk hh (m + j) (x := cur[m]) (by rw [show m + j = m by omega]; exact Array.getElem?_eq_getElem hm)]; rfl
  · exact blk_set hh m _
  · rw [Array.getElem?_setIfInBounds_ne (by omega)]
  · exact Below.heap_setCell _ _ _ _ (by exact hb)
  · exact (Below.refl g w).setCell (p := ⟨g, m, none⟩) (Nat.le_refl _) _

set_option maxHeartbeats 6400000 in
set_option maxRecDepth 100000 in
theorem kdelete_any (g c k : Nat) (l : List Int) (cur : Array Value) (w : World) (hk : k < l.length) (hl : l.length ≤ 40) (hc : l.length ≤ c) (hh : w.heap[g]? = some (.cells cur 3)) (hcur : ∀ i, i < l.length → cur[i]? = some (.int .i64 (l.getD i 0))) :
    Calls Try.prog 100 #[.slice (some ⟨g, 0, none⟩) l.length c, .int .i64 k, .int .i64 (k + 1)] w fun e w' => e = .returned (.slice (some ⟨g, 0, none⟩) (l.length - 1) c) ∧ ∃ cur', w'.heap[g]? = some (.cells cur' 3) ∧ (∀ i, i < l.length - 1 → cur'[i]? = some (.int .i64 ((l.eraseIdx k).getD i 0))) ∧ (∀ b, b ≠ g → w'.heap[b]? = w.heap[b]?) ∧ Below g w w' := by
  obtain ⟨n, hn⟩ : ∃ n, l.length = n := ⟨_, rfl⟩
  have HN := Lib.hid hn
  have HC := Lib.hid hcur
  have HH := Lib.hid hh
  rw [hn] at hk hl hc ⊢
  clear hn hcur hh
  obtain ⟨m, rfl⟩ : ∃ m, n = m + 1 := ⟨n - 1, by omega⟩
  have hcs : m + 1 ≤ cur.size := by
    have := HC.out m (by rw [HN.out]; omega)
    rw [Array.getElem?_eq_some_iff] at this
    obtain ⟨h, _⟩ := this
    omega
  rw [Nat.add_sub_cancel]
  have hki : (k : Int) < ((m + 1 : Nat) : Int) := by omega
  have hkc : k ≤ c := by omega
  by_cases hck : c = k + 1
  · have hn1 : k = m := by omega
    subst hn1
    subst hck
    go_enter Try.func100, Try.ntmps100
    go_upto_region 5 with fail
    obtain ⟨wd, hwd⟩ : ∃ wd, w.drew = wd := ⟨_, rfl⟩
    have hbd : Below g w wd := by rw [← hwd]; exact (Below.refl g w).drew
    have hhd : wd.heap[g]? = some (.cells cur 3) := by rw [← hwd]; exact HH.out
    have hod : ∀ b, b ≠ g → wd.heap[b]? = w.heap[b]? := fun b _ => by rw [← hwd]; rfl
    refine wp_region_held_drew (S := fun _ => True) (by kernel_rfl) trivial (fun hHeld => ?_)
    rw [hwd]
    have hS0 := trivial
    (refine wpAnyH_take (i := 0) (v := ?_) rfl (by kernel_rfl) (by kernel_rfl) (by kernel_rfl) (fun _ _ _ h => h) (Or.inl ⟨by rfl, ?_⟩) (by assumption) ?_; rotate_left; (focus (intro w hSw; (try dsimp only at hSw); go_simp; (try rw [if_pos (by omega)]); (try with_reducible rfl))); (try simp only [List.getElem_toArray, List.getElem_cons_zero, List.getElem_cons_succ, Act.put, List.setIfInBounds_toArray, List.set_cons_zero, List.set_cons_succ]))
    (refine wpAnyH_take (i := 1) (v := ?_) rfl (by kernel_rfl) (by kernel_rfl) (by kernel_rfl) (fun _ _ _ h => h) (Or.inl ⟨by rfl, ?_⟩) (by assumption) ?_; rotate_left; (focus (intro w hSw; (try dsimp only at hSw); go_simp; (try rw [if_pos (by omega)]); (try with_reducible rfl))); (try simp only [List.getElem_toArray, List.getElem_cons_zero, List.getElem_cons_succ, Act.put, List.setIfInBounds_toArray, List.set_cons_zero, List.set_cons_succ]))
    (refine wpAnyH_take (i := 2) (v := ?_) rfl (by kernel_rfl) (by kernel_rfl) (by kernel_rfl) (fun _ _ _ h => h) (Or.inl ⟨by rfl, ?_⟩) (by assumption) ?_; rotate_left; (focus (intro w hSw; (try dsimp only at hSw); go_simp; (try rw [if_pos (by omega)]); (try with_reducible rfl))); (try simp only [List.getElem_toArray, List.getElem_cons_zero, List.getElem_cons_succ, Act.put, List.setIfInBounds_toArray, List.set_cons_zero, List.set_cons_succ]))
    (refine wpAnyH_take (i := 3) (v := ?_) rfl (by kernel_rfl) (by kernel_rfl) (by kernel_rfl) (fun _ _ _ h => h) (Or.inl ⟨by rfl, ?_⟩) (by assumption) ?_; rotate_left; (focus (intro w hSw; (try dsimp only at hSw); go_simp; (try rw [if_pos (by omega)]); (try with_reducible rfl))); (try simp only [List.getElem_toArray, List.getElem_cons_zero, List.getElem_cons_succ, Act.put, List.setIfInBounds_toArray, List.set_cons_zero, List.set_cons_succ]))
    (refine wpAnyH_take (i := 4) (v := ?_) rfl (by kernel_rfl) (by kernel_rfl) (by kernel_rfl) (fun _ _ _ h => h) (Or.inl ⟨by rfl, ?_⟩) (by assumption) ?_; rotate_left; (focus (intro w hSw; (try dsimp only at hSw); go_simp; (try rw [if_pos (by omega)]); (try with_reducible rfl))); (try simp only [List.getElem_toArray, List.getElem_cons_zero, List.getElem_cons_succ, Act.put, List.setIfInBounds_toArray, List.set_cons_zero, List.set_cons_succ]))
    (refine wpAnyH_take (i := 5) (v := ?_) rfl (by kernel_rfl) (by kernel_rfl) (by kernel_rfl) (fun _ _ _ h => h) (Or.inl ⟨by rfl, ?_⟩) (by assumption) ?_; rotate_left; (focus (intro w hSw; (try dsimp only at hSw); go_simp; (try rw [if_pos (by omega)]); (try with_reducible rfl))); (try simp only [List.getElem_toArray, List.getElem_cons_zero, List.getElem_cons_succ, Act.put, List.setIfInBounds_toArray, List.set_cons_zero, List.set_cons_succ]))
    refine wpAnyH_ready (rs := [6]) (by kernel_rfl) (by simp) ?_; refine AllReadyH.cons rfl (fun K hK => ?_) AllReadyH.nil; rw [if_pos (by rfl)]
    obtain ⟨w2, cur2, hr2, hh2, hs2, hc2, ho2, hb2⟩ := del_run g (k + 1) k (k + 1) ⟨g, 0, none⟩ (k + 1 - (k + 1)) l cur wd HN.out hk hc hhd HC.out (fun h => absurd h (Nat.lt_irrefl _))
    have hclr := clr_run ((k + 1) - 1) hh2 (by rw [hs2]; omega)
    rw [Nat.add_sub_cancel] at hclr
    obtain ⟨w3, cur3, hclr, hh3, hc3, ho3, hb3⟩ := hclr
    rw [Nat.add_sub_cancel] at hr2 hc2
    (try rw [Nat.sub_self] at hr2)
    (try rw [Nat.add_sub_add_right] at hr2)
    refine oper_append (vs := .slice (some ⟨g, 0, none⟩) k (k + 1)) (vx := (.slice (some ⟨g, 0, none⟩) 0 0)) rfl rfl rfl hr2 ?_
    refine hK.out _ _ trivial (fun hHeld => ?_)
    clear hK K hr2
    (try simp only [List.getElem_toArray, List.getElem_cons_zero, List.getElem_cons_succ, Act.put, List.setIfInBounds_toArray, List.set_cons_zero, List.set_cons_succ])
    (refine wpAnyH_take (i := 7) (v := ?_) rfl (by kernel_rfl) (by kernel_rfl) (by kernel_rfl) (fun _ _ _ h => h) (Or.inl ⟨by rfl, ?_⟩) (by assumption) ?_; rotate_left; (focus (intro w hSw; (try dsimp only at hSw); go_simp; (try with_reducible rfl))); (try simp only [List.getElem_toArray, List.getElem_cons_zero, List.getElem_cons_succ, Act.put, List.setIfInBounds_toArray, List.set_cons_zero, List.set_cons_succ]))
    refine wpAnyH_done (by kernel_rfl) ?_ _; clear hHeld
    go_upto_region 6 with fail
    go_wp2_with fail
    go_ret
    exact ⟨rfl, cur3, hh3, fun i hi => (hc3 i hi).trans (hc2 i hi), fun b hb => (ho3 b hb).trans ((ho2 b hb).trans (hod b hb)), hbd.trans (hb2.trans hb3)⟩
  · skip
    go_enter Try.func100, Try.ntmps100
    go_upto_region 5 with fail
    obtain ⟨wd, hwd⟩ : ∃ wd, w.drew = wd := ⟨_, rfl⟩
    have hbd : Below g w wd := by rw [← hwd]; exact (Below.refl g w).drew
    have hhd : wd.heap[g]? = some (.cells cur 3) := by rw [← hwd]; exact HH.out
    have hod : ∀ b, b ≠ g → wd.heap[b]? = w.heap[b]? := fun b _ => by rw [← hwd]; rfl
    refine wp_region_held_drew (S := fun _ => True) (by kernel_rfl) trivial (fun hHeld => ?_)
    rw [hwd]
    have hS0 := trivial
    (refine wpAnyH_take (i := 0) (v := ?_) rfl (by kernel_rfl) (by kernel_rfl) (by kernel_rfl) (fun _ _ _ h => h) (Or.inl ⟨by rfl, ?_⟩) (by assumption) ?_; rotate_left; (focus (intro w hSw; (try dsimp only at hSw); go_simp; (try rw [if_pos (by omega)]); (try with_reducible rfl))); (try simp only [List.getElem_toArray, List.getElem_cons_zero, List.getElem_cons_succ, Act.put, List.setIfInBounds_toArray, List.set_cons_zero, List.set_cons_succ]))
    (refine wpAnyH_take (i := 1) (v := ?_) rfl (by kernel_rfl) (by kernel_rfl) (by kernel_rfl) (fun _ _ _ h => h) (Or.inl ⟨by rfl, ?_⟩) (by assumption) ?_; rotate_left; (focus (intro w hSw; (try dsimp only at hSw); go_simp; (try rw [if_pos (by omega)]); (try with_reducible rfl))); (try simp only [List.getElem_toArray, List.getElem_cons_zero, List.getElem_cons_succ, Act.put, List.setIfInBounds_toArray, List.set_cons_zero, List.set_cons_succ]))
    (refine wpAnyH_take (i := 2) (v := ?_) rfl (by kernel_rfl) (by kernel_rfl) (by kernel_rfl) (fun _ _ _ h => h) (Or.inl ⟨by rfl, ?_⟩) (by assumption) ?_; rotate_left; (focus (intro w hSw; (try dsimp only at hSw); go_simp; (try rw [if_pos (by omega)]); (try with_reducible rfl))); (try simp only [List.getElem_toArray, List.getElem_cons_zero, List.getElem_cons_succ, Act.put, List.setIfInBounds_toArray, List.set_cons_zero, List.set_cons_succ]))
    (refine wpAnyH_take (i := 3) (v := ?_) rfl (by kernel_rfl) (by kernel_rfl) (by kernel_rfl) (fun _ _ _ h => h) (Or.inl ⟨by rfl, ?_⟩) (by assumption) ?_; rotate_left; (focus (intro w hSw; (try dsimp only at hSw); go_simp; (try rw [if_pos (by omega)]); (try with_reducible rfl))); (try simp only [List.getElem_toArray, List.getElem_cons_zero, List.getElem_cons_succ, Act.put, List.setIfInBounds_toArray, List.set_cons_zero, List.set_cons_succ]))
    (refine wpAnyH_take (i := 4) (v := ?_) rfl (by kernel_rfl) (by kernel_rfl) (by kernel_rfl) (fun _ _ _ h => h) (Or.inl ⟨by rfl, ?_⟩) (by assumption) ?_; rotate_left; (focus (intro w hSw; (try dsimp only at hSw); go_simp; (try rw [if_pos (by omega)]); (try with_reducible rfl))); (try simp only [List.getElem_toArray, List.getElem_cons_zero, List.getElem_cons_succ, Act.put, List.setIfInBounds_toArray, List.set_cons_zero, List.set_cons_succ]))
    (refine wpAnyH_take (i := 5) (v := ?_) rfl (by kernel_rfl) (by kernel_rfl) (by kernel_rfl) (fun _ _ _ h => h) (Or.inl ⟨by rfl, ?_⟩) (by assumption) ?_; rotate_left; (focus (intro w hSw; (try dsimp only at hSw); go_simp; (try rw [if_pos (by omega)]); (try with_reducible rfl))); (try simp only [List.getElem_toArray, List.getElem_cons_zero, List.getElem_cons_succ, Act.put, List.setIfInBounds_toArray, List.set_cons_zero, List.set_cons_succ]))
    refine wpAnyH_ready (rs := [6]) (by kernel_rfl) (by simp) ?_; refine AllReadyH.cons rfl (fun K hK => ?_) AllReadyH.nil; rw [if_pos (by rfl)]
    obtain ⟨w2, cur2, hr2, hh2, hs2, hc2, ho2, hb2⟩ := del_run g c k (m + 1) ⟨g, k + 1, none⟩ (c - (k + 1)) l cur wd HN.out hk hc hhd HC.out (fun _ => rfl)
    have hclr := clr_run ((m + 1) - 1) hh2 (by rw [hs2]; omega)
    rw [Nat.add_sub_cancel] at hclr
    obtain ⟨w3, cur3, hclr, hh3, hc3, ho3, hb3⟩ := hclr
    rw [Nat.add_sub_cancel] at hr2 hc2
    (try rw [Nat.sub_self] at hr2)
    (try rw [Nat.add_sub_add_right] at hr2)
    refine oper_append (vs := .slice (some ⟨g, 0, none⟩) k c) (vx := (.slice (some ⟨g, k + 1, none⟩) (m - k) (c - (k + 1)))) rfl rfl rfl hr2 ?_
    refine hK.out _ _ trivial (fun hHeld => ?_)
    clear hK K hr2
    (try simp only [List.getElem_toArray, List.getElem_cons_zero, List.getElem_cons_succ, Act.put, List.setIfInBounds_toArray, List.set_cons_zero, List.set_cons_succ])
    (refine wpAnyH_take (i := 7) (v := ?_) rfl (by kernel_rfl) (by kernel_rfl) (by kernel_rfl) (fun _ _ _ h => h) (Or.inl ⟨by rfl, ?_⟩) (by assumption) ?_; rotate_left; (focus (intro w hSw; (try dsimp only at hSw); go_simp; (try with_reducible rfl))); (try simp only [List.getElem_toArray, List.getElem_cons_zero, List.getElem_cons_succ, Act.put, List.setIfInBounds_toArray, List.set_cons_zero, List.set_cons_succ]))
    refine wpAnyH_done (by kernel_rfl) ?_ _; clear hHeld
    go_upto_region 6 with fail
    go_wp2_with fail
    go_ret
    exact ⟨rfl, cur3, hh3, fun i hi => (hc3 i hi).trans (hc2 i hi), fun b hb => (ho3 b hb).trans ((ho2 b hb).trans (hod b hb)), hbd.trans (hb2.trans hb3)⟩

theorem RI.keepT {lo : Nat} {W W' : World} {v : Value} {l : List Int} {g : Nat} {cs : Array Value} {t : TypeId} (h : RI lo W v l) (hg : W.heap[g]? = some (.cells cs t)) (ht : 3 ≠ t) (ho : ∀ b, b < W.heap.size → b ≠ g → W'.heap[b]? = W.heap[b]?) : RI lo W' v l := by
  rcases h with h0 | ⟨h0, g', cap', cur', ev, k1, k2, k3, k4⟩
  · exact .inl h0
  · exact .inr ⟨h0, g', cap', cur', ev, k1, k2, (ho g' (heap_lt k3) (types_ne k3 hg ht)).trans k3, k4⟩

end Go.Proofs.Ytffnlimgjnhmpaa

namespace Go.Proofs.Ytffnlimgjnhmpaa
open Go.RowKit

theorem drp_eq (J D : Int) : drp J D = min D (max 0 (J - 2) / 2) := rfl
set_option maxHeartbeats 6400000 in
set_option maxRecDepth 100000 in
theorem kwithout_any (N : Nat) (v : Value) (S : JB) (k : Nat) (w : World) (h : ShowAt N w v S) (hG : GoodS S) (hk : (k : Int) < S.J) :
    Calls Try.prog 89 #[v, .int .i64 k] w fun e w' => ∃ v', e = .returned v' ∧ ShowAt w'.heap.size w' v' (withoutJ S k) ∧ Below w.heap.size w w' := by
  obtain ⟨a1, c1, rfl⟩ := h.form
  obtain ⟨wv, hwv, HBv, hszv, hblk⟩ := box1 w (.cells #[.int .i64 S.J, .int .i64 S.D, .int .i64 S.Z, .slice a1 S.np c1] 74)
  obtain ⟨ws, hws, HBs, hszs, hblks⟩ := box1 wv (.cells #[.int .i64 0, .int .i64 0, .int .i64 0, .slice none 0 0] 74)
  have HB : Hid (Below w.heap.size w ws) := HBv.out.trans (HBs.out.mono HBv.out.size)
  have hz0 := (HBs.out.block _ hszv).trans hblk
  have q0 := cell_blk hz0 0 rfl
  have q1 := cell_blk hz0 1 rfl
  have q2 := cell_blk hz0 2 rfl
  have q3 := cell_blk hz0 3 rfl
  have f0 := free_blk hz0 0
  have f1 := free_blk hz0 1
  have HZ0 := Lib.hid hz0
  have HZ2 := Lib.hid hblks
  have HNZ : Hid (N ≤ w.heap.size) := h.1
  have HBK := Lib.hid (h.go HB.out)
  have hvs : wv.heap.size = w.heap.size + 1 := by rw [← hwv]; simp
  have hss : ws.heap.size = w.heap.size + 2 := by rw [← hws]; simp; omega
  have HVS := Lib.hid hvs
  have HSS := Lib.hid hss
  obtain ⟨A, C, hcap, _, hrows, hcells⟩ := HBK.out.plates.open
  have HRW := Lib.hid hrows
  have HCL := Lib.hid hcells
  have HGS := Lib.hid hG
  have HNP : Hid (S.np ≤ 1000) := by have := hG.np; unfold Hid; omega
  have hsz0 : w.heap.size < ws.heap.size := by omega
  have hNS : N ≤ ws.heap.size := HBK.out.1
  have hnp6 : S.np ≤ 6 := hG.np
  have hJ := hG.J1
  have hJ5 := hG.J5
  have hD0 := hG.D0
  have hDJ := hG.DJ
  obtain ⟨mx, hmx⟩ : ∃ mx : Int, max 0 (S.J - 1 - 1) = mx := ⟨_, rfl⟩
  have hmx0 : 0 ≤ mx := by omega
  obtain ⟨hf, hhf⟩ : ∃ hf : Int, mx / 2 = hf := ⟨_, rfl⟩
  obtain ⟨dn, hdn⟩ : ∃ dn : Int, min S.D hf = dn := ⟨_, rfl⟩
  have HDN : Hid (drp S.J S.D = dn) := by unfold Hid; rw [drp_eq, ← hdn, ← hhf, ← hmx, show S.J - 1 - 1 = S.J - 2 by omega]
  have hmaxr : ∀ a b W, (Builtin.max_ a b #[.int .i64 0, .int .i64 (S.J - 1 - 1)]).run Try.prog W = .ok (.int .i64 mx) W := fun a b W => by rw [run_max_int2]; congr 2; rw [← hmx]; split <;> omega
  have hminr : ∀ a b W, (Builtin.min_ a b #[.int .i64 S.D, .int .i64 hf]).run Try.prog W = .ok (.int .i64 dn) W := fun a b W => by rw [run_min_int2]; congr 2; rw [← hdn]; split <;> omega
  have htd : mx.tdiv 2 = hf := by rw [← hhf]; exact Int.tdiv_eq_ediv_of_nonneg hmx0
  have hf0 : 0 ≤ hf := by omega
  have hf2 : hf ≤ 2 := by omega
  clear hz0 hblk hblks h hrows hcells hvs hss hszv hszs hmx hhf hdn
  go_enter Try.func89, Try.ntmps89
  go_upto_region 1 with fail
  clear hwv
  go_upto_region 2 with fail
  clear hws
  obtain ⟨w1, hw1, hz1, ho1, hb1⟩ := set_step (n := w.heap.size) (W0 := ws) HZ0.out (fun _ _ => rfl) 0 (.int .i64 (S.J - 1)) (Nat.le_refl _)
  rw [hw1]
  have HZ1 := Lib.hid hz1
  have HO1 := Lib.hid ho1
  have HB1 := Lib.hid hb1
  clear hw1 hz1 ho1 hb1 q0 q1 q2 q3 f0 f1
  have q0 := cell_blk HZ1.out 0 rfl
  have q1 := cell_blk HZ1.out 1 rfl
  have q3 := cell_blk HZ1.out 3 rfl
  have f1 := free_blk HZ1.out 1
  go_upto_region 3 with fail
  obtain ⟨w2, hw2, hz2, ho2, hb2⟩ := set_step (n := w.heap.size) (W0 := ws) HZ1.out HO1.out 1 (.int .i64 dn) (Nat.le_refl _)
  rw [hw2]
  have HZ2' := Lib.hid hz2
  have HO2 := Lib.hid ho2
  have HB2 : Hid (Below w.heap.size ws w2) := HB1.out.trans hb2
  have hs2 : w2.heap.size = ws.heap.size := by have h1 := HO2.out ws.heap.size (by omega); have h2 := HB2.out.size; rw [Array.getElem?_eq_none (Nat.le_refl _), Array.getElem?_eq_none_iff] at h1; omega
  have HS2 := Lib.hid hs2
  clear hw2 hz2 ho2 hb2 q0 q1 q3 f1 hs2
  have q3 := cell_blk HZ2'.out 3 rfl
  have f3 := free_blk HZ2'.out 3
  have hN2 : N ≤ w2.heap.size := by have := HS2.out; omega
  have hlt2 : w.heap.size < w2.heap.size := by have := HS2.out; omega
  have HCL2 : Hid (0 < S.np → ∃ b off, a1 = some ⟨b, off, none⟩ ∧ b < N ∧ ∀ i, i < S.np → w2.cell? ⟨b, off + i * 2, none⟩ = some (.int .i64 (S.sz i)) ∧ w2.cell? ⟨b, off + i * 2 + 1, none⟩ = some (.slice (A i) (S.pts i).length (C i))) := fun h0 => by
    obtain ⟨b, off, e, hb, hr⟩ := HCL.out h0
    have hne : b ≠ w.heap.size := by have := HNZ.out; omega
    exact ⟨b, off, e, hb, fun i hi => ⟨(World.cell?_of_block (w := ws) (HO2.out b hne)).trans (hr i hi).1, (World.cell?_of_block (w := ws) (HO2.out b hne)).trans (hr i hi).2⟩⟩
  go_upto_region 4 with (go_at_call 97; refine (kcloneP_any N _ S.np _ S.sz (fun i => .slice (A i) (S.pts i).length (C i)) _ hN2 HNP.out HCL2.out).mono ?_; rintro e w3 ⟨v3, rfl, hp3, hb3⟩; obtain ⟨a2, c2, rfl⟩ := hp3.form; have HP3 := Lib.hid hp3; have HB3 : Hid (Below w2.heap.size w2 w3) := hb3; have hx := (hb3.block _ hlt2).trans HZ2'.out; have HX := Lib.hid hx; have x3 := cell_blk hx 3 rfl; have xf3 := free_blk hx 3; clear hp3 hb3 hx)
  obtain ⟨w4, hw4, hz4, ho4, hb4⟩ := set_step (n := w.heap.size) (W0 := w3) HX.out (fun _ _ => rfl) 3 (.slice a2 S.np c2) (Nat.le_refl _)
  rw [hw4]
  have HP4 : Hid (PK ws.heap.size w4 (.slice a2 S.np c2) S.np S.sz (fun i => .slice (A i) (S.pts i).length (C i))) := by
    have := HS2.out
    exact (HP3.out.keep fun g _ h1 _ => ho4 g (by omega)).lower (by omega)
  have HJ4 : Hid (w4.heap[w.heap.size]? = some (.cells #[.int .i64 (S.J - 1), .int .i64 dn, .int .i64 S.Z, .slice a2 S.np c2] 74)) := hz4
  have HR4 : Hid (w4.heap[wv.heap.size]? = some (.cells #[.int .i64 0, .int .i64 0, .int .i64 0, .slice none 0 0] 74)) :=
    (ho4 _ (by have := HVS.out; omega)).trans ((HB3.out.block _ (by have := HS2.out; have := HSS.out; have := HVS.out; omega)).trans ((HO2.out _ (by have := HVS.out; omega)).trans HZ2.out))
  have HB4 : Hid (Below w.heap.size ws w4) := HB2.out.trans ((HB3.out.mono (Nat.le_of_lt hlt2)).trans hb4)
  have hs4 : ws.heap.size ≤ w4.heap.size := by have := HS2.out; have := HB3.out.size; have := hb4.size; omega
  clear hw4 hz4 ho4 hb4 x3 xf3 q3 f3 HP3 HX HB1 HB2 HO1 HO2 HZ1 HZ2' HZ2 HZ0 HCL2 HB3
  have j3 := cell_blk HJ4.out 3 rfl
  go_wp2_with fail
  clear j3
  go_loopw [35] (fun i wr => ∃ (m : Nat) (Y : Nat → Value), m ≤ S.np ∧ i = .int .i64 m ∧ Hid (PK ws.heap.size wr (.slice a2 S.np c2) S.np S.sz (fun i => if i < m then Y i else .slice (A i) (S.pts i).length (C i))) ∧ Hid (∀ i, i < m → RI ws.heap.size wr (Y i) ((S.pts i).eraseIdx k)) ∧ Hid (∀ b, b < ws.heap.size → wr.heap[b]? = w4.heap[b]?) ∧ Hid (Below ws.heap.size w4 wr)) (fun i _ => S.np - (intOf i).toNat)
  case atStart => exact ⟨0, fun _ => undef, Nat.zero_le _, rfl, by unfold Hid; simpa using HP4.out, fun i hi => absurd hi (Nat.not_lt_zero i), fun _ _ => rfl, Below.refl _ _⟩
  case round =>
    obtain ⟨m, Y, hm, rfl, HPr, HYr, HLr, HBr⟩ := hrel
    have HJr := Lib.hid ((HLr.out _ hsz0).trans HJ4.out)
    have r0 := cell_blk HJr.out 0 rfl
    have r1 := cell_blk HJr.out 1 rfl
    have r2 := cell_blk HJr.out 2 rfl
    have r3 := cell_blk HJr.out 3 rfl
    by_cases hmn : m < S.np
    · have hmi : (m : Int) < (S.np : Int) := by omega
      obtain ⟨g, rfl, _, _, hgl, hgs, hgc, hgf, cur, hcur⟩ := HPr.out.at (by omega)
      have gq := (hgc m hmn).2
      rw [if_neg (Nat.lt_irrefl m)] at gq
      have gf := hgf (m * 2 + 1)
      have HGH := Lib.hid hcur
      have HGL := Lib.hid hgl
      have HGK := Lib.hid hgs
      obtain ⟨l, hl⟩ : ∃ l, S.pts m = l := ⟨_, rfl⟩
      have HPL := Lib.hid hl
      have hlC := HRW.out m hmn
      have hlJ := HGS.out.len m hmn
      rw [hl] at gq hlC hlJ
      obtain ⟨n, hn⟩ : ∃ n, l.length = n := ⟨_, rfl⟩
      have HLN := Lib.hid hn
      rw [hn] at gq hlC hlJ
      have HLI : Hid (LI N wr (.slice (A m) n (C m)) l) := hlC.2.mono ((HB4.out.mono HNZ.out).trans (HBr.out.mono hNS)) (Nat.le_refl _)
      have hn40 : n ≤ 40 := by omega
      have hkl : k < n := by omega
      have hNr : N ≤ wr.heap.size := by have := HBr.out.size; omega
      clear hgc hgf hcur hl hn hlC hgl
      go_upto_region 9 with (first
        | (go_at_call 95; refine (kcloneI_any N _ l _ HLI.out (by omega) (by have := HLN.out; omega)).mono ?_; rintro e w5 ⟨v5, rfl, hr5, hb5⟩; rcases hr5 with ⟨h0, _⟩ | ⟨h0, g5, cap5, cur5, rfl, k1, k2, k3, k4⟩; (focus (have := HLN.out; rw [h0] at this; simp at this; omega)); rw [HLN.out] at k2 ⊢; have HB5 : Hid (Below wr.heap.size wr w5) := hb5; have HK5 := Lib.hid (And.intro k1 (And.intro k2 (And.intro k3 k4))); clear hb5 k1 k2 k3 k4 h0)
        | (go_at_call 100; have hdel := kdelete_any g5 cap5 k l cur5 w5 (by rw [HLN.out]; exact hkl) (by rw [HLN.out]; exact hn40) (by rw [HLN.out]; exact HK5.out.2.1) HK5.out.2.2.1 HK5.out.2.2.2; rw [HLN.out] at hdel; refine hdel.mono ?_; clear hdel; rintro e w6 ⟨rfl, cur6, hh6, hc6, ho6, hb6⟩; have HH6 := Lib.hid hh6; have HC6 := Lib.hid hc6; have HO6 := Lib.hid ho6; have HB6 := Lib.hid hb6; have hgg : g ≠ g5 := (by have := HK5.out.1; omega); have gq6 := (World.cell?_of_block (a := ⟨g, m * 2 + 1, none⟩) (ho6 g hgg)).trans ((HB5.out.cell (p := ⟨g, m * 2 + 1, none⟩) hgs).trans gq); have gf6 := free_blk ((ho6 g hgg).trans ((HB5.out.block g hgs).trans HGH.out)) (m * 2 + 1); clear hh6 hc6 ho6 hb6))
      obtain ⟨w7, hw7⟩ : ∃ w7, w6.setCell ⟨g, m * 2 + 1, none⟩ (.slice (some ⟨g5, 0, none⟩) (n - 1) cap5) = w7 := ⟨_, rfl⟩
      rw [hw7]
      have hg5 : wr.heap.size ≤ g5 := HK5.out.1
      have hold : ∀ b, b < wr.heap.size → w6.heap[b]? = wr.heap[b]? := fun b hb => (HO6.out b (by omega)).trans (HB5.out.block b hb)
      have ho7 : ∀ b, b ≠ g → w7.heap[b]? = w6.heap[b]? := fun b hb => by rw [← hw7]; exact Below.heap_setCell _ _ _ _ (by exact hb)
      have hb7 : Below g w6 w7 := by rw [← hw7]; exact (Below.refl g w6).setCell (p := ⟨g, m * 2 + 1, none⟩) (Nat.le_refl _) _
      have HP7 : Hid (PK ws.heap.size w7 (.slice (some ⟨g, 0, none⟩) S.np c2) S.np S.sz (fun i => if i < m + 1 then (if i = m then .slice (some ⟨g5, 0, none⟩) (n - 1) cap5 else Y i) else .slice (A i) (S.pts i).length (C i))) := by
        have h1 := (HPr.out.keep (W' := w6) fun g' e _ h => hold g' h).setRow hmn (.slice (some ⟨g5, 0, none⟩) (n - 1) cap5)
        rw [hw7] at h1
        unfold Hid
        refine (congrArg (PK ws.heap.size w7 (.slice (some ⟨g, 0, none⟩) S.np c2) S.np S.sz) (funext fun i => ?_)).mp h1
        by_cases e1 : i = m
        · subst e1; rw [if_pos rfl, if_pos (Nat.lt_succ_self _), if_pos rfl]
        · by_cases e2 : i < m
          · rw [if_neg e1, if_pos e2, if_pos (by omega), if_neg e1]
          · rw [if_neg e1, if_neg e2, if_neg (by omega)]
      have HY7 : Hid (∀ i, i < m + 1 → RI ws.heap.size w7 (if i = m then .slice (some ⟨g5, 0, none⟩) (n - 1) cap5 else Y i) ((S.pts i).eraseIdx k)) := fun i hi => by
        by_cases e1 : i = m
        · subst e1
          rw [if_pos rfl, HPL.out]
          have hel : (l.eraseIdx k).length = n - 1 := by rw [List.length_eraseIdx_of_lt (by rw [HLN.out]; exact hkl), HLN.out]
          rcases Nat.eq_zero_or_pos (n - 1) with h0 | h0
          · exact .inl ⟨List.length_eq_zero_iff.1 (hel.trans h0), _, _, by rw [h0]⟩
          · refine .inr ⟨by rw [hel]; exact h0, g5, cap5, cur6, by rw [hel], by have := HBr.out.size; omega, by rw [hel]; have := HK5.out.2.1; omega, ?_, ?_⟩
            · rw [ho7 g5 (by have := HGK.out; omega)]; exact HH6.out
            · rw [hel]; intro j hj; exact HC6.out j hj
        · rw [if_neg e1]
          exact (HYr.out i (by omega)).keepT HGH.out (by decide) fun b hb hne => (ho7 b hne).trans (hold b hb)
      have HL7 : Hid (∀ b, b < ws.heap.size → w7.heap[b]? = w4.heap[b]?) := fun b hb => by
        have := HBr.out.size
        exact (ho7 b (by have := HGL.out; omega)).trans ((hold b (by omega)).trans (HLr.out b hb))
      have HB7 : Hid (Below ws.heap.size w4 w7) := HBr.out.trans ((HB5.out.mono (by have := HBr.out.size; omega)).trans ((HB6.out.mono (by have := HBr.out.size; omega)).trans (hb7.mono HGL.out)))
      clear hw7 ho7 hb7 hold gq6 gf6 gq gf
      go_wp2_with fail
      go_roundw
      case rel => exact ⟨m + 1, _, by omega, by go_num, HP7, HY7, HL7, HB7⟩
      case measure => simp [intOf]; omega
    · have hmi : ¬ (m : Int) < (S.np : Int) := by omega
      have hme : m = S.np := by omega
      have HME := Lib.hid hme
      have HRr := Lib.hid ((HLr.out wv.heap.size (by have := HSS.out; have := HVS.out; omega)).trans HR4.out)
      have e0 := free_blk HRr.out 0
      have e1 := free_blk HRr.out 1
      have e2 := free_blk HRr.out 2
      have e3 := free_blk HRr.out 3
      have v0 := cell_blk HRr.out 0 rfl
      have v1 := cell_blk HRr.out 1 rfl
      have v2 := cell_blk HRr.out 2 rfl
      have v3 := cell_blk HRr.out 3 rfl
      clear hme
      go_wp2_with fail
      obtain ⟨w6, hw6, hz6, ho6, hb6⟩ := put4o HRr.out (.int .i64 (S.J - 1)) (.int .i64 dn) (.int .i64 S.Z) (.slice a2 S.np c2)
      rw [hw6]
      refine bodyPost_ret (v := .agg #[.int .i64 (S.J - 1), .int .i64 dn, .int .i64 S.Z, .slice a2 S.np c2]) (resJury rfl rfl hz6) rfl ?_
      have hBf : Below w.heap.size w w6 := HB.out.trans (HB4.out.trans ((HBr.out.mono (Nat.le_of_lt hsz0)).trans (hb6.mono (by have := HVS.out; omega))))
      have hne : ∀ b, ws.heap.size ≤ b → b ≠ wv.heap.size := fun b hb => by have := HSS.out; have := HVS.out; omega
      have hp6 := HPr.out.keep (W' := w6) fun g' e h1 _ => ho6 g' (hne g' h1)
      refine ⟨_, rfl, ?_, hBf⟩
      have hfin := hp6.show (pts := (withoutJ S k).pts) (by have := HNP.out; omega) (fun i hi => ?_) (S.J - 1) dn S.Z
      · rw [show withoutJ S k = ⟨S.J - 1, dn, S.Z, S.np, S.sz, (withoutJ S k).pts⟩ by unfold withoutJ; rw [HDN.out]]
        exact hfin
      · have hy := (HYr.out i (by have := HME.out; omega)).keep (W' := w6) fun g' _ h1 _ => ho6 g' (hne g' h1)
        simp only [if_pos (show i < m by have := HME.out; omega)]
        obtain ⟨ya, yc, hyv⟩ := hy.form
        refine ⟨ya, yc, hyv, ?_, hy.li ?_⟩
        · rcases hy with ⟨h0, _⟩ | ⟨_, g', cap', cur', ev, _, k2, _⟩
          · show ((S.pts i).eraseIdx k).length ≤ yc
            rw [h0]; exact Nat.zero_le _
          · rw [ev] at hyv; cases hyv
            exact k2
        · have h1 := HGS.out.len i hi
          have h2 := List.length_eraseIdx_le (S.pts i) k
          omega

end Go.Proofs.Ytffnlimgjnhmpaa

namespace Go.Proofs.Ytffnlimgjnhmpaa
open Go.RowKit

theorem without_rd {S : JB} (hG : GoodS S) {k : Nat} (hk : (k : Int) < S.J) : RdS (withoutJ S k) := by
  have hJ := hG.J1
  have hD0 := hG.D0
  have hDJ := hG.DJ
  have hel : ∀ i, i < S.np → (((S.pts i).eraseIdx k).length : Int) = S.J - 1 := fun i hi => by
    have := hG.len i hi
    rw [List.length_eraseIdx_of_lt (by omega)]; omega
  have hd : 0 ≤ drp S.J S.D ∧ 2 * drp S.J S.D ≤ S.J - 1 := by rw [drp_eq]; omega
  refine ⟨hd.1, fun i hi => ?_, fun i hi x hx => hG.pt i hi x (List.mem_of_mem_eraseIdx hx), by show S.np ≤ 40; have := hG.np; omega⟩
  have h1 := hel i hi
  have h5 := hG.J5
  show 2 * drp S.J S.D ≤ (((S.pts i).eraseIdx k).length : Int) ∧ ((S.pts i).eraseIdx k).length ≤ 40
  omega
theorem without_rj {S : JB} (hG : GoodS S) {k : Nat} (hk : (k : Int) < S.J) : RdJ (withoutJ S k) :=
  ⟨without_rd hG hk, fun i hi => by
    have h1 := hG.len i hi
    have h5 := hG.J5
    have h2 := List.length_eraseIdx_le (S.pts i) k
    show ((S.pts i).eraseIdx k).length ≤ 5
    omega⟩

set_option maxHeartbeats 6400000 in
set_option maxRecDepth 100000 in
theorem kdecide_any (N : Nat) (v : Value) (S : JB) (w : World) (h : ShowAt N w v S) (hG : GoodS S) (hin : allIn S = true) :
    Calls Try.prog 67 #[v] w fun e w' => ∃ u, e = .returned u ∧ OwnI w.heap.size w' u (dec S) ∧ Below w.heap.size w w' := by
  obtain ⟨a1, c1, rfl⟩ := h.form
  obtain ⟨ws, hws, HB, hsz, hblk⟩ := box1 w (.cells #[.int .i64 S.J, .int .i64 S.D, .int .i64 S.Z, .slice a1 S.np c1] 74)
  have q0 := cell_blk hblk 0 rfl
  have q1 := cell_blk hblk 1 rfl
  have q2 := cell_blk hblk 2 rfl
  have q3 := cell_blk hblk 3 rfl
  have HNZ : Hid (N ≤ w.heap.size) := h.1
  have HBK := Lib.hid (h.go HB.out)
  have HB0 : Hid (Below ws.heap.size ws ws) := Below.refl _ _
  have HNS : Hid (N ≤ ws.heap.size) := HBK.out.1
  have hlen := h.len
  clear hblk h
  have HG := Lib.hid hG
  have HIN := Lib.hid hin
  have hnp6 : S.np ≤ 6 := hG.np
  have hJ1 := hG.J1
  have hJ5 := hG.J5
  obtain ⟨jn, hjn⟩ : ∃ jn : Nat, S.J = jn := ⟨S.J.toNat, by omega⟩
  have HJN : Hid (S.J.toNat = jn) := by unfold Hid; omega
  have hj5 : jn ≤ 5 := by omega
  have HJI := Lib.hid hjn
  have HSQ : Hid (∀ W, Below ws.heap.size ws W → (W.cell? ⟨w.heap.size, 0, none⟩ = some (.int .i64 S.J) ∧ W.cell? ⟨w.heap.size, 1, none⟩ = some (.int .i64 S.D) ∧ W.cell? ⟨w.heap.size, 2, none⟩ = some (.int .i64 S.Z) ∧ W.cell? ⟨w.heap.size, 3, none⟩ = some (.slice a1 S.np c1))) := fun W hW => ⟨(hW.cell (p := ⟨w.heap.size, 0, none⟩) hsz).trans q0, (hW.cell (p := ⟨w.heap.size, 1, none⟩) hsz).trans q1, (hW.cell (p := ⟨w.heap.size, 2, none⟩) hsz).trans q2, (hW.cell (p := ⟨w.heap.size, 3, none⟩) hsz).trans q3⟩
  clear hG hin hjn
  go_enter Try.func67, Try.ntmps67
  go_upto_region 1 with fail
  go_upto_region 2 with (go_at_call 88; refine (agrees_any N _ S _ HBK.out HG.out.rj).mono ?_; rintro e w1 ⟨G, rfl, hC, hb1⟩; have HC := Lib.hid hC; have HB1 : Hid (Below ws.heap.size ws w1) := hb1; clear hb1 hC)
  clear hws q0 q1 q2 q3
  obtain ⟨r0, r1, r2, r3⟩ := HSQ.out w1 HB1.out
  go_wp2_with fail
  clear r0 r1 r2 r3
  go_loopw [4, 11] (fun u i wr => ∃ m : Nat, m ≤ jn ∧ i = .int .i64 m ∧ Hid (OwnI w1.heap.size wr u (sel (fun k => !decide (getL (withoutJ S k) = getL S)) m)) ∧ Hid (Below w1.heap.size w1 wr)) (fun _ i _ => jn - (intOf i).toNat)
  case atStart => exact ⟨0, Nat.zero_le _, rfl, OwnI.nil _ _, Below.refl _ _⟩
  case round =>
    obtain ⟨m, hm, rfl, HO, HBr⟩ := hrel
    have HBw : Hid (Below ws.heap.size ws wr) := bel HB1.out HBr.out
    have HCr := Lib.hid (HC.out.below HBr.out)
    obtain ⟨r0, r1, r2, r3⟩ := HSQ.out wr HBw.out
    by_cases hmn : m < jn
    · have hmi : (m : Int) < S.J := by have := HJI.out; omega
      have HMJ := Lib.hid hmi
      obtain ⟨bb, hbb⟩ : ∃ bb, decide (prL (withoutJ S m) 1 S.np = prL S 1 S.np) = bb := ⟨_, rfl⟩
      have HBB := Lib.hid hbb
      have HEQ : Hid (decide (getL (withoutJ S m) = getL S) = bb) := by unfold Hid; rw [← hbb]; exact decide_eq_decide.2 (by rw [eq_without HIN.out])
      clear hbb
      cases bb with
      | true =>
        have HE : Hid (sel (fun k => !decide (getL (withoutJ S k) = getL S)) (m + 1) = sel (fun k => !decide (getL (withoutJ S k) = getL S)) m) := sel_miss (by rw [HEQ.out]; rfl)
        go_wp2_with (first
          | (go_at_call 89; refine (kwithout_any N _ S m _ (HBK.out.go HBw.out) HG.out HMJ.out).mono ?_; rintro e w4 ⟨v4, rfl, hs4, hb4⟩; obtain ⟨a4, c4, rfl⟩ := hs4.form; have HS4 := Lib.hid hs4; have HB4 := Lib.hid hb4; have HC4 := Lib.hid (HCr.out.below hb4); clear hs4 hb4)
          | (go_at_call 98; refine (agrees1_any w4.heap.size ws.heap.size G _ (withoutJ S m) (prL S 1 S.np) w4 HS4.out (without_rj HG.out HMJ.out) HC4.out HC4.out.lt (Nat.le_trans (sel_len _ _) (by omega))).mono ?_; rw [show (withoutJ S m).np = S.np from rfl, HBB.out]; rintro e w5 ⟨rfl, hb5⟩; have HB5 : Hid (Below wr.heap.size wr w5) := bel HB4.out hb5; have HO5 := Lib.hid (HO.out.go HB5.out); have HB15 : Hid (Below w1.heap.size w1 w5) := bel HBr.out HB5.out; clear hb5))
        go_roundw
        case rel => exact ⟨m + 1, by omega, by go_num, by rw [HE.out]; exact HO5.out, HB15.out⟩
        case measure => simp [intOf]; omega
      | false =>
        have HE : Hid (sel (fun k => !decide (getL (withoutJ S k) = getL S)) (m + 1) = sel (fun k => !decide (getL (withoutJ S k) = getL S)) m ++ [(m : Int)]) := sel_hit (by rw [HEQ.out]; rfl)
        have HSL := Lib.hid (sel_len (fun k => !decide (getL (withoutJ S k) = getL S)) m)
        go_wp2_with (first
          | (go_at_call 89; refine (kwithout_any N _ S m _ (HBK.out.go HBw.out) HG.out HMJ.out).mono ?_; rintro e w4 ⟨v4, rfl, hs4, hb4⟩; obtain ⟨a4, c4, rfl⟩ := hs4.form; have HS4 := Lib.hid hs4; have HB4 := Lib.hid hb4; have HC4 := Lib.hid (HCr.out.below hb4); clear hs4 hb4)
          | (go_at_call 98; refine (agrees1_any w4.heap.size ws.heap.size G _ (withoutJ S m) (prL S 1 S.np) w4 HS4.out (without_rj HG.out HMJ.out) HC4.out HC4.out.lt (Nat.le_trans (sel_len _ _) (by omega))).mono ?_; rw [show (withoutJ S m).np = S.np from rfl, HBB.out]; rintro e w5 ⟨rfl, hb5⟩; have HB5 : Hid (Below wr.heap.size wr w5) := bel HB4.out hb5; have HO5 := Lib.hid (HO.out.go HB5.out); have HB15 : Hid (Below w1.heap.size w1 w5) := bel HBr.out HB5.out; clear hb5)
          | (at_builtin; go_must (refine wpList_appI w5 rfl _ _ rfl rfl w1.heap.size _ _ m HO5.out HB15.out.size (by have := HSL.out; omega) rfl rfl ?_); intro v6 w6 ho6 hb6))
        go_roundw
        case rel => exact ⟨m + 1, by omega, by go_num, by rw [HE.out]; exact ho6, HB15.out.trans hb6⟩
        case measure => simp [intOf]; omega
    · have hmi : ¬ (m : Int) < S.J := by have := HJI.out; omega
      have hme : m = jn := by omega
      have HME := Lib.hid hme
      clear hme
      go_wp2_with fail
      go_ret
      refine ⟨_, rfl, ?_, fin HB.out HBw.out⟩
      have h1 := HO.out
      rw [HME.out] at h1
      unfold dec
      rw [HJN.out]
      exact own_mono h1 (by have := HB.out.size; have := HB1.out.size; omega)

end Go.Proofs.Ytffnlimgjnhmpaa
