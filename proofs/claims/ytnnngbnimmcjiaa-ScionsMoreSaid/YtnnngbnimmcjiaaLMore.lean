/-
  More1: writes into a copy: one number more, one want more; an argument with one more of each.
  LMore: ScionsMore returns true.
-/
import Derived.Test.YtnnngbnimmcjiaaEach1
import Derived.Test.YtnnngbnimmcjiaaRPlace
import Derived.Test.YtnnngbnimmcjiaaRWith
import Derived.Test.YtnnngbnimmcjiaaDataK
namespace Go.Proofs.Ytnnngbnimmcjiaa
open Go.RowKit Go.WideShapes Go.ChangeShapes Go.Joins Go.Deep

theorem IB.set {lo : Nat} {W : World} {g n cap : Nat} {x : Nat → Int} (h : IB lo W (.slice (some ⟨g, 0, none⟩) n cap) n x) {i : Nat} (hi : i < n) (z : Int) :
    IB lo (W.setCell ⟨g, i, none⟩ (.int .i64 z)) (.slice (some ⟨g, 0, none⟩) n cap) n (fun j => if j = i then z else x j) := by
  rcases h with ⟨h0, _⟩ | ⟨h0, g', cap', cur, t, e, h1, h2, h3, h4⟩
  · omega
  · cases e
    refine .inr ⟨h0, g, cap, cur.setIfInBounds i (.int .i64 z), t, rfl, h1, h2, blk_set h3 i _, fun j hj => ?_⟩
    have k1 := h4 j hj
    have hs : i < cur.size := (Array.getElem?_eq_some_iff.1 (h4 i hi)).1
    rw [Array.getElem?_setIfInBounds]
    by_cases e : j = i
    · subst e; simp [hs]
    · rw [if_neg (by omega)]
      show cur[j]? = some (Value.int .i64 (if j = i then z else x j))
      rw [if_neg e]; exact k1
theorem IB.open {lo : Nat} {W : World} {v : Value} {n : Nat} {x : Nat → Int} (h : IB lo W v n x) (h0 : 0 < n) : ∃ g cap, v = .slice (some ⟨g, 0, none⟩) n cap ∧ lo ≤ g ∧ g < W.heap.size ∧ (∀ i, i < n → W.cell? ⟨g, i, none⟩ = some (.int .i64 (x i))) ∧ ∀ i, W.frozen? ⟨g, i, none⟩ = false := by
  rcases h with ⟨h1, _⟩ | ⟨_, g, cap, cur, t, rfl, h1, h2, h3, h4⟩
  · omega
  · exact ⟨g, cap, rfl, h1, heap_lt h3, fun i hi => cell_blk h3 _ (h4 i hi), fun i => free_blk h3 i⟩

theorem pairL_take {cur : Array Value} {n cap : Nat} {x y : Nat → Int} (hs : cur.size = cap * 2) (hn : n ≤ cap) (h : ∀ i, i < n → cur[i * 2]? = some (.int .i64 (x i)) ∧ cur[i * 2 + 1]? = some (.int .i64 (y i))) : cur.toList.take (n * 2) = pairL n x y := by
  apply List.ext_getElem?
  intro j
  by_cases hj : j < n * 2
  · rw [List.getElem?_take_of_lt hj, Array.getElem?_toList]
    obtain ⟨h1, h2⟩ := h (j / 2) (by omega)
    obtain ⟨g1, g2⟩ := pairL_get n x y (j / 2) (by omega)
    by_cases ev : j % 2 = 0
    · have ej : j / 2 * 2 = j := by omega
      rw [ej] at h1 g1
      rw [h1, g1]
    · have ej : j / 2 * 2 + 1 = j := by omega
      rw [ej] at h2 g2
      rw [h2, g2]
  · rw [List.getElem?_eq_none (by simp; omega), List.getElem?_eq_none (by rw [pairL_len]; omega)]

def plusF (n : Nat) (z : Int) (x : Nat → Int) (i : Nat) : Int := if i = n then z else x i
theorem pairL_plus (n : Nat) (x y : Nat → Int) (a s : Int) : pairL (n + 1) (plusF n a x) (plusF n s y) = pairL n x y ++ [.int .i64 a, .int .i64 s] := by
  show pairL n _ _ ++ _ = _
  rw [pairL_congr (x' := x) (y' := y) n fun i hi => by unfold plusF; rw [if_neg (by omega), if_neg (by omega)]; exact ⟨rfl, rfl⟩]
  unfold plusF
  rw [if_pos rfl, if_pos rfl]

theorem appendW_run {lo : Nat} {W : World} {v : Value} {n : Nat} {x y : Nat → Int} (hP : PT 43 lo W v n x y) (hn : n ≤ 1000) {gl : Nat} {a s : Int}
    (hl : W.heap[gl]? = some (.cells #[.int .i64 a, .int .i64 s] 43)) (hlo : lo ≤ W.heap.size) :
    ∃ v' W', (Builtin.append_ #[24, 24] 24 #[v, .slice (some ⟨gl, 0, none⟩) 1 1]).run Try.prog W = .ok v' W' ∧ PB lo W' v' (n + 1) (plusF n a x) (plusF n s y) ∧ Below lo W W' ∧
      ∀ (k : Nat) (cur : Array Value) (T : TypeId), T ≠ 43 → W.heap[k]? = some (.cells cur T) → W'.heap[k]? = W.heap[k]? := by
  obtain ⟨i0, hi0, hz0, hz1, hz2⟩ := info_parts Try.infoW
  rcases Nat.eq_zero_or_pos n with h0 | h0
  · subst h0
    obtain ⟨g, rfl⟩ := hP.2.2.1 rfl
    obtain ⟨v', w', hrun, hown, hgrow⟩ := run_append_arg_grows (P := Try.prog) W 24 24 43 i0 (.agg #[.int .i64 0, .int .i64 0]) 2 16 Try.underlying24 hi0 hz0 hz1 hz2 rfl (by decide) ⟨g, 0, none⟩ 0 0 [] rfl (fun j u hj => by simp at hj)
      ⟨gl, 0, none⟩ 1 1 [.int .i64 a, .int .i64 s] rfl (two_cells hl) (by omega) (by unfold maxLen; omega) (by omega)
    refine ⟨v', w', hrun, (PB.of_own (e := 43) (lo := W.heap.size) ?_).lower hlo, (Below.refl _ _).grown hgrow hlo (fun k e => by cases e), fun k cur T _ hk => hgrow.block k (heap_lt hk) (fun e => by cases e)⟩
    rw [pairL_plus]
    exact hown
  · obtain ⟨hB, hT, _, hS⟩ := hP
    rcases hB with ⟨e, _⟩ | ⟨_, g, cap, cur, t, rfl, h1, h2, h3, h4⟩
    · omega
    obtain ⟨_, cur', hc⟩ := hT g cap rfl h0
    obtain ⟨_, hcap, cur2, T2, hc2, hsz⟩ := hS g cap rfl h0
    rw [h3] at hc hc2
    cases hc
    cases hc2
    have hown0 : W.ownsRow lo 43 2 (.slice (some ⟨g, 0, none⟩) n cap) n (pairL n x y) := ⟨pairL_len _ _ _, .inr ⟨g, cap, cur, rfl, h1, h3, h2, hcap, hsz, pairL_take hsz h2 h4⟩⟩
    obtain ⟨v', w', hrun, hown, hgrow, _⟩ := run_append_own (P := Try.prog) W lo 24 24 43 i0 (.agg #[.int .i64 0, .int .i64 0]) 2 16 Try.underlying24 hi0 hz0 hz1 hz2 rfl (by decide) _ n _ hown0
      ⟨gl, 0, none⟩ 1 1 [.int .i64 a, .int .i64 s] rfl (two_cells hl) (by simp [Value.oneCell']) (by unfold maxLen; omega) (by omega) hlo
    refine ⟨v', w', hrun, PB.of_own (e := 43) (by rw [pairL_plus]; exact hown), (Below.refl _ _).grown hgrow hlo (fun k e => by cases e; exact h1), fun k cur T hT hk => hgrow.block k (heap_lt hk) (fun e => ?_)⟩
    cases e
    rw [h3] at hk
    injection hk with hk
    injection hk with _ ht
    exact hT ht.symm

theorem wpList_appendW (w : World) {ops : Array Oper} {rest : List Oper} {o : Oper} {a : Act} {Q : Exit → Act → World → Prop} (hgd : o.guard = none) (s x : Operand)
    (ho : o.op = .call { callee := .builtin .append, args := #[s, x], argTypes := #[24, 24] }) (hty : o.type = 24)
    (lo : Nat) (v : Value) (n gl : Nat) (X Y : Nat → Int) (a0 s0 : Int) (hs : a.eval s = v) (hx : a.eval x = .slice (some ⟨gl, 0, none⟩) 1 1)
    (hP : PT 43 lo w v n X Y) (hn : n ≤ 1000) (hl : w.heap[gl]? = some (.cells #[.int .i64 a0, .int .i64 s0] 43)) (hlo : lo ≤ w.heap.size)
    (h : ∀ v' w', PB lo w' v' (n + 1) (plusF n a0 X) (plusF n s0 Y) → Below lo w w' → (∀ (k : Nat) (cur : Array Value) (T : TypeId), T ≠ 43 → w.heap[k]? = some (.cells cur T) → w'.heap[k]? = w.heap[k]?) → wpList Try.prog ops Q rest (a.put o.dst v') w') : wpList Try.prog ops Q (o :: rest) a w :=
  wpList_plain hgd fun K hK => by
    obtain ⟨v', w', hrun, r1, r2, r3⟩ := appendW_run hP hn hl hlo
    unfold Oper.wp
    simp [execOp, ho, resolve, invoke, builtin, hs, hx, hty, hrun, Result.andThen]
    exact hK _ _ (h v' w' r1 r2 r3)

section
variable {H : Type} {enc : TypeId × Value → H}
theorem cells_int : Try.prog.cellsOf 3 = 1 := by kernel_rfl
theorem cells_want : Try.prog.cellsOf 43 = 2 := by kernel_rfl
set_option maxRecDepth 100000 in
theorem trod_ints1 {w : World} {fuel : Nat} {v : Value} {y : DataW H × List MemPlace} (h : DataW.trod enc Try.prog w 0 (fun _ => true) true fuel 3 [v] = some y) : ∃ n, v = .int .i64 n := by
  obtain ⟨n, h1, _⟩ := DataW.trod_int Try.underlying3 h
  exact ⟨n, by simpa using h1⟩
set_option maxRecDepth 100000 in
theorem open_more {w : World} {v : Value} {base : Nat} {d : DataW H} {ps : List MemPlace} (hv : Value.okWide Try.prog w .any base 45 v)
    (h : DataW.Trod enc Try.prog w 0 (fun _ => true) true 45 v d ps) :
    ∃ s g a t : Int, v = .agg #[.int .i64 s, .int .i64 g, .int .i64 a, .int .i64 t] := by
  obtain ⟨cs, rfl, hsz⟩ := okWide_struct Try.underlying45 hv
  obtain ⟨c0, c1, c2, c3, rfl⟩ := array4 (hsz.trans (by kernel_rfl))
  obtain ⟨fuel, h⟩ := h
  obtain ⟨y0, y1, y2, n, hd, hp, h0, h1, h2⟩ := Deep.trod_struct3 Try.underlying45 h
  dsimp only at h0 h1 h2
  rw [cells_int] at h0 h1
  rw [cells_want] at h2
  obtain ⟨s, rfl⟩ := trod_ints1 (v := c0) h0
  obtain ⟨g, rfl⟩ := trod_ints1 (v := c1) h1
  have h2' : DataW.trod enc Try.prog w 0 (fun _ => true) true n 43 [c2, c3] = some y2 := h2
  obtain ⟨z0, z1, m, _, _, k0, k1⟩ := trod_struct2 Try.underlying43 h2'
  dsimp only at k0 k1
  rw [cells_int] at k0 k1
  obtain ⟨a, rfl⟩ := trod_ints1 (v := c2) k0
  obtain ⟨t, rfl⟩ := trod_ints1 (v := c3) k1
  exact ⟨s, g, a, t, rfl⟩
end

end Go.Proofs.Ytnnngbnimmcjiaa

namespace Go.Proofs.Ytnnngbnimmcjiaa
open Go.RowKit

theorem NB_free {W : World} {b : Nat} {cs : Array Value} {t : TypeId} (h : W.heap[b]? = some (.cells cs t)) : ∀ i, W.frozen? ⟨b, i, none⟩ = false := fun i => free_blk h i

set_option maxHeartbeats 16000000 in
set_option maxRecDepth 100000 in
theorem cmore_any (N : Nat) (v : Value) (B : SB) (s a wa wt : Int) (w : World) (h : BookAt N w v B) :
    Calls Try.prog 5 #[v, .agg #[.int .i64 s, .int .i64 a, .int .i64 wa, .int .i64 wt]] w fun e w' => e = .returned (.bool true) ∧ Below w.heap.size w w' := by
  have h' := h
  obtain ⟨_, a1, z1, a2, z2, a3, z3, rfl, _⟩ := h'
  obtain ⟨ws, hws, HB, hsz, hsz1, hblk, hblk1⟩ := box2 w (.cells #[.slice a1 B.ns z1, .slice a2 B.ng z2, .slice a3 B.nw z3] 26) (.cells #[.int .i64 s, .int .i64 a, .int .i64 wa, .int .i64 wt] 45)
  have q0' := cell_blk hblk 0 rfl
  have q1' := cell_blk hblk 1 rfl
  have q2' := cell_blk hblk 2 rfl
  have p0 := cell_blk hblk1 0 rfl
  have p1 := cell_blk hblk1 1 rfl
  have p2 := cell_blk hblk1 2 rfl
  have p3 := cell_blk hblk1 3 rfl
  have HBK0 := Lib.hid (h.go HB.out)
  have HB0 : Hid (Below ws.heap.size ws ws) := Below.refl _ _
  have hNS0 : N ≤ ws.heap.size := HBK0.out.1
  have hlens := h.lens
  obtain ⟨hlv, hls, hln⟩ := hlens
  clear hblk hblk1 h
  go_enter Try.func5, Try.ntmps5
  go_upto_region 1 with fail
  clear hws
  have S0d := old_of HB0.out.drew; have HB0d := S0d.2
  go_cut [5, 6, 7] (fun x y z wx => x = .int .i64 s ∧ y = .int .i64 a ∧ ∃ p, z = .pointer (some ⟨p, 0, none⟩) ∧ Hid (wx.heap[p]? = some (.cells #[.int .i64 wa, .int .i64 wt] 43)) ∧ Hid (Below ws.heap.size ws wx))
  case first =>
    as_aux_lemma =>
      refine wp_region_held_drew (S := (fun w' => (∀ b o, b < ws.heap.size → w'.cell? ⟨b, o, none⟩ = ws.cell? ⟨b, o, none⟩) ∧ Hid (Below ws.heap.size ws w'))) (by kernel_rfl) S0d (fun hHeld => ?_)
      (refine wpAnyH_take (i := 0) (v := ?_) rfl (by kernel_rfl) (by kernel_rfl) (by kernel_rfl) (fun _ _ _ h => h) (Or.inl ⟨by rfl, ?_⟩) (by assumption) ?_; rotate_left; (focus (intro w hSw; (try dsimp only at hSw); go_simp; (try with_reducible rfl))); (try simp only [List.getElem_toArray, List.getElem_cons_zero, List.getElem_cons_succ, Act.put, List.setIfInBounds_toArray, List.set_cons_zero, List.set_cons_succ])); (refine wpAnyH_take (i := 1) (v := ?_) rfl (by kernel_rfl) (by kernel_rfl) (by kernel_rfl) (fun _ _ _ h => h) (Or.inl ⟨by rfl, ?_⟩) (by assumption) ?_; rotate_left; (focus (intro w hSw; (try dsimp only at hSw); go_simp; (try with_reducible rfl))); (try simp only [List.getElem_toArray, List.getElem_cons_zero, List.getElem_cons_succ, Act.put, List.setIfInBounds_toArray, List.set_cons_zero, List.set_cons_succ])); (refine wpAnyH_take (i := 2) (v := ?_) rfl (by kernel_rfl) (by kernel_rfl) (by kernel_rfl) (fun _ _ _ h => h) (Or.inl ⟨by rfl, ?_⟩) (by assumption) ?_; rotate_left; (focus (intro w hSw; (try dsimp only at hSw); go_simp; (try with_reducible rfl))); (try simp only [List.getElem_toArray, List.getElem_cons_zero, List.getElem_cons_succ, Act.put, List.setIfInBounds_toArray, List.set_cons_zero, List.set_cons_succ])); (refine wpAnyH_take (i := 3) (v := ?_) rfl (by kernel_rfl) (by kernel_rfl) (by kernel_rfl) (fun _ _ _ h => h) (Or.inl ⟨by rfl, ?_⟩) (by assumption) ?_; rotate_left; (focus (intro w hSw; (try dsimp only at hSw); go_simp; (try with_reducible rfl))); (try simp only [List.getElem_toArray, List.getElem_cons_zero, List.getElem_cons_succ, Act.put, List.setIfInBounds_toArray, List.set_cons_zero, List.set_cons_succ])); (refine wpAnyH_take (i := 4) (v := ?_) rfl (by kernel_rfl) (by kernel_rfl) (by kernel_rfl) (fun _ _ _ h => h) (Or.inl ⟨by rfl, ?_⟩) (by assumption) ?_; rotate_left; (focus (intro w hSw; (try dsimp only at hSw); go_simp; (try with_reducible rfl))); (try simp only [List.getElem_toArray, List.getElem_cons_zero, List.getElem_cons_succ, Act.put, List.setIfInBounds_toArray, List.set_cons_zero, List.set_cons_succ])); (refine wpAnyH_take (i := 5) (v := ?_) rfl (by kernel_rfl) (by kernel_rfl) (by kernel_rfl) (fun _ _ _ h => h) (Or.inl ⟨by rfl, ?_⟩) (by assumption) ?_; rotate_left; (focus (intro w hSw; (try dsimp only at hSw); go_simp; (try with_reducible rfl))); (try simp only [List.getElem_toArray, List.getElem_cons_zero, List.getElem_cons_succ, Act.put, List.setIfInBounds_toArray, List.set_cons_zero, List.set_cons_succ]))
      refine wpAnyH_ready (rs := [6]) (by kernel_rfl) (by simp) ?_; refine AllReadyH.cons rfl (fun K hK => ?_) AllReadyH.nil; go_simp
      obtain ⟨wb, hwb, hba, hca⟩ : ∃ wb, (ws.alloc (.cells #[.int .i64 0, .int .i64 0] 43)).drew = wb ∧ Below ws.heap.size ws wb ∧ wb.heap[ws.heap.size]? = some (.cells #[.int .i64 0, .int .i64 0] 43) := ⟨_, rfl, (below_alloc (Nat.le_refl _) _).drew, World.alloc_heap_new _ _⟩
      rw [hwb]
      have HBa := Lib.hid hba
      have HCa := Lib.hid hca
      have Sa := old_of hba
      clear hwb hba hca
      refine hK.out _ _ Sa (fun hHeld => ?_)
      clear hK K
      (try simp only [List.getElem_toArray, List.getElem_cons_zero, List.getElem_cons_succ, Act.put, List.setIfInBounds_toArray, List.set_cons_zero, List.set_cons_succ])
      have x0 := cell_blk HCa.out 0 rfl
      have x1 := cell_blk HCa.out 1 rfl
      have xf0 := free_blk HCa.out 0
      have xf1 := free_blk HCa.out 1
      (refine wpAnyH_take (i := 7) (v := ?_) rfl (by kernel_rfl) (by kernel_rfl) (by kernel_rfl) (fun _ _ _ h => h) (Or.inl ⟨by rfl, ?_⟩) (by assumption) ?_; rotate_left; (focus (intro w hSw; (try dsimp only at hSw); go_simp; (try with_reducible rfl))); (try simp only [List.getElem_toArray, List.getElem_cons_zero, List.getElem_cons_succ, Act.put, List.setIfInBounds_toArray, List.set_cons_zero, List.set_cons_succ])); (refine wpAnyH_take (i := 8) (v := ?_) rfl (by kernel_rfl) (by kernel_rfl) (by kernel_rfl) (fun _ _ _ h => h) (Or.inl ⟨by rfl, ?_⟩) (by assumption) ?_; rotate_left; (focus (intro w hSw; (try dsimp only at hSw); go_simp; (try with_reducible rfl))); (try simp only [List.getElem_toArray, List.getElem_cons_zero, List.getElem_cons_succ, Act.put, List.setIfInBounds_toArray, List.set_cons_zero, List.set_cons_succ]))
      refine wpAnyH_ready (rs := [9]) (by kernel_rfl) (by simp) ?_; refine AllReadyH.cons rfl (fun K hK => ?_) AllReadyH.nil; go_simp
      obtain ⟨wd, hwd, hcb, hbb⟩ := put2 HCa.out (.int .i64 wa) (.int .i64 wt)
      rw [hwd]
      have HBb : Hid (Below ws.heap.size ws wd) := HBa.out.trans hbb
      have HCb := Lib.hid hcb
      have Sb := old_of HBb.out
      clear hwd hcb hbb x0 x1 xf0 xf1 Sa
      refine hK.out _ _ Sb (fun hHeld => ?_)
      clear hK K
      (try simp only [List.getElem_toArray, List.getElem_cons_zero, List.getElem_cons_succ, Act.put, List.setIfInBounds_toArray, List.set_cons_zero, List.set_cons_succ])
      refine wpAnyH_done (by kernel_rfl) ?_ _; clear hHeld
      go_wp2_with fail
      go_meet
      exact ⟨rfl, rfl, _, rfl, HCb, HBb⟩
  case rest =>
    obtain ⟨rfl, rfl, p, rfl, HW, HBc⟩ := hcut
    obtain ⟨wp, hwp⟩ : ∃ wp, wp = wc := ⟨_, rfl⟩
    subst hwp
    have q0 := (HBc.out.cell (p := ⟨w.heap.size, 0, none⟩) hsz).trans q0'
    have q1 := (HBc.out.cell (p := ⟨w.heap.size, 1, none⟩) hsz).trans q1'
    have q2 := (HBc.out.cell (p := ⟨w.heap.size, 2, none⟩) hsz).trans q2'
    have HBK := Lib.hid (HBK0.out.go HBc.out)
    have HNS : Hid (N ≤ wp.heap.size) := Nat.le_trans hNS0 HBc.out.size
    replace hsz : w.heap.size < wp.heap.size := Nat.lt_of_lt_of_le hsz HBc.out.size
    have HBE : Hid (Below w.heap.size w wp) := fin HB.out HBc.out
    have hpw : p < wp.heap.size := heap_lt HW.out
    clear HB0 HB0d S0d p0 p1 p2 p3 q0' q1' q2' HBK0 HBc HB hsz1 hNS0
    have HBz : Hid (Below wp.heap.size wp wp) := Below.refl _ _
    have cz := (old_of HBz.out).1
    cases hr : readyL B with
    | false =>
      have HRY := Lib.hid hr
      clear hr
      go_wp2_with (first
        | (go_at_call 12; refine (ready_any N _ B _ (HBK.out.go HBz.out)).mono ?_; rintro e w1 ⟨rfl, hb1⟩; rw [HRY.out]; (try clear cz); have HB1 := Lib.hid (bel HBz.out hb1); have c1 := (old_of HB1.out).1; clear hb1)
        | (go_at_call 14; refine (works_any _).mono ?_; rintro e w2 ⟨rfl, hb2⟩; (try clear c1); have HB2 := Lib.hid (bel HB1.out hb2); have c2 := (old_of HB2.out).1; clear hb2))
      go_ret
      exact ⟨rfl, fin HBE.out HB2.out⟩
    | true =>
    have HRY := Lib.hid hr
    have hv : okL B = true := by unfold readyL at hr; rw [Bool.and_eq_true] at hr; exact hr.2
    have hG := goodL hv
    have HG := Lib.hid hG
    cases hs : (decide (0 ≤ s) && decide (s < (B.ns : Int))) with
    | false =>
      have HIS := Lib.hid hs
      clear hr hs hv hG
      go_wp2_with (first
        | (go_at_call 12; refine (ready_any N _ B _ (HBK.out.go HBz.out)).mono ?_; rintro e w1 ⟨rfl, hb1⟩; rw [HRY.out]; (try clear cz); have HB1 := Lib.hid (bel HBz.out hb1); have c1 := (old_of HB1.out).1; clear hb1)
        | (go_at_call 23; refine (isSort_eq N _ B _ _ _ (HBK.out.go HB1.out) HIS.out).mono ?_; rintro e w2 ⟨rfl, hb2⟩; (try clear c1); have HB2 := Lib.hid (bel HB1.out hb2); have c2 := (old_of HB2.out).1; clear hb2)
        | (go_at_call 14; refine (works_any _).mono ?_; rintro e w3 ⟨rfl, hb3⟩; (try clear c2); have HB3 := Lib.hid (bel HB2.out hb3); have c3 := (old_of HB3.out).1; clear hb3))
      go_ret
      exact ⟨rfl, fin HBE.out HB3.out⟩
    | true =>
    have HIS := Lib.hid hs
    cases ha : (decide (0 ≤ a) && decide (a < (B.ng : Int))) with
    | false =>
      have HIG := Lib.hid ha
      clear hr hs hv hG ha
      go_wp2_with (first
        | (go_at_call 12; refine (ready_any N _ B _ (HBK.out.go HBz.out)).mono ?_; rintro e w1 ⟨rfl, hb1⟩; rw [HRY.out]; (try clear cz); have HB1 := Lib.hid (bel HBz.out hb1); have c1 := (old_of HB1.out).1; clear hb1)
        | (go_at_call 23; refine (isSort_eq N _ B _ _ _ (HBK.out.go HB1.out) HIS.out).mono ?_; rintro e w2 ⟨rfl, hb2⟩; (try clear c1); have HB2 := Lib.hid (bel HB1.out hb2); have c2 := (old_of HB2.out).1; clear hb2)
        | (go_at_call 24; refine (isGarden_eq N _ B _ _ _ (HBK.out.go HB2.out) HIG.out).mono ?_; rintro e w3 ⟨rfl, hb3⟩; (try clear c2); have HB3 := Lib.hid (bel HB2.out hb3); have c3 := (old_of HB3.out).1; clear hb3)
        | (go_at_call 14; refine (works_any _).mono ?_; rintro e w4 ⟨rfl, hb4⟩; (try clear c3); have HB4 := Lib.hid (bel HB3.out hb4); have c4 := (old_of HB4.out).1; clear hb4))
      go_ret
      exact ⟨rfl, fin HBE.out HB4.out⟩
    | true =>
    have HIG := Lib.hid ha
    obtain ⟨t, rfl⟩ : ∃ t : Nat, s = t := ⟨s.toNat, by simp at hs; omega⟩
    have htn : t < B.ns := by simp at hs; omega
    obtain ⟨d, rfl⟩ : ∃ d : Nat, a = d := ⟨a.toNat, by simp at ha; omega⟩
    have hdn : d < B.ng := by simp at ha; omega
    have hti : (t : Int) < (B.ns : Int) := by omega
    have hdi : (d : Int) < (B.ng : Int) := by omega
    have hns := hG.ns
    have hng := hG.ng
    have hnw := hG.nw
    obtain ⟨b, hb⟩ : ∃ b, bestL (rankG B) (giftsL B) = b := ⟨_, rfl⟩
    have HBG : Hid (GOK B b) := by rw [← hb]; exact giftsL_ok (best_in _)
    have HBE0 := Lib.hid hb
    have HE : Hid (eBest B = (cntL B b, 0)) := by unfold Hid eBest eList; rw [hv, hb]; rfl
    have HCB : Hid (cntL B b = fromF B.ns fun i => ((cS B b i : Nat) : Int)) := rfl
    have hps := plusB_sum (a := d) hG
    obtain ⟨sn, hsn⟩ : ∃ z, sumN B = z := ⟨_, rfl⟩
    have hsn12 : sn ≤ 12 := by rw [← hsn]; exact sumN_le hG
    have HSN := Lib.hid hsn
    obtain ⟨pn, hpn⟩ : ∃ pn : Nat, sumN (plusB B d) = sn + pn := ⟨sumN (plusB B d) - sn, by omega⟩
    have hpn1 : pn ≤ 1 := by omega
    have HPN := Lib.hid hpn
    have HM1 : Hid (eNum B (sumN B) = ((sn : Int), 0)) := by unfold Hid eNum; rw [hv, hsn]; rfl
    have HP1 : Hid (ePlace B d = ((pn : Int), 0)) := by
      unfold Hid ePlace
      rw [hv, ha, Int.toNat_natCast, hpn, hsn]
      simp
      omega
    obtain ⟨fn, hfn⟩ : ∃ z, safeN B = z := ⟨_, rfl⟩
    have HFN := Lib.hid hfn
    have HS1 : Hid (eNum B (safeN B) = ((fn : Int), 0)) := by unfold Hid eNum; rw [hv, hfn]; rfl
    obtain ⟨an, han⟩ : ∃ z, aloneN B t = z := ⟨_, rfl⟩
    have HAN := Lib.hid han
    have HA1 : Hid (eAlone B t = ((an : Int), 0)) := by
      unfold Hid eAlone
      rw [hv, hs, Int.toNat_natCast]
      show (((aloneN B t : Nat) : Int), (0 : Int)) = _
      rw [han]
    have HV := Lib.hid hv
    have g1 : ¬ (pn : Int) < 0 := by omega
    have g2 : ¬ (1 : Int) < (pn : Int) := by omega
    have g1b : decide ((pn : Int) < 0) = false := decide_eq_false (by omega)
    have g2b : decide (1 < pn) = false := decide_eq_false (by omega)
    have g2c : decide ((1 : Int) < (pn : Int)) = false := decide_eq_false (by omega)
    have HCt := Lib.hid (hG.C t htn)
    have HPd := Lib.hid (hG.P d hdn)
    clear hr hs ha hv hG hb hps hsn hpn hfn han
    go_upto_region 11 with (first
      | (go_at_call 12; refine (ready_any N _ B _ (HBK.out.go HBz.out)).mono ?_; rintro e w1 ⟨rfl, hb1⟩; rw [HRY.out]; (try clear cz); have HB1 := Lib.hid (bel HBz.out hb1); have c1 := (old_of HB1.out).1; clear hb1)
      | (go_at_call 23; refine (isSort_eq N _ B _ _ _ (HBK.out.go HB1.out) HIS.out).mono ?_; rintro e w2 ⟨rfl, hb2⟩; (try clear c1); have HB2 := Lib.hid (bel HB1.out hb2); have c2 := (old_of HB2.out).1; clear hb2)
      | (go_at_call 24; refine (isGarden_eq N _ B _ _ _ (HBK.out.go HB2.out) HIG.out).mono ?_; rintro e w3 ⟨rfl, hb3⟩; (try clear c2); have HB3 := Lib.hid (bel HB2.out hb3); have c3 := (old_of HB3.out).1; clear hb3)
      | (go_at_call 15; refine (kMost_any N _ B _ (HBK.out.go HB3.out)).mono ?_; rw [HM1.out]; rintro e w4 ⟨rfl, hb4⟩; (try clear c3); have HB4 := Lib.hid (bel HB3.out hb4); have c4 := (old_of HB4.out).1; clear hb4)
      | (go_at_call 16; refine (kBest_any N _ B _ (HBK.out.go HB4.out)).mono ?_; rw [HE.out]; rintro e w5 ⟨v5, rfl, ho5, hb5⟩; replace ho5 : OwnI w4.heap.size w5 v5 (cntL B b) := ho5; have hi5 := own_list ho5 HCB.out (by omega); obtain ⟨a5, z5, rfl⟩ : ∃ a c, v5 = .slice a B.ns c := (by obtain ⟨ao, cp, e, _⟩ := hi5; exact ⟨ao, cp, e⟩); have HI5 := Lib.hid hi5; clear ho5 hi5; (try clear c4); have HB5 := Lib.hid (bel HB4.out hb5); have c5 := (old_of HB5.out).1; clear hb5)
      | (go_at_call 25; refine (kPlace_any N _ B _ _ (HBK.out.go HB5.out)).mono ?_; rw [HP1.out]; rintro e w6 ⟨rfl, hb6⟩; have HI6 := Lib.hid (HI5.out.mono hb6 hb6.size); (try clear c5); have HB6 := Lib.hid (bel HB5.out hb6); have c6 := (old_of HB6.out).1; clear hb6)
      | (go_at_call 17; refine (kSafe_any N _ B _ (HBK.out.go HB6.out)).mono ?_; rw [HS1.out]; rintro e w7 ⟨rfl, hb7⟩; have HI7 := Lib.hid (HI6.out.mono hb7 hb7.size); (try clear c6); have HB7 := Lib.hid (bel HB6.out hb7); have c7 := (old_of HB7.out).1; clear hb7)
      | (go_at_call 26; refine (copyT_any N _ B _ (HBK.out.go HB7.out) (by omega) (by omega) (by omega)).mono ?_; rintro e w8 ⟨v8, rfl, ho8, hb8⟩; obtain ⟨u1, u2, u3, rfl, i1, i2, i3⟩ := ho8; obtain ⟨b1, d1, rfl⟩ := i1.form; obtain ⟨b2, d2, rfl⟩ := i2.form; obtain ⟨b3, d3, rfl⟩ := i3.form; have HI1 := Lib.hid i1; have HI2 := Lib.hid i2; have HI3 := Lib.hid i3; have H78 := Lib.hid hb8; clear i1 i2 i3; (try clear c7); have HB8 := Lib.hid (bel HB7.out hb8); have c8 := (old_of HB8.out).1; clear hb8; clear c8; obtain ⟨w9, hw9, HB89, hsz9, hblk9⟩ := box1 w8 (.cells #[.slice none 0 0, .slice none 0 0, .slice none 0 0] 26); have x0 := cell_blk hblk9 0 rfl; have x1 := cell_blk hblk9 1 rfl; have x2 := cell_blk hblk9 2 rfl; have f0 := free_blk hblk9 0; have f1 := free_blk hblk9 1; have f2 := free_blk hblk9 2; have HZ9 := Lib.hid hblk9; clear hblk9))
    obtain ⟨wA, hwA, hzA, hbA⟩ := put3 (n := w8.heap.size) HZ9.out (.slice b1 B.ns d1) (.slice b2 B.ng d2) (.slice b3 B.nw d3) (Nat.le_refl _)
    rw [hwA]
    have H8A : Hid (Below w8.heap.size w8 wA) := HB89.out.trans hbA
    have HI1A := Lib.hid (HI1.out.grow H8A.out)
    have HI2A := Lib.hid (HI2.out.grow H8A.out)
    have HI3A := Lib.hid (HI3.out.grow H8A.out)
    have HIA := Lib.hid (HI7.out.mono (bel H78.out H8A.out) (Nat.le_refl _))
    have HBA : Hid (Below wp.heap.size wp wA) := bel HB8.out H8A.out
    have h7p : wp.heap.size ≤ w7.heap.size := HB7.out.size
    obtain ⟨o, ho⟩ : ∃ o, w8.heap.size = o := ⟨_, rfl⟩
    have HOP0 : wp.heap.size ≤ o := by rw [← ho]; exact HB8.out.size
    have H7O0 : w7.heap.size ≤ o := by rw [← ho]; exact H78.out.size
    rw [ho] at hzA ⊢
    have HZA := Lib.hid hzA
    obtain ⟨g1, _, e, hg1l, hg1w, hcl, hfr⟩ := HI1A.out.1.open (by omega)
    cases e
    clear x0 x1 x2 f0 f1 f2
    have x0 := cell_blk HZA.out 0 rfl
    have pk := hcl t htn
    have pf := hfr t
    obtain ⟨cv, hcv⟩ : ∃ cv : Nat, B.C t = cv := ⟨(B.C t).toNat, by have := HCt.out; omega⟩
    have hcv4 : cv ≤ 4 := by have := HCt.out; omega
    have HCV := Lib.hid hcv
    rw [hcv] at pk
    clear hcl hfr hcv hwA hzA hbA hw9 ho HZ9 HB89 HI1 HI2 HI3 H8A
    go_upto_region 12 with fail
    obtain ⟨wB, hwB⟩ : ∃ wB, wA.setCell ⟨g1, t, none⟩ (.int .i64 ((cv : Int) + 1)) = wB := ⟨_, rfl⟩
    have hbB : Below g1 wA wB := by rw [← hwB]; exact (Below.refl g1 wA).setCell (p := ⟨g1, t, none⟩) (Nat.le_refl _) _
    have hoth : ∀ k, k ≠ g1 → wB.heap[k]? = wA.heap[k]? := fun k hk => by rw [← hwB]; exact Below.heap_setCell _ _ _ _ (by exact hk)
    have hset := HI1A.out.1.set htn ((cv : Int) + 1)
    rw [hwB] at hset
    (try rw [hwB])
    obtain ⟨_, curg, hcg⟩ := HI1A.out.2 g1 _ rfl (by omega)
    have hne : ∀ (T : TypeId) (k : Nat) (cur : Array Value), T ≠ 3 → wA.heap[k]? = some (.cells cur T) → wB.heap[k]? = wA.heap[k]? := fun T k cur hT hk => hoth k fun e => by
      subst e
      rw [hk] at hcg
      injection hcg with hcg
      injection hcg with _ ht
      exact hT ht
    have e : (fun j => if j = t then (cv : Int) + 1 else B.C j) = (moreC B t).C := by
      funext j
      show _ = if j = t then B.C j + 1 else B.C j
      by_cases e : j = t
      · subst e; rw [if_pos rfl, if_pos rfl, HCV.out]
      · rw [if_neg e, if_neg e]
    rw [e] at hset
    have HBo : Hid (BookAt wB.heap.size wB (.agg #[.slice (some ⟨g1, 0, none⟩) B.ns d1, .slice b2 B.ng d2, .slice b3 B.nw d3]) (moreC B t)) :=
      ⟨Nat.le_refl _, _, d1, b2, d2, b3, d3, rfl, hset.ints (show B.ns ≤ 1000 by omega), (HI2A.out.turn fun k cur hk => hne _ k cur (by decide) hk).pairs (by omega), (HI3A.out.turn fun k cur hk => hne _ k cur (by decide) hk).pairs (by omega)⟩
    have HBB : Hid (Below wp.heap.size wp wB) := HBA.out.trans (hbB.mono (by omega))
    have HIB := Lib.hid (HIA.out.mono (hbB.mono hg1l) (Nat.le_refl _))
    have HZB := Lib.hid ((hne _ o _ (by decide) HZA.out).trans HZA.out)
    have h7B : w7.heap.size ≤ wB.heap.size := by have := hbB.size; omega
    have hoB : o < wB.heap.size := heap_lt HZB.out
    have HOP : Hid (wp.heap.size ≤ o) := HOP0
    have H7O : Hid (w7.heap.size ≤ o) := H7O0
    clear x0 pk pf hwB hbB hoth hset hcg hne e HI1A HI2A HI3A HIA HZA HBA HI7 H78 hg1w
    have x0 := cell_blk HZB.out 0 rfl
    have x1 := cell_blk HZB.out 1 rfl
    have x2 := cell_blk HZB.out 2 rfl
    obtain ⟨ro, hro⟩ : ∃ ro, readyL (moreC B t) = ro := ⟨_, rfl⟩
    have HRO := Lib.hid hro
    clear hro
    go_upto_if 112 with (go_at_call 12; refine (ready_any wB.heap.size _ (moreC B t) _ HBo.out).mono ?_; rw [HRO.out]; rintro e wC ⟨rfl, hbC⟩; have HBC : Hid (Below wB.heap.size wB wC) := hbC; clear hbC)
    go_cut [] (fun wx => Hid (Below wB.heap.size wB wx))
    case first =>
      as_aux_lemma =>
        have cC := (old_of HBC.out).1
        cases ro with
        | false =>
          go_wp2_with fail
          go_meet
          exact HBC
        | true =>
          have hvo : okL (moreC B t) = true := by have h := HRO.out; unfold readyL at h; rw [Bool.and_eq_true] at h; exact h.2
          have hGo := goodL hvo
          obtain ⟨hm1, hm2⟩ := moreC_sum HG.out hGo
          have hrk := rank_more_no (B' := moreC B t) HG.out hGo rfl (fun _ => rfl) (fun g hg => moreC_fit HG.out hGo hg)
          rw [HBE0.out] at hrk
          obtain ⟨m, hm⟩ : ∃ m, sumN (moreC B t) = m := ⟨_, rfl⟩
          obtain ⟨b', hb'⟩ : ∃ b', bestL (rankG (moreC B t)) (giftsL (moreC B t)) = b' := ⟨_, rfl⟩
          have HBB' : Hid (GOK (moreC B t) b') := by rw [← hb']; exact giftsL_ok (best_in _)
          rw [HSN.out, hm] at hm1 hm2
          have HMo : Hid (eNum (moreC B t) (sumN (moreC B t)) = ((m : Int), 0)) := by unfold Hid eNum; rw [hvo, hm]; rfl
          have HEo : Hid (eBest (moreC B t) = (cntL (moreC B t) b', 0)) := by unfold Hid eBest eList; rw [hvo, hb']; rfl
          have HCo : Hid (cntL (moreC B t) b' = fromF B.ns fun i => ((cS (moreC B t) b' i : Nat) : Int)) := rfl
          have HRK : Hid (decide (rankC (cS (moreC B t) b') B.ns < rankC (cS B b) B.ns) = false) := by rw [hb'] at hrk; exact hrk
          have HC4 : Hid (∀ i, i < B.ns → cS B b i ≤ 4 ∧ cS (moreC B t) b' i ≤ 4) := fun i hi => ⟨HBG.out.cS4 HG.out i hi, HBB'.out.cS4 hGo i hi⟩
          have t1 : ¬ (m : Int) < (sn : Int) := by omega
          have hw1 : IntKind.i64.wrap ((sn : Int) + 1) = ((sn + 1 : Nat) : Int) := by rw [IntWalk.i64_in _ (by omega)]; omega
          have t2 : ¬ ((sn + 1 : Nat) : Int) < (m : Int) := by omega
          clear hvo hGo hm1 hm2 hrk hm hb'
          go_wp2_with (first
            | (go_at_call 15; refine (kMost_any wB.heap.size _ (moreC B t) _ (HBo.out.go HBC.out)).mono ?_; rw [HMo.out]; rintro e wD ⟨rfl, hbD⟩; (try clear cC); have HBD := Lib.hid (bel HBC.out hbD); have cD := (old_of HBD.out).1; clear hbD)
            | (go_at_call 16; refine (kBest_any wB.heap.size _ (moreC B t) _ (HBo.out.go HBD.out)).mono ?_; rw [HEo.out]; rintro e wE ⟨vE, rfl, hoE, hbE⟩; replace hoE : OwnI wD.heap.size wE vE (cntL (moreC B t) b') := hoE; have hiE := own_list hoE HCo.out (by omega); obtain ⟨aE, zE, rfl⟩ : ∃ a c, vE = .slice a B.ns c := (by obtain ⟨ao, cp, e, _⟩ := hiE; exact ⟨ao, cp, e⟩); have HIE := Lib.hid hiE; clear hoE hiE; (try clear cD); have HBE := Lib.hid (bel HBD.out hbE); have cE := (old_of HBE.out).1; clear hbE)
            | (go_at_call 20; refine (better_any w7.heap.size wE.heap.size _ _ B.ns (cS B b) (cS (moreC B t) b') _ (HIB.out.mono (HBE.out.mono h7B) (Nat.le_refl _)) HIE.out HC4.out).mono ?_; rw [HRK.out]; rintro e wF ⟨rfl, hbF⟩; (try clear cE); have HBF := Lib.hid (bel HBE.out hbF); have cF := (old_of HBF.out).1; clear hbF))
          go_meet
          exact HBF
    case rest =>
    obtain ⟨wu, hwu⟩ : ∃ wu, wu = wc := ⟨_, rfl⟩
    subst hwu
    have HBU : Hid (Below wp.heap.size wp wu) := bel HBB.out hcut.out
    have HZU := Lib.hid ((hcut.out.block o hoB).trans HZB.out)
    have HIU := Lib.hid (HIB.out.mono (hcut.out.mono h7B) (Nat.le_refl _))
    have h7U : w7.heap.size ≤ wu.heap.size := Nat.le_trans h7B hcut.out.size
    have hoU : o < wu.heap.size := heap_lt HZU.out
    have cU := (old_of HBU.out).1
    clear x0 x1 x2 hcut HBC HBo HIB HZB HBB h7B hoB HRO
    go_upto_region 18 with (go_at_call 26; refine (copyT_any N _ B _ (HBK.out.go HBU.out) (by omega) (by omega) (by omega)).mono ?_; rintro e wD ⟨vD, rfl, hoD, hbD⟩; obtain ⟨u1, u2, u3, rfl, i1, i2, i3⟩ := hoD; obtain ⟨b4, d4, rfl⟩ := i1.form; obtain ⟨b5, d5, rfl⟩ := i2.form; obtain ⟨b6, d6, rfl⟩ := i3.form; have HJ1 := Lib.hid i1; have HJ2 := Lib.hid i2; have HJ3 := Lib.hid i3; have HUD := Lib.hid hbD; clear i1 i2 i3; have HZD := Lib.hid ((hbD.block o hoU).trans HZU.out); (try clear cU); have HBD := Lib.hid (bel HBU.out hbD); have cD := (old_of HBD.out).1; clear hbD; clear cD; have x0 := cell_blk HZD.out 0 rfl; have x1 := cell_blk HZD.out 1 rfl; have x2 := cell_blk HZD.out 2 rfl; have f0 := free_blk HZD.out 0; have f1 := free_blk HZD.out 1; have f2 := free_blk HZD.out 2)
    obtain ⟨wE, hwE, hzE, hoE, hbE⟩ := put3o HZD.out (.slice b4 B.ns d4) (.slice b5 B.ng d5) (.slice b6 B.nw d6)
    rw [hwE]
    have HK1 := Lib.hid (HJ1.out.keep fun g hg _ => hoE g (by omega))
    have HK2 := Lib.hid (HJ2.out.keep fun g hg _ => hoE g (by omega))
    have HK3 := Lib.hid (HJ3.out.keep fun g hg _ => hoE g (by omega))
    have hop : wp.heap.size ≤ o := HOP.out
    have h7o := H7O.out
    have HBE' : Hid (Below wp.heap.size wp wE) := HBD.out.trans (hbE.mono hop)
    have HIE := Lib.hid (HIU.out.mono (Below.trans (HUD.out.mono h7U) (hbE.mono h7o)) (Nat.le_refl _))
    have hUE : wu.heap.size ≤ wE.heap.size := Nat.le_trans HUD.out.size hbE.size
    have HZE := Lib.hid hzE
    obtain ⟨g2, _, e, hg2l, hg2w, hcl, hfr⟩ := HK2.out.1.open (by omega)
    cases e
    clear x0 x1 x2 f0 f1 f2 hwE hzE hoE hbE HJ1 HJ2 HJ3 HZD HBD HUD HIU HZU HBU
    have x1 := cell_blk HZE.out 1 rfl
    have pk := hcl d hdn
    have pf := hfr (d * 2)
    obtain ⟨pv, hpv⟩ : ∃ pv : Nat, B.P d = pv := ⟨(B.P d).toNat, by have := HPd.out; omega⟩
    have hpv4 : pv ≤ 4 := by have := HPd.out; omega
    have HPV := Lib.hid hpv
    rw [hpv] at pk
    clear hcl hfr hpv
    go_upto_region 19 with fail
    obtain ⟨wF, hwF⟩ : ∃ wF, wE.setCell ⟨g2, d * 2, none⟩ (.int .i64 ((pv : Int) + 1)) = wF := ⟨_, rfl⟩
    have hbF : Below g2 wE wF := by rw [← hwF]; exact (Below.refl g2 wE).setCell (p := ⟨g2, d * 2, none⟩) (Nat.le_refl _) _
    have hoth : ∀ k, k ≠ g2 → wF.heap[k]? = wE.heap[k]? := fun k hk => by rw [← hwF]; exact Below.heap_setCell _ _ _ _ (by exact hk)
    have hset := HK2.out.1.set hdn ((pv : Int) + 1)
    rw [hwF] at hset
    (try rw [hwF])
    obtain ⟨_, curg, hcg⟩ := HK2.out.2.1 g2 _ rfl (by omega)
    have hne : ∀ (T : TypeId) (k : Nat) (cur : Array Value), T ≠ 49 → wE.heap[k]? = some (.cells cur T) → wF.heap[k]? = wE.heap[k]? := fun T k cur hT hk => hoth k fun e => by
      subst e
      rw [hk] at hcg
      injection hcg with hcg
      injection hcg with _ ht
      exact hT ht
    have e : (fun j => if j = d then (pv : Int) + 1 else B.P j) = (plusB B d).P := by
      funext j
      show _ = if j = d then B.P j + 1 else B.P j
      by_cases e : j = d
      · subst e; rw [if_pos rfl, if_pos rfl, HPV.out]
      · rw [if_neg e, if_neg e]
    rw [e] at hset
    have HBo : Hid (BookAt wF.heap.size wF (.agg #[.slice b4 B.ns d4, .slice (some ⟨g2, 0, none⟩) B.ng d5, .slice b6 B.nw d6]) (plusB B d)) :=
      ⟨Nat.le_refl _, b4, d4, _, d5, b6, d6, rfl, (HK1.out.turn fun k cur hk => hne _ k cur (by decide) hk).ints (by omega), hset.pairs (show B.ng ≤ 1000 by omega), (HK3.out.turn fun k cur hk => hne _ k cur (by decide) hk).pairs (by omega)⟩
    have HBB : Hid (Below wp.heap.size wp wF) := HBE'.out.trans (hbF.mono (by omega))
    have HIB := Lib.hid (HIE.out.mono (hbF.mono (by omega)) (Nat.le_refl _))
    have HZB := Lib.hid ((hne _ o _ (by decide) HZE.out).trans HZE.out)
    have h7B : w7.heap.size ≤ wF.heap.size := by have := hbF.size; omega
    have hoB : o < wF.heap.size := heap_lt HZB.out
    clear x1 pk pf hwF hbF hoth hset hcg hne e HK1 HK2 HK3 HIE HZE HBE' hg2w hUE h7U hoU
    have x0 := cell_blk HZB.out 0 rfl
    have x1 := cell_blk HZB.out 1 rfl
    have x2 := cell_blk HZB.out 2 rfl
    obtain ⟨ro, hro⟩ : ∃ ro, readyL (plusB B d) = ro := ⟨_, rfl⟩
    have HRO := Lib.hid hro
    clear hro
    go_upto_if 164 with (go_at_call 12; refine (ready_any wF.heap.size _ (plusB B d) _ HBo.out).mono ?_; rw [HRO.out]; rintro e wC ⟨rfl, hbC⟩; have HBC : Hid (Below wF.heap.size wF wC) := hbC; clear hbC)
    go_cut [] (fun wx => Hid (Below wF.heap.size wF wx))
    case first =>
      as_aux_lemma =>
        have cC := (old_of HBC.out).1
        cases ro with
        | false =>
          go_wp2_with fail
          go_meet
          exact HBC
        | true =>
          have hvo : okL (plusB B d) = true := by have h := HRO.out; unfold readyL at h; rw [Bool.and_eq_true] at h; exact h.2
          have hGo := goodL hvo
          have hrk := rank_more_no (B' := plusB B d) HG.out hGo rfl (fun _ => rfl) (fun g hg => plusB_fit HG.out hg)
          rw [HBE0.out] at hrk
          obtain ⟨q, hq⟩ : ∃ q, sn + pn = q := ⟨_, rfl⟩
          have hm : sumN (plusB B d) = q := by rw [HPN.out, hq]
          obtain ⟨b', hb'⟩ : ∃ b', bestL (rankG (plusB B d)) (giftsL (plusB B d)) = b' := ⟨_, rfl⟩
          have HBB' : Hid (GOK (plusB B d) b') := by rw [← hb']; exact giftsL_ok (best_in _)
          have HMo : Hid (eNum (plusB B d) (sumN (plusB B d)) = ((q : Int), 0)) := by unfold Hid eNum; rw [hvo, hm]; rfl
          have HEo : Hid (eBest (plusB B d) = (cntL (plusB B d) b', 0)) := by unfold Hid eBest eList; rw [hvo, hb']; rfl
          have HCo : Hid (cntL (plusB B d) b' = fromF B.ns fun i => ((cS (plusB B d) b' i : Nat) : Int)) := rfl
          have HRK : Hid (decide (rankC (cS (plusB B d) b') B.ns < rankC (cS B b) B.ns) = false) := by rw [hb'] at hrk; exact hrk
          have HC4 : Hid (∀ i, i < B.ns → cS B b i ≤ 4 ∧ cS (plusB B d) b' i ≤ 4) := fun i hi => ⟨HBG.out.cS4 HG.out i hi, HBB'.out.cS4 hGo i hi⟩
          have hw1 : IntKind.i64.wrap ((sn : Int) + (pn : Int)) = (q : Int) := by rw [IntWalk.i64_in _ (by omega)]; omega
          clear hvo hGo hrk hm hb' hq
          go_wp2_with (first
            | (go_at_call 15; refine (kMost_any wF.heap.size _ (plusB B d) _ (HBo.out.go HBC.out)).mono ?_; rw [HMo.out]; rintro e wG ⟨rfl, hbG⟩; have HBG1 := Lib.hid (bel HBC.out hbG); clear cC; have cG1 := (old_of HBG1.out).1; clear hbG)
            | (go_at_call 16; refine (kBest_any wF.heap.size _ (plusB B d) _ (HBo.out.go HBG1.out)).mono ?_; rw [HEo.out]; rintro e wH ⟨vH, rfl, hoH, hbH⟩; replace hoH : OwnI wG.heap.size wH vH (cntL (plusB B d) b') := hoH; have hiH := own_list hoH HCo.out (by omega); obtain ⟨aH, zH, rfl⟩ : ∃ a c, vH = .slice a B.ns c := (by obtain ⟨ao, cp, e, _⟩ := hiH; exact ⟨ao, cp, e⟩); have HIH := Lib.hid hiH; clear hoH hiH; (try clear cG1); have HBH := Lib.hid (bel HBG1.out hbH); have cH := (old_of HBH.out).1; clear hbH)
            | (go_at_call 20; refine (better_any w7.heap.size wH.heap.size _ _ B.ns (cS B b) (cS (plusB B d) b') _ (HIB.out.mono (HBH.out.mono h7B) (Nat.le_refl _)) HIH.out HC4.out).mono ?_; rw [HRK.out]; rintro e wI ⟨rfl, hbI⟩; (try clear cH); have HBI := Lib.hid (bel HBH.out hbI); have cI := (old_of HBI.out).1; clear hbI))
          go_meet
          exact HBI
    case rest =>
    obtain ⟨wu', hwu⟩ : ∃ wu, wu = wc := ⟨_, rfl⟩
    subst hwu
    have HBU : Hid (Below wp.heap.size wp wu') := bel HBB.out hcut.out
    have HZU := Lib.hid ((hcut.out.block o hoB).trans HZB.out)
    have hoU : o < wu'.heap.size := heap_lt HZU.out
    have cU := (old_of HBU.out).1
    clear x0 x1 x2 hcut HBC HBo HIB HZB HBB h7B hoB HRO
    go_upto_region 25 with (go_at_call 26; refine (copyT_any N _ B _ (HBK.out.go HBU.out) (by omega) (by omega) (by omega)).mono ?_; rintro e wD ⟨vD, rfl, hoD, hbD⟩; obtain ⟨u1, u2, u3, rfl, i1, i2, i3⟩ := hoD; obtain ⟨b7, d7, rfl⟩ := i1.form; obtain ⟨b8, d8, rfl⟩ := i2.form; obtain ⟨b9, d9, rfl⟩ := i3.form; have HJ1 := Lib.hid i1; have HJ2 := Lib.hid i2; have HJ3 := Lib.hid i3; have HUD := Lib.hid hbD; clear i1 i2 i3; have HZD := Lib.hid ((hbD.block o hoU).trans HZU.out); (try clear cU); have HBD := Lib.hid (bel HBU.out hbD); have cD := (old_of HBD.out).1; clear hbD; clear cD; have x0 := cell_blk HZD.out 0 rfl; have x1 := cell_blk HZD.out 1 rfl; have x2 := cell_blk HZD.out 2 rfl; have f0 := free_blk HZD.out 0; have f1 := free_blk HZD.out 1; have f2 := free_blk HZD.out 2)
    obtain ⟨wE', hwE, hzE, hoE, hbE⟩ := put3o HZD.out (.slice b7 B.ns d7) (.slice b8 B.ng d8) (.slice b9 B.nw d9)
    rw [hwE]
    have HK1 := Lib.hid (HJ1.out.keep fun g hg _ => hoE g (by omega))
    have HK2 := Lib.hid (HJ2.out.keep fun g hg _ => hoE g (by omega))
    have HK3 := Lib.hid (HJ3.out.keep fun g hg _ => hoE g (by omega))
    have HBE' : Hid (Below wp.heap.size wp wE') := HBD.out.trans (hbE.mono hop)
    have hUE : wu'.heap.size ≤ wE'.heap.size := Nat.le_trans HUD.out.size hbE.size
    have HZE := Lib.hid hzE
    have HWE := Lib.hid ((HBE'.out.block p hpw).trans HW.out)
    have hpwE := heap_lt HWE.out
    have hLp : wp.heap.size ≤ wu'.heap.size := HBU.out.size
    clear x0 x1 x2 f0 f1 f2 hwE hzE hoE hbE HJ1 HJ2 HJ3 HZD HBD HUD HZU HBU
    have x0 := cell_blk HZE.out 0 rfl
    have x1 := cell_blk HZE.out 1 rfl
    have x2 := cell_blk HZE.out 2 rfl
    have y0 := cell_blk HWE.out 0 rfl
    have y1 := cell_blk HWE.out 1 rfl
    obtain ⟨L3, hL3⟩ : ∃ L, wu'.heap.size = L := ⟨_, rfl⟩
    rw [hL3] at HK1 HK2 HK3 hUE hLp hoU
    clear hL3
    obtain ⟨wJ, hwJ, HBJ, hszJ, hblkJ⟩ := box1 wE' (.cells #[.int .i64 wa, .int .i64 wt] 43)
    go_upto_region 26 with (at_builtin; refine wpList_appendW _ rfl _ _ rfl rfl L3 _ B.nw wE'.heap.size B.G B.S wa wt rfl rfl (HK3.out.grow HBJ.out) (by omega) hblkJ (Nat.le_trans hUE HBJ.out.size) ?_; intro v' wK hpK hbK hkK; obtain ⟨a9, c9, rfl⟩ := hpK.form; have HPK := Lib.hid hpK; have hzJ := (HBJ.out.block o (heap_lt HZE.out)).trans HZE.out; have hzK := (hkK o _ _ (by decide) hzJ).trans hzJ; have HK1K := Lib.hid ((HK1.out.grow HBJ.out).turn fun k cur hk => hkK k cur _ (by decide) hk); have HK2K := Lib.hid ((HK2.out.grow HBJ.out).turn fun k cur hk => hkK k cur _ (by decide) hk); have HBK3 : Hid (Below wp.heap.size wp wK) := Lib.hid (Below.trans (bel HBE'.out HBJ.out) (hbK.mono hLp)); have HZK := Lib.hid hzK; clear hzJ hzK hpK hbK hkK x0 x1 x2; have x0 := cell_blk HZK.out 0 rfl; have x1 := cell_blk HZK.out 1 rfl; have x2 := cell_blk HZK.out 2 rfl; have f2 := free_blk HZK.out 2)
    obtain ⟨wL, hwL⟩ : ∃ wL, wK.setCell ⟨o, 2, none⟩ (.slice a9 (B.nw + 1) c9) = wL := ⟨_, rfl⟩
    have hZL0 := blk_set HZK.out 2 (.slice a9 (B.nw + 1) c9)
    rw [hwL] at hZL0
    (try rw [hwL])
    have hoL : ∀ k, k ≠ o → wL.heap[k]? = wK.heap[k]? := fun k hk => by rw [← hwL]; exact Below.heap_setCell _ _ _ _ (by exact hk)
    have hbL : Below o wK wL := by rw [← hwL]; exact (Below.refl o wK).setCell (p := ⟨o, 2, none⟩) (Nat.le_refl _) _
    have HZL : Hid (wL.heap[o]? = some (.cells #[.slice b7 B.ns d7, .slice b8 B.ng d8, .slice a9 (B.nw + 1) c9] 26)) := hZL0
    have HBL : Hid (Below wp.heap.size wp wL) := HBK3.out.trans (hbL.mono hop)
    have HBo : Hid (BookAt wL.heap.size wL (.agg #[.slice b7 B.ns d7, .slice b8 B.ng d8, .slice a9 (B.nw + 1) c9]) (moreW B wa wt)) :=
      ⟨Nat.le_refl _, b7, d7, b8, d8, a9, c9, rfl, (HK1K.out.keep fun g hg _ => hoL g (by omega)).ints (show B.ns ≤ 1000 by omega), (HK2K.out.keep fun g hg _ => hoL g (by omega)).pairs (show B.ng ≤ 1000 by omega), (HPK.out.keep fun g hg _ => hoL g (by omega)).pairs (show B.nw + 1 ≤ 1000 by omega)⟩
    have hoLs : o < wL.heap.size := heap_lt HZL.out
    have hsL : w.heap.size < wL.heap.size := Nat.lt_of_lt_of_le hsz HBL.out.size
    have r0 := (HBL.out.cell (p := ⟨w.heap.size, 0, none⟩) hsz).trans q0
    have r1 := (HBL.out.cell (p := ⟨w.heap.size, 1, none⟩) hsz).trans q1
    have r2 := (HBL.out.cell (p := ⟨w.heap.size, 2, none⟩) hsz).trans q2
    clear x0 x1 x2 f2 hwL hZL0 hoL hbL HK1K HK2K HPK HZK HBK3 y0 y1 HK1 HK2 HK3 hwJ hblkJ HBJ HZE HWE q0 q1 q2
    have x0 := cell_blk HZL.out 0 rfl
    have x1 := cell_blk HZL.out 1 rfl
    have x2 := cell_blk HZL.out 2 rfl
    have HBLz : Hid (Below wL.heap.size wL wL) := Below.refl _ _
    have cLz := (old_of HBLz.out).1
    have HBKL := Lib.hid (HBK.out.go HBL.out)
    cases hro : readyL (moreW B wa wt) with
    | false =>
      have HRO := Lib.hid hro
      clear hro
      go_wp2_with (first
        | (go_at_call 12; refine (ready_any wL.heap.size _ (moreW B wa wt) _ HBo.out).mono ?_; rw [HRO.out]; rintro e wM ⟨rfl, hbM⟩; (try clear cLz); have HBM := Lib.hid (bel HBLz.out hbM); have cM := (old_of HBM.out).1; clear hbM)
        | (go_at_call 14; refine (works_any _).mono ?_; rintro e wN ⟨rfl, hbN⟩; (try clear cM); have HBN := Lib.hid (bel HBM.out hbN); have cN := (old_of HBN.out).1; clear hbN))
      go_ret
      exact ⟨rfl, fin HBE.out (bel HBL.out HBN.out)⟩
    | true =>
      have HRO := Lib.hid hro
      have hvo : okL (moreW B wa wt) = true := by unfold readyL at hro; rw [Bool.and_eq_true] at hro; exact hro.2
      have hGo := goodL hvo
      have hm := moreW_sum HG.out hGo
      have hf := moreW_safe HG.out hGo
      have hal := moreW_alone HG.out hGo t
      rw [HSN.out] at hm
      rw [HFN.out] at hf
      rw [HAN.out] at hal
      have hs := HIS.out
      obtain ⟨m', hm'⟩ : ∃ z, sumN (moreW B wa wt) = z := ⟨_, rfl⟩
      obtain ⟨f', hf'⟩ : ∃ z, safeN (moreW B wa wt) = z := ⟨_, rfl⟩
      obtain ⟨al, hal'⟩ : ∃ z, aloneN (moreW B wa wt) t = z := ⟨_, rfl⟩
      rw [hm'] at hm
      rw [hf'] at hf
      rw [hal'] at hal
      have HMo : Hid (eNum (moreW B wa wt) (sumN (moreW B wa wt)) = ((m' : Int), 0)) := by unfold Hid eNum; rw [hvo, hm']; rfl
      have HSo : Hid (eNum (moreW B wa wt) (safeN (moreW B wa wt)) = ((f' : Int), 0)) := by unfold Hid eNum; rw [hvo, hf']; rfl
      have HAo : Hid (eAlone (moreW B wa wt) t = ((al : Int), 0)) := by
        unfold Hid eAlone
        rw [hvo, show (decide ((0 : Int) ≤ (t : Int)) && decide ((t : Int) < ((moreW B wa wt).ns : Int))) = true from hs, Int.toNat_natCast]
        show (((aloneN (moreW B wa wt) t : Nat) : Int), (0 : Int)) = _
        rw [hal']
      have t1 : (sn : Int) ≤ (m' : Int) := by omega
      have t2 : (fn : Int) ≤ (f' : Int) := by omega
      have t3 : (an : Int) ≤ (al : Int) := by omega
      clear hro hvo hGo hm hf hal hs hm' hf' hal'
      go_wp2_with (first
        | (go_at_call 12; refine (ready_any wL.heap.size _ (moreW B wa wt) _ HBo.out).mono ?_; rw [HRO.out]; rintro e wM ⟨rfl, hbM⟩; (try clear cLz); have HBM := Lib.hid (bel HBLz.out hbM); have cM := (old_of HBM.out).1; clear hbM)
        | (go_at_call 15; refine (kMost_any wL.heap.size _ (moreW B wa wt) _ (HBo.out.go HBM.out)).mono ?_; rw [HMo.out]; rintro e wN ⟨rfl, hbN⟩; (try clear cM); have HBN := Lib.hid (bel HBM.out hbN); have cN := (old_of HBN.out).1; clear hbN)
        | (go_at_call 17; refine (kSafe_any wL.heap.size _ (moreW B wa wt) _ (HBo.out.go HBN.out)).mono ?_; rw [HSo.out]; rintro e wO ⟨rfl, hbO⟩; (try clear cN); have HBO := Lib.hid (bel HBN.out hbO); have cO := (old_of HBO.out).1; clear hbO)
        | (go_at_call 22; have hx1 := HA1; clear HA1; refine (kAlone_any N _ B _ _ (HBKL.out.go HBO.out)).mono ?_; rw [hx1.out]; rintro e wQ ⟨rfl, hbQ⟩; (try clear cO); have HBQ := Lib.hid (bel HBO.out hbQ); have cQ := (old_of HBQ.out).1; clear hbQ)
        | (go_at_call 22; refine (kAlone_any wL.heap.size _ (moreW B wa wt) _ _ (HBo.out.go HBQ.out)).mono ?_; rw [HAo.out]; rintro e wR ⟨rfl, hbR⟩; (try clear cQ); have HBR := Lib.hid (bel HBQ.out hbR); have cR := (old_of HBR.out).1; clear hbR)
        | (go_at_call 14; refine (works_any _).mono ?_; rintro e wS ⟨rfl, hbS⟩; (try clear cR); have HBS := Lib.hid (bel HBR.out hbS); have cS := (old_of HBS.out).1; clear hbS))
      go_ret
      exact ⟨rfl, fin HBE.out (bel HBL.out HBS.out)⟩

end Go.Proofs.Ytnnngbnimmcjiaa
