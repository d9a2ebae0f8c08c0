/-
  Copy: the reference's copy of a list of scions.
-/
import Derived.Test.YtnnngbnimmcjiaaRFits
import Derived.Test.YtnnngbnimmcjiaaWithout
import Derived.ArgAppend
namespace Go.Proofs.Ytnnngbnimmcjiaa
open Go.RowKit

/-- numbers in a block of the call's own, from lo on -/
def IB (lo : Nat) (W : World) (v : Value) (n : Nat) (x : Nat → Int) : Prop :=
  (n = 0 ∧ ∃ a c, v = .slice a 0 c) ∨ (0 < n ∧ ∃ g cap cur t, v = .slice (some ⟨g, 0, none⟩) n cap ∧ lo ≤ g ∧ n ≤ cap ∧ W.heap[g]? = some (.cells cur t) ∧ ∀ i, i < n → cur[i]? = some (.int .i64 (x i)))
theorem fromF_get {n : Nat} {x : Nat → Int} {i : Nat} (hi : i < n) : ((fromF n x).map (Value.int .i64))[i]? = some (.int .i64 (x i)) := by
  rw [List.getElem?_map]; simp [fromF, hi]
theorem IB.of_own {lo : Nat} {W : World} {e : TypeId} {v : Value} {n : Nat} {x : Nat → Int} (h : W.ownsRow lo e 1 v n ((fromF n x).map (Value.int .i64))) : IB lo W v n x := by
  obtain ⟨_, ⟨rfl, h2⟩ | ⟨g, cap, cur, rfl, h3, h4, h5, h6, h7, h8⟩⟩ := h
  · exact .inl ⟨h2, none, 0, rfl⟩
  · rcases Nat.eq_zero_or_pos n with h0 | h0
    · exact .inl ⟨h0, _, _, by rw [h0]⟩
    · refine .inr ⟨h0, g, cap, cur, e, rfl, h3, h5, h4, fun i hi => ?_⟩
      have g1 := fromF_get (x := x) hi
      rw [← h8, List.getElem?_take_of_lt (by omega), Array.getElem?_toList] at g1
      exact g1
theorem IB.ints {lo : Nat} {W : World} {v : Value} {n : Nat} {x : Nat → Int} (h : IB lo W v n x) (hn : n ≤ 1000) : IntsAt W.heap.size W v n x := by
  rcases h with ⟨rfl, a, c, rfl⟩ | ⟨h0, g, cap, cur, t, rfl, h1, h2, h3, h4⟩
  · exact ⟨a, c, rfl, by omega, fun h => absurd h (Nat.lt_irrefl 0)⟩
  · exact ⟨_, cap, rfl, by omega, fun _ => ⟨g, 0, rfl, heap_lt h3, fun i hi => ⟨_, by rw [Nat.zero_add]; exact cell_blk h3 _ (h4 i hi), rfl⟩⟩⟩
theorem IB.form {lo : Nat} {W : World} {v : Value} {n : Nat} {x : Nat → Int} (h : IB lo W v n x) : ∃ a c, v = .slice a n c := by
  rcases h with ⟨rfl, a, c, rfl⟩ | ⟨h0, g, cap, cur, t, rfl, _⟩
  · exact ⟨a, c, rfl⟩
  · exact ⟨_, _, rfl⟩
theorem IB.keep {lo : Nat} {W W' : World} {v : Value} {n : Nat} {x : Nat → Int} (h : IB lo W v n x) (hk : ∀ g, lo ≤ g → g < W.heap.size → W'.heap[g]? = W.heap[g]?) : IB lo W' v n x := by
  rcases h with h | ⟨h0, g, cap, cur, t, rfl, h1, h2, h3, h4⟩
  · exact .inl h
  · exact .inr ⟨h0, g, cap, cur, t, rfl, h1, h2, (hk g h1 (heap_lt h3)).trans h3, h4⟩
theorem IB.lower {lo lo' : Nat} {W : World} {v : Value} {n : Nat} {x : Nat → Int} (h : IB lo W v n x) (hl : lo' ≤ lo) : IB lo' W v n x := by
  rcases h with h | ⟨h0, g, cap, cur, t, rfl, h1, h2⟩
  · exact .inl h
  · exact .inr ⟨h0, g, cap, cur, t, rfl, Nat.le_trans hl h1, h2⟩
theorem PB.lower {lo lo' : Nat} {W : World} {v : Value} {n : Nat} {x y : Nat → Int} (h : PB lo W v n x y) (hl : lo' ≤ lo) : PB lo' W v n x y := by
  rcases h with h | ⟨h0, g, cap, cur, t, rfl, h1, h2⟩
  · exact .inl h
  · exact .inr ⟨h0, g, cap, cur, t, rfl, Nat.le_trans hl h1, h2⟩
theorem IB.grow {lo : Nat} {W W' : World} {v : Value} {n : Nat} {x : Nat → Int} (h : IB lo W v n x) (hb : Below W.heap.size W W') : IB lo W' v n x := h.keep fun g _ hg => hb.block g hg
theorem PB.grow {lo : Nat} {W W' : World} {v : Value} {n : Nat} {x y : Nat → Int} (h : PB lo W v n x y) (hb : Below W.heap.size W W') : PB lo W' v n x y := h.keep fun g _ hg => hb.block g hg

/-- a list of scions in memory of the call's own -/
def OwnB (lo : Nat) (W : World) (v : Value) (B : SB) : Prop :=
  ∃ v1 v2 v3, v = .agg #[v1, v2, v3] ∧ IB lo W v1 B.ns B.C ∧ PB lo W v2 B.ng B.P B.F ∧ PB lo W v3 B.nw B.G B.S
theorem OwnB.book {lo : Nat} {W : World} {v : Value} {B : SB} (h : OwnB lo W v B) (h1 : B.ns ≤ 1000) (h2 : B.ng ≤ 1000) (h3 : B.nw ≤ 1000) : BookAt W.heap.size W v B := by
  obtain ⟨v1, v2, v3, rfl, i1, i2, i3⟩ := h
  obtain ⟨a1, c1, rfl⟩ := i1.form
  obtain ⟨a2, c2, rfl⟩ := i2.form
  obtain ⟨a3, c3, rfl⟩ := i3.form
  exact ⟨Nat.le_refl _, a1, c1, a2, c2, a3, c3, rfl, i1.ints h1, i2.pairs h2, i3.pairs h3⟩

theorem append_zero (w : World) {P : Program} {t ty e : TypeId} {i : TypeInfo} (ht : P.underlying t = some (.slice e)) (hi : P.info? e = some i) (b : Addr) (A : Option Addr) (c : Nat) :
    (Builtin.append_ #[t, t] ty #[.slice (some b) 0 0, .slice A 0 c]).run P w = .ok (.slice (some b) 0 0) w := by
  cases A <;> simp [Builtin.append_, run_underlying ht, sizeOf, typeInfo, hi, Builtin.lenOf, Builtin.firstCells, storeCells, loadCells, loadCellsFrom]

theorem cloneI_run (N : Nat) (w : World) (g0 : Nat) (A : Option Addr) (m c : Nat) (x : Nat → Int) (hi : IntsAt N w (.slice A m c) m x) (hN : N ≤ w.heap.size) (h40 : m ≤ 1000000) :
    ∃ v' w', (Builtin.append_ #[22, 22] 22 #[.slice (some ⟨g0, 0, none⟩) 0 0, .slice A m c]).run Try.prog w = .ok v' w' ∧ IB w.heap.size w' v' m x ∧ Below w.heap.size w w' := by
  obtain ⟨i0, hi0, hz0, hz1, hz2⟩ := info_parts Try.infoInt
  obtain ⟨_, _, e, hm, hc⟩ := hi
  cases e
  rcases Nat.eq_zero_or_pos m with h0 | h0
  · subst h0
    exact ⟨_, _, append_zero _ Try.underlying22 hi0 _ _ _, .inl ⟨rfl, _, _, rfl⟩, Below.refl _ _⟩
  · obtain ⟨b, off, rfl, hb, hr⟩ := hc h0
    obtain ⟨v', w', hrun, hown, hgrow⟩ := run_append_arg_grows (P := Try.prog) w 22 22 3 i0 (.int .i64 0) 1 8 Try.underlying22 hi0 hz0 hz1 hz2 rfl (by decide) ⟨g0, 0, none⟩ 0 0 [] rfl (fun j u hj => by simp at hj)
      ⟨b, off, none⟩ m c ((fromF m x).map (Value.int .i64)) (by simp [fromF])
      (fun j u hj => by
        have hjm : j < m := by
          have := (List.getElem?_eq_some_iff.1 hj).1
          simpa [fromF] using this
        obtain ⟨r, h1, rfl⟩ := hr j hjm
        rw [fromF_get hjm] at hj
        cases hj
        have e : (⟨b, off, none⟩ : Addr).add j = ⟨b, off + j, none⟩ := by unfold Addr.add; split <;> simp_all
        rw [e]
        exact h1)
      (by omega) (by unfold maxLen; omega) (by omega)
    rw [Nat.zero_add, List.nil_append] at hown
    exact ⟨v', w', hrun, .of_own hown, (Below.refl _ _).grown hgrow (Nat.le_refl _) (fun k e => by cases e)⟩

theorem wp_cloneI (w : World) {o : Oper} {a : Act} {K : Act → World → Prop} {Q : Exit → Act → World → Prop} (s x : Operand)
    (ho : o.op = .call { callee := .builtin .append, args := #[s, x], argTypes := #[22, 22] }) (hty : o.type = 22)
    (N g : Nat) (A : Option Addr) (m c : Nat) (X : Nat → Int) (hs : a.eval s = .slice (some ⟨g, 0, none⟩) 0 0) (hx : a.eval x = .slice A m c)
    (hi : IntsAt N w (.slice A m c) m X) (hN : N ≤ w.heap.size) (h40 : m ≤ 1000000)
    (h : ∀ v' w', IB w.heap.size w' v' m X → Below w.heap.size w w' → K (a.put o.dst v') w') : o.wp Try.prog a w K Q := by
  obtain ⟨v', w', hrun, r1, r2⟩ := cloneI_run N w g A m c X hi hN h40
  unfold Oper.wp
  simp [execOp, ho, resolve, invoke, builtin, hs, hx, hty, hrun, Result.andThen]
  exact h v' w' r1 r2

theorem cloneG_run (N : Nat) (w : World) (g0 : Nat) (A : Option Addr) (m c : Nat) (x y : Nat → Int) (hi : PairsAt N w (.slice A m c) m x y) (hN : N ≤ w.heap.size) (h40 : m ≤ 1000000) :
    ∃ v' w', (Builtin.append_ #[23, 23] 23 #[.slice (some ⟨g0, 0, none⟩) 0 0, .slice A m c]).run Try.prog w = .ok v' w' ∧ PB w.heap.size w' v' m x y ∧ Below w.heap.size w w' := by
  obtain ⟨i0, hi0, hz0, hz1, hz2⟩ := info_parts Try.infoG
  obtain ⟨_, _, e, hm, _, hc⟩ := hi
  cases e
  rcases Nat.eq_zero_or_pos m with h0 | h0
  · subst h0
    exact ⟨_, _, append_zero _ Try.underlying23 hi0 _ _ _, .inl ⟨rfl, _, _, rfl⟩, Below.refl _ _⟩
  · obtain ⟨b, off, rfl, hb, hr⟩ := hc h0
    obtain ⟨v', w', hrun, hown, hgrow⟩ := run_append_arg_grows (P := Try.prog) w 23 23 49 i0 (.agg #[.int .i64 0, .int .i64 0]) 2 16 Try.underlying23 hi0 hz0 hz1 hz2 rfl (by decide) ⟨g0, 0, none⟩ 0 0 [] rfl (fun j u hj => by simp at hj)
      ⟨b, off, none⟩ m c (pairL m x y) (pairL_len m x y) (pairL_cell hr) (by omega) (by unfold maxLen; omega) (by omega)
    rw [Nat.zero_add, List.nil_append] at hown
    exact ⟨v', w', hrun, .of_own hown, (Below.refl _ _).grown hgrow (Nat.le_refl _) (fun k e => by cases e)⟩

theorem wp_cloneG (w : World) {o : Oper} {a : Act} {K : Act → World → Prop} {Q : Exit → Act → World → Prop} (s x : Operand)
    (ho : o.op = .call { callee := .builtin .append, args := #[s, x], argTypes := #[23, 23] }) (hty : o.type = 23)
    (N g : Nat) (A : Option Addr) (m c : Nat) (X Y : Nat → Int) (hs : a.eval s = .slice (some ⟨g, 0, none⟩) 0 0) (hx : a.eval x = .slice A m c)
    (hi : PairsAt N w (.slice A m c) m X Y) (hN : N ≤ w.heap.size) (h40 : m ≤ 1000000)
    (h : ∀ v' w', PB w.heap.size w' v' m X Y → Below w.heap.size w w' → K (a.put o.dst v') w') : o.wp Try.prog a w K Q := by
  obtain ⟨v', w', hrun, r1, r2⟩ := cloneG_run N w g A m c X Y hi hN h40
  unfold Oper.wp
  simp [execOp, ho, resolve, invoke, builtin, hs, hx, hty, hrun, Result.andThen]
  exact h v' w' r1 r2

theorem cloneW_run (N : Nat) (w : World) (g0 : Nat) (A : Option Addr) (m c : Nat) (x y : Nat → Int) (hi : PairsAt N w (.slice A m c) m x y) (hN : N ≤ w.heap.size) (h40 : m ≤ 1000000) :
    ∃ v' w', (Builtin.append_ #[24, 24] 24 #[.slice (some ⟨g0, 0, none⟩) 0 0, .slice A m c]).run Try.prog w = .ok v' w' ∧ PB w.heap.size w' v' m x y ∧ Below w.heap.size w w' := by
  obtain ⟨i0, hi0, hz0, hz1, hz2⟩ := info_parts Try.infoW
  obtain ⟨_, _, e, hm, _, hc⟩ := hi
  cases e
  rcases Nat.eq_zero_or_pos m with h0 | h0
  · subst h0
    exact ⟨_, _, append_zero _ Try.underlying24 hi0 _ _ _, .inl ⟨rfl, _, _, rfl⟩, Below.refl _ _⟩
  · obtain ⟨b, off, rfl, hb, hr⟩ := hc h0
    obtain ⟨v', w', hrun, hown, hgrow⟩ := run_append_arg_grows (P := Try.prog) w 24 24 43 i0 (.agg #[.int .i64 0, .int .i64 0]) 2 16 Try.underlying24 hi0 hz0 hz1 hz2 rfl (by decide) ⟨g0, 0, none⟩ 0 0 [] rfl (fun j u hj => by simp at hj)
      ⟨b, off, none⟩ m c (pairL m x y) (pairL_len m x y) (pairL_cell hr) (by omega) (by unfold maxLen; omega) (by omega)
    rw [Nat.zero_add, List.nil_append] at hown
    exact ⟨v', w', hrun, .of_own hown, (Below.refl _ _).grown hgrow (Nat.le_refl _) (fun k e => by cases e)⟩

theorem wp_cloneW (w : World) {o : Oper} {a : Act} {K : Act → World → Prop} {Q : Exit → Act → World → Prop} (s x : Operand)
    (ho : o.op = .call { callee := .builtin .append, args := #[s, x], argTypes := #[24, 24] }) (hty : o.type = 24)
    (N g : Nat) (A : Option Addr) (m c : Nat) (X Y : Nat → Int) (hs : a.eval s = .slice (some ⟨g, 0, none⟩) 0 0) (hx : a.eval x = .slice A m c)
    (hi : PairsAt N w (.slice A m c) m X Y) (hN : N ≤ w.heap.size) (h40 : m ≤ 1000000)
    (h : ∀ v' w', PB w.heap.size w' v' m X Y → Below w.heap.size w w' → K (a.put o.dst v') w') : o.wp Try.prog a w K Q := by
  obtain ⟨v', w', hrun, r1, r2⟩ := cloneW_run N w g A m c X Y hi hN h40
  unfold Oper.wp
  simp [execOp, ho, resolve, invoke, builtin, hs, hx, hty, hrun, Result.andThen]
  exact h v' w' r1 r2

theorem resL {fn : Func} {p : Tmp} (hf : fn.results = #[.cell p 26]) {tmps : Array Value} {W : World} {g : Nat} {t : TypeId} {y0 y1 y2 : Value} (hp : tmps.getD p undef = .pointer (some ⟨g, 0, none⟩))
    (h : W.heap[g]? = some (.cells #[y0, y1, y2] t)) : (results fn tmps).run Try.prog W = .ok (.agg #[y0, y1, y2]) W :=
  results_cell_row hf tmps W g t #[y0, y1, y2] (0, 0) _ hp h Try.underlying26 rfl (by kernel_rfl)

theorem copy_end {B : SB} {w ws wc wn : World} {d1 d2 d3 : Option Addr} {e1 e2 e3 : Nat} (hB : Below w.heap.size w ws) (hsz1 : w.heap.size + 1 < ws.heap.size) (hc : Below ws.heap.size ws wc)
    (h1 : IB ws.heap.size wc (.slice d1 B.ns e1) B.ns B.C) (h2 : PB ws.heap.size wc (.slice d2 B.ng e2) B.ng B.P B.F) (h3 : PB ws.heap.size wc (.slice d3 B.nw e3) B.nw B.G B.S)
    (hn : Below (w.heap.size + 1) ws wn) (ho : ∀ k, k ≠ w.heap.size + 1 → wn.heap[k]? = wc.heap[k]?) :
    OwnB w.heap.size wn (.agg #[.slice d1 B.ns e1, .slice d2 B.ng e2, .slice d3 B.nw e3]) B ∧ Below w.heap.size w wn := by
  have hk : ∀ g, ws.heap.size ≤ g → g < wc.heap.size → wn.heap[g]? = wc.heap[g]? := fun g hg _ => ho g (by omega)
  exact ⟨⟨_, _, _, rfl, (h1.keep hk).lower hB.size, (h2.keep hk).lower hB.size, (h3.keep hk).lower hB.size⟩, hB.trans (hn.mono (Nat.le_succ _))⟩

set_option maxHeartbeats 12800000 in
set_option maxRecDepth 100000 in
theorem copy_any (N : Nat) (v : Value) (B : SB) (w : World) (h : BookAt N w v B) (h40s : B.ns ≤ 1000000) (h40g : B.ng ≤ 1000000) (h40w : B.nw ≤ 1000000) :
    Calls Try.prog 26 #[v] w fun e w' => ∃ v', e = .returned v' ∧ OwnB w.heap.size w' v' B ∧ Below w.heap.size w w' := by
  obtain ⟨a1, z1, a2, z2, a3, z3, rfl⟩ := h.form
  obtain ⟨ws, hws, HB, hsz, hsz1, hblk, hblk1⟩ := box2 w (.cells #[.slice a1 B.ns z1, .slice a2 B.ng z2, .slice a3 B.nw z3] 26) (.cells #[.slice none 0 0, .slice none 0 0, .slice none 0 0] 26)
  have q0 := cell_blk hblk 0 rfl
  have q1 := cell_blk hblk 1 rfl
  have q2 := cell_blk hblk 2 rfl
  have HBK := Lib.hid (h.go HB.out)
  have HNS : Hid (N ≤ ws.heap.size) := HBK.out.1
  have HR1 := Lib.hid hblk1
  have hn1 : w.heap.size + 1 ≤ ws.heap.size := by omega
  have hn0 : w.heap.size < w.heap.size + 1 := by omega
  have HBc : Hid (Below ws.heap.size ws ws.drew) := (Below.refl _ _).drew
  have S0d := old_of (HBc.out.mono hn1)
  clear hblk hblk1 h
  go_enter Try.func26, Try.ntmps26
  go_upto_region 1 with fail
  clear hws
  refine wp_region_held_drew (S := fun w' => (∀ b o, b < w.heap.size + 1 → w'.cell? ⟨b, o, none⟩ = ws.cell? ⟨b, o, none⟩) ∧ Hid (Below (w.heap.size + 1) ws w')) (by kernel_rfl) S0d (fun hHeld => ?_)
  (refine wpAnyH_take (i := 1) (v := ?_) rfl (by kernel_rfl) (by kernel_rfl) (by kernel_rfl) (fun _ _ _ h => h) (Or.inl ⟨by rfl, ?_⟩) (by assumption) ?_; rotate_left; (focus (intro w hSw; (try dsimp only at hSw); go_simp; (try with_reducible rfl))); (try simp only [List.getElem_toArray, List.getElem_cons_zero, List.getElem_cons_succ, Act.put, List.setIfInBounds_toArray, List.set_cons_zero, List.set_cons_succ])); (refine wpAnyH_take (i := 2) (v := ?_) rfl (by kernel_rfl) (by kernel_rfl) (by kernel_rfl) (fun _ _ _ h => h) (Or.inl ⟨by rfl, ?_⟩) (by assumption) ?_; rotate_left; (focus (intro w hSw; (try dsimp only at hSw); go_simp; (try with_reducible rfl))); (try simp only [List.getElem_toArray, List.getElem_cons_zero, List.getElem_cons_succ, Act.put, List.setIfInBounds_toArray, List.set_cons_zero, List.set_cons_succ]))
  (refine wpAnyH_take (i := 5) (v := ?_) rfl (by kernel_rfl) (by kernel_rfl) (by kernel_rfl) (fun _ _ _ h => h) (Or.inl ⟨by rfl, ?_⟩) (by assumption) ?_; rotate_left; (focus (intro w hSw; (try dsimp only at hSw); go_simp; (try with_reducible rfl))); (try simp only [List.getElem_toArray, List.getElem_cons_zero, List.getElem_cons_succ, Act.put, List.setIfInBounds_toArray, List.set_cons_zero, List.set_cons_succ])); (refine wpAnyH_take (i := 6) (v := ?_) rfl (by kernel_rfl) (by kernel_rfl) (by kernel_rfl) (fun _ _ _ h => h) (Or.inl ⟨by rfl, ?_⟩) (by assumption) ?_; rotate_left; (focus (intro w hSw; (try dsimp only at hSw); go_simp; (try with_reducible rfl))); (try simp only [List.getElem_toArray, List.getElem_cons_zero, List.getElem_cons_succ, Act.put, List.setIfInBounds_toArray, List.set_cons_zero, List.set_cons_succ]))
  (refine wpAnyH_take (i := 9) (v := ?_) rfl (by kernel_rfl) (by kernel_rfl) (by kernel_rfl) (fun _ _ _ h => h) (Or.inl ⟨by rfl, ?_⟩) (by assumption) ?_; rotate_left; (focus (intro w hSw; (try dsimp only at hSw); go_simp; (try with_reducible rfl))); (try simp only [List.getElem_toArray, List.getElem_cons_zero, List.getElem_cons_succ, Act.put, List.setIfInBounds_toArray, List.set_cons_zero, List.set_cons_succ])); (refine wpAnyH_take (i := 10) (v := ?_) rfl (by kernel_rfl) (by kernel_rfl) (by kernel_rfl) (fun _ _ _ h => h) (Or.inl ⟨by rfl, ?_⟩) (by assumption) ?_; rotate_left; (focus (intro w hSw; (try dsimp only at hSw); go_simp; (try with_reducible rfl))); (try simp only [List.getElem_toArray, List.getElem_cons_zero, List.getElem_cons_succ, Act.put, List.setIfInBounds_toArray, List.set_cons_zero, List.set_cons_succ]))
  clear S0d
  obtain ⟨wc, hwc⟩ : ∃ w' : World, ws.drew = w' := ⟨_, rfl⟩
  rw [hwc] at HBc hHeld ⊢
  clear hwc
  refine wpAnyH_ready (rs := [0, 4, 8]) (by kernel_rfl) (by simp) ?_
  refine (AllReadyH.cons rfl (fun K hK => ?_) (AllReadyH.cons rfl (fun K hK => ?_) (AllReadyH.cons rfl (fun K hK => ?_) AllReadyH.nil)))
  · go_simp
    obtain ⟨wn, hwn⟩ : ∃ wn : World, wc.alloc (.cells #[] 3) = wn := ⟨_, rfl⟩
    rw [hwn]
    have hb : Below wc.heap.size wc wn := (by rw [← hwn]; exact below_alloc (Nat.le_refl _) _)
    clear hwn
    obtain ⟨g1, hg⟩ : ∃ g, wc.heap.size = g := ⟨_, rfl⟩
    rw [hg]
    clear hg
    replace HBc : Hid (Below ws.heap.size ws wn) := bel HBc.out hb
    clear hb
    have Sn := old_of (HBc.out.mono hn1)
    refine hK.out _ _ Sn (fun hHeld => ?_)
    clear hK K Sn
    (try simp only [List.getElem_toArray, List.getElem_cons_zero, List.getElem_cons_succ, Act.put, List.setIfInBounds_toArray, List.set_cons_zero, List.set_cons_succ])
    obtain ⟨wc, rfl⟩ : ∃ w' : World, w' = wn := ⟨_, rfl⟩
    refine wpAnyH_ready (rs := [3, 4, 8]) (by kernel_rfl) (by simp) ?_
    refine (AllReadyH.cons rfl (fun K hK => ?_) (AllReadyH.cons rfl (fun K hK => ?_) (AllReadyH.cons rfl (fun K hK => ?_) AllReadyH.nil)))
    · rw [if_pos (by rfl)]
      refine wp_cloneI _ (.tmp 3) (.tmp 5) ?_ ?_ N g1 _ B.ns _ B.C ?_ ?_ (HBK.out.go HBc.out).scions (Nat.le_trans HNS.out HBc.out.size) h40s ?_
      any_goals (exact rfl)
      intro v wn hrow hb
      obtain ⟨d1, e1, rfl⟩ := hrow.form
      have H1 := Lib.hid (hrow.lower HBc.out.size)
      clear hrow
      replace HBc : Hid (Below ws.heap.size ws wn) := bel HBc.out hb
      clear hb
      have Sn := old_of (HBc.out.mono hn1)
      refine hK.out _ _ Sn (fun hHeld => ?_)
      clear hK K Sn
      (try simp only [List.getElem_toArray, List.getElem_cons_zero, List.getElem_cons_succ, Act.put, List.setIfInBounds_toArray, List.set_cons_zero, List.set_cons_succ])
      obtain ⟨wc, rfl⟩ : ∃ w' : World, w' = wn := ⟨_, rfl⟩
      refine wpAnyH_ready (rs := [4, 8]) (by kernel_rfl) (by simp) ?_
      refine (AllReadyH.cons rfl (fun K hK => ?_) (AllReadyH.cons rfl (fun K hK => ?_) AllReadyH.nil))
      · go_simp
        obtain ⟨wn, hwn⟩ : ∃ wn : World, wc.alloc (.cells #[] 49) = wn := ⟨_, rfl⟩
        rw [hwn]
        have hb : Below wc.heap.size wc wn := (by rw [← hwn]; exact below_alloc (Nat.le_refl _) _)
        clear hwn
        obtain ⟨g2, hg⟩ : ∃ g, wc.heap.size = g := ⟨_, rfl⟩
        rw [hg]
        clear hg
        replace H1 := Lib.hid (H1.out.grow hb)
        replace HBc : Hid (Below ws.heap.size ws wn) := bel HBc.out hb
        clear hb
        have Sn := old_of (HBc.out.mono hn1)
        refine hK.out _ _ Sn (fun hHeld => ?_)
        clear hK K Sn
        (try simp only [List.getElem_toArray, List.getElem_cons_zero, List.getElem_cons_succ, Act.put, List.setIfInBounds_toArray, List.set_cons_zero, List.set_cons_succ])
        obtain ⟨wc, rfl⟩ : ∃ w' : World, w' = wn := ⟨_, rfl⟩
        refine wpAnyH_ready (rs := [7, 8]) (by kernel_rfl) (by simp) ?_
        refine (AllReadyH.cons rfl (fun K hK => ?_) (AllReadyH.cons rfl (fun K hK => ?_) AllReadyH.nil))
        · rw [if_pos (by rfl)]
          refine wp_cloneG _ (.tmp 7) (.tmp 9) ?_ ?_ N g2 _ B.ng _ B.P B.F ?_ ?_ (HBK.out.go HBc.out).gardens (Nat.le_trans HNS.out HBc.out.size) h40g ?_
          any_goals (exact rfl)
          intro v wn hrow hb
          obtain ⟨d2, e2, rfl⟩ := hrow.form
          have H2 := Lib.hid (hrow.lower HBc.out.size)
          clear hrow
          replace H1 := Lib.hid (H1.out.grow hb)
          replace HBc : Hid (Below ws.heap.size ws wn) := bel HBc.out hb
          clear hb
          have Sn := old_of (HBc.out.mono hn1)
          refine hK.out _ _ Sn (fun hHeld => ?_)
          clear hK K Sn
          (try simp only [List.getElem_toArray, List.getElem_cons_zero, List.getElem_cons_succ, Act.put, List.setIfInBounds_toArray, List.set_cons_zero, List.set_cons_succ])
          obtain ⟨wc, rfl⟩ : ∃ w' : World, w' = wn := ⟨_, rfl⟩
          refine wpAnyH_ready (rs := [8]) (by kernel_rfl) (by simp) ?_
          refine (AllReadyH.cons rfl (fun K hK => ?_) AllReadyH.nil)
          · go_simp
            obtain ⟨wn, hwn⟩ : ∃ wn : World, wc.alloc (.cells #[] 43) = wn := ⟨_, rfl⟩
            rw [hwn]
            have hb : Below wc.heap.size wc wn := (by rw [← hwn]; exact below_alloc (Nat.le_refl _) _)
            clear hwn
            obtain ⟨g3, hg⟩ : ∃ g, wc.heap.size = g := ⟨_, rfl⟩
            rw [hg]
            clear hg
            replace H1 := Lib.hid (H1.out.grow hb)
            replace H2 := Lib.hid (H2.out.grow hb)
            replace HBc : Hid (Below ws.heap.size ws wn) := bel HBc.out hb
            clear hb
            have Sn := old_of (HBc.out.mono hn1)
            refine hK.out _ _ Sn (fun hHeld => ?_)
            clear hK K Sn
            (try simp only [List.getElem_toArray, List.getElem_cons_zero, List.getElem_cons_succ, Act.put, List.setIfInBounds_toArray, List.set_cons_zero, List.set_cons_succ])
            obtain ⟨wc, rfl⟩ : ∃ w' : World, w' = wn := ⟨_, rfl⟩
            refine wpAnyH_ready (rs := [11]) (by kernel_rfl) (by simp) ?_
            refine (AllReadyH.cons rfl (fun K hK => ?_) AllReadyH.nil)
            · rw [if_pos (by rfl)]
              refine wp_cloneW _ (.tmp 11) (.tmp 13) ?_ ?_ N g3 _ B.nw _ B.G B.S ?_ ?_ (HBK.out.go HBc.out).wants (Nat.le_trans HNS.out HBc.out.size) h40w ?_
              any_goals (exact rfl)
              intro v wn hrow hb
              obtain ⟨d3, e3, rfl⟩ := hrow.form
              have H3 := Lib.hid (hrow.lower HBc.out.size)
              clear hrow
              replace H1 := Lib.hid (H1.out.grow hb)
              replace H2 := Lib.hid (H2.out.grow hb)
              replace HBc : Hid (Below ws.heap.size ws wn) := bel HBc.out hb
              clear hb
              have Sn := old_of (HBc.out.mono hn1)
              refine hK.out _ _ Sn (fun hHeld => ?_)
              clear hK K Sn
              (try simp only [List.getElem_toArray, List.getElem_cons_zero, List.getElem_cons_succ, Act.put, List.setIfInBounds_toArray, List.set_cons_zero, List.set_cons_succ])
              obtain ⟨wc, rfl⟩ : ∃ w' : World, w' = wn := ⟨_, rfl⟩
              (refine wpAnyH_take (i := 12) (v := ?_) rfl (by kernel_rfl) (by kernel_rfl) (by kernel_rfl) (fun _ _ _ h => h) (Or.inl ⟨by rfl, ?_⟩) (by assumption) ?_; rotate_left; (focus (intro w hSw; (try dsimp only at hSw); go_simp; (try with_reducible rfl))); (try simp only [List.getElem_toArray, List.getElem_cons_zero, List.getElem_cons_succ, Act.put, List.setIfInBounds_toArray, List.set_cons_zero, List.set_cons_succ]))
              refine wpAnyH_ready (rs := [13]) (by kernel_rfl) (by simp) ?_
              refine AllReadyH.cons rfl (fun K hK => ?_) AllReadyH.nil
              have hz := (HBc.out.block (w.heap.size + 1) hsz1).trans HR1.out
              have z0 := cell_blk hz 0 rfl
              have y0 := free_blk hz 0
              have z1 := cell_blk hz 1 rfl
              have y1 := free_blk hz 1
              have z2 := cell_blk hz 2 rfl
              have y2 := free_blk hz 2
              go_simp
              obtain ⟨wn, hw4, hg4, ho4, hb4⟩ := put3o hz (.slice d1 B.ns e1) (.slice d2 B.ng e2) (.slice d3 B.nw e3)
              rw [hw4]
              have HBn : Hid (Below (w.heap.size + 1) ws wn) := (HBc.out.mono hn1).trans hb4
              have Sn := old_of HBn.out
              refine hK.out _ _ Sn (fun hHeld => ?_)
              clear hK K Sn hHeld
              refine wpAnyH_done (by kernel_rfl) ?_ _
              clear z0 z1 z2 y0 y1 y2 hw4
              have HG4 := Lib.hid hg4
              have HO4 := Lib.hid ho4
              have hq := ho4 w.heap.size (by omega)
              clear hg4 ho4 hq hb4 hz
              go_wp2
              refine bodyPost_ret (v := .agg #[.slice d1 B.ns e1, .slice d2 B.ng e2, .slice d3 B.nw e3]) (resL rfl rfl HG4.out) rfl ?_
              exact ⟨_, rfl, copy_end HB.out hsz1 HBc.out H1.out H2.out H3.out HBn.out HO4.out⟩
        · go_simp
          obtain ⟨wn, hwn⟩ : ∃ wn : World, wc.alloc (.cells #[] 43) = wn := ⟨_, rfl⟩
          rw [hwn]
          have hb : Below wc.heap.size wc wn := (by rw [← hwn]; exact below_alloc (Nat.le_refl _) _)
          clear hwn
          obtain ⟨g3, hg⟩ : ∃ g, wc.heap.size = g := ⟨_, rfl⟩
          rw [hg]
          clear hg
          replace H1 := Lib.hid (H1.out.grow hb)
          replace HBc : Hid (Below ws.heap.size ws wn) := bel HBc.out hb
          clear hb
          have Sn := old_of (HBc.out.mono hn1)
          refine hK.out _ _ Sn (fun hHeld => ?_)
          clear hK K Sn
          (try simp only [List.getElem_toArray, List.getElem_cons_zero, List.getElem_cons_succ, Act.put, List.setIfInBounds_toArray, List.set_cons_zero, List.set_cons_succ])
          obtain ⟨wc, rfl⟩ : ∃ w' : World, w' = wn := ⟨_, rfl⟩
          refine wpAnyH_ready (rs := [7]) (by kernel_rfl) (by simp) ?_
          refine (AllReadyH.cons rfl (fun K hK => ?_) AllReadyH.nil)
          · rw [if_pos (by rfl)]
            refine wp_cloneG _ (.tmp 7) (.tmp 9) ?_ ?_ N g2 _ B.ng _ B.P B.F ?_ ?_ (HBK.out.go HBc.out).gardens (Nat.le_trans HNS.out HBc.out.size) h40g ?_
            any_goals (exact rfl)
            intro v wn hrow hb
            obtain ⟨d2, e2, rfl⟩ := hrow.form
            have H2 := Lib.hid (hrow.lower HBc.out.size)
            clear hrow
            replace H1 := Lib.hid (H1.out.grow hb)
            replace HBc : Hid (Below ws.heap.size ws wn) := bel HBc.out hb
            clear hb
            have Sn := old_of (HBc.out.mono hn1)
            refine hK.out _ _ Sn (fun hHeld => ?_)
            clear hK K Sn
            (try simp only [List.getElem_toArray, List.getElem_cons_zero, List.getElem_cons_succ, Act.put, List.setIfInBounds_toArray, List.set_cons_zero, List.set_cons_succ])
            obtain ⟨wc, rfl⟩ : ∃ w' : World, w' = wn := ⟨_, rfl⟩
            refine wpAnyH_ready (rs := [11]) (by kernel_rfl) (by simp) ?_
            refine (AllReadyH.cons rfl (fun K hK => ?_) AllReadyH.nil)
            · rw [if_pos (by rfl)]
              refine wp_cloneW _ (.tmp 11) (.tmp 13) ?_ ?_ N g3 _ B.nw _ B.G B.S ?_ ?_ (HBK.out.go HBc.out).wants (Nat.le_trans HNS.out HBc.out.size) h40w ?_
              any_goals (exact rfl)
              intro v wn hrow hb
              obtain ⟨d3, e3, rfl⟩ := hrow.form
              have H3 := Lib.hid (hrow.lower HBc.out.size)
              clear hrow
              replace H1 := Lib.hid (H1.out.grow hb)
              replace H2 := Lib.hid (H2.out.grow hb)
              replace HBc : Hid (Below ws.heap.size ws wn) := bel HBc.out hb
              clear hb
              have Sn := old_of (HBc.out.mono hn1)
              refine hK.out _ _ Sn (fun hHeld => ?_)
              clear hK K Sn
              (try simp only [List.getElem_toArray, List.getElem_cons_zero, List.getElem_cons_succ, Act.put, List.setIfInBounds_toArray, List.set_cons_zero, List.set_cons_succ])
              obtain ⟨wc, rfl⟩ : ∃ w' : World, w' = wn := ⟨_, rfl⟩
              (refine wpAnyH_take (i := 12) (v := ?_) rfl (by kernel_rfl) (by kernel_rfl) (by kernel_rfl) (fun _ _ _ h => h) (Or.inl ⟨by rfl, ?_⟩) (by assumption) ?_; rotate_left; (focus (intro w hSw; (try dsimp only at hSw); go_simp; (try with_reducible rfl))); (try simp only [List.getElem_toArray, List.getElem_cons_zero, List.getElem_cons_succ, Act.put, List.setIfInBounds_toArray, List.set_cons_zero, List.set_cons_succ]))
              refine wpAnyH_ready (rs := [13]) (by kernel_rfl) (by simp) ?_
              refine AllReadyH.cons rfl (fun K hK => ?_) AllReadyH.nil
              have hz := (HBc.out.block (w.heap.size + 1) hsz1).trans HR1.out
              have z0 := cell_blk hz 0 rfl
              have y0 := free_blk hz 0
              have z1 := cell_blk hz 1 rfl
              have y1 := free_blk hz 1
              have z2 := cell_blk hz 2 rfl
              have y2 := free_blk hz 2
              go_simp
              obtain ⟨wn, hw4, hg4, ho4, hb4⟩ := put3o hz (.slice d1 B.ns e1) (.slice d2 B.ng e2) (.slice d3 B.nw e3)
              rw [hw4]
              have HBn : Hid (Below (w.heap.size + 1) ws wn) := (HBc.out.mono hn1).trans hb4
              have Sn := old_of HBn.out
              refine hK.out _ _ Sn (fun hHeld => ?_)
              clear hK K Sn hHeld
              refine wpAnyH_done (by kernel_rfl) ?_ _
              clear z0 z1 z2 y0 y1 y2 hw4
              have HG4 := Lib.hid hg4
              have HO4 := Lib.hid ho4
              have hq := ho4 w.heap.size (by omega)
              clear hg4 ho4 hq hb4 hz
              go_wp2
              refine bodyPost_ret (v := .agg #[.slice d1 B.ns e1, .slice d2 B.ng e2, .slice d3 B.nw e3]) (resL rfl rfl HG4.out) rfl ?_
              exact ⟨_, rfl, copy_end HB.out hsz1 HBc.out H1.out H2.out H3.out HBn.out HO4.out⟩
      · go_simp
        obtain ⟨wn, hwn⟩ : ∃ wn : World, wc.alloc (.cells #[] 43) = wn := ⟨_, rfl⟩
        rw [hwn]
        have hb : Below wc.heap.size wc wn := (by rw [← hwn]; exact below_alloc (Nat.le_refl _) _)
        clear hwn
        obtain ⟨g3, hg⟩ : ∃ g, wc.heap.size = g := ⟨_, rfl⟩
        rw [hg]
        clear hg
        replace H1 := Lib.hid (H1.out.grow hb)
        replace HBc : Hid (Below ws.heap.size ws wn) := bel HBc.out hb
        clear hb
        have Sn := old_of (HBc.out.mono hn1)
        refine hK.out _ _ Sn (fun hHeld => ?_)
        clear hK K Sn
        (try simp only [List.getElem_toArray, List.getElem_cons_zero, List.getElem_cons_succ, Act.put, List.setIfInBounds_toArray, List.set_cons_zero, List.set_cons_succ])
        obtain ⟨wc, rfl⟩ : ∃ w' : World, w' = wn := ⟨_, rfl⟩
        refine wpAnyH_ready (rs := [4]) (by kernel_rfl) (by simp) ?_
        refine (AllReadyH.cons rfl (fun K hK => ?_) AllReadyH.nil)
        · go_simp
          obtain ⟨wn, hwn⟩ : ∃ wn : World, wc.alloc (.cells #[] 49) = wn := ⟨_, rfl⟩
          rw [hwn]
          have hb : Below wc.heap.size wc wn := (by rw [← hwn]; exact below_alloc (Nat.le_refl _) _)
          clear hwn
          obtain ⟨g2, hg⟩ : ∃ g, wc.heap.size = g := ⟨_, rfl⟩
          rw [hg]
          clear hg
          replace H1 := Lib.hid (H1.out.grow hb)
          replace HBc : Hid (Below ws.heap.size ws wn) := bel HBc.out hb
          clear hb
          have Sn := old_of (HBc.out.mono hn1)
          refine hK.out _ _ Sn (fun hHeld => ?_)
          clear hK K Sn
          (try simp only [List.getElem_toArray, List.getElem_cons_zero, List.getElem_cons_succ, Act.put, List.setIfInBounds_toArray, List.set_cons_zero, List.set_cons_succ])
          obtain ⟨wc, rfl⟩ : ∃ w' : World, w' = wn := ⟨_, rfl⟩
          refine wpAnyH_ready (rs := [7]) (by kernel_rfl) (by simp) ?_
          refine (AllReadyH.cons rfl (fun K hK => ?_) AllReadyH.nil)
          · rw [if_pos (by rfl)]
            refine wp_cloneG _ (.tmp 7) (.tmp 9) ?_ ?_ N g2 _ B.ng _ B.P B.F ?_ ?_ (HBK.out.go HBc.out).gardens (Nat.le_trans HNS.out HBc.out.size) h40g ?_
            any_goals (exact rfl)
            intro v wn hrow hb
            obtain ⟨d2, e2, rfl⟩ := hrow.form
            have H2 := Lib.hid (hrow.lower HBc.out.size)
            clear hrow
            replace H1 := Lib.hid (H1.out.grow hb)
            replace HBc : Hid (Below ws.heap.size ws wn) := bel HBc.out hb
            clear hb
            have Sn := old_of (HBc.out.mono hn1)
            refine hK.out _ _ Sn (fun hHeld => ?_)
            clear hK K Sn
            (try simp only [List.getElem_toArray, List.getElem_cons_zero, List.getElem_cons_succ, Act.put, List.setIfInBounds_toArray, List.set_cons_zero, List.set_cons_succ])
            obtain ⟨wc, rfl⟩ : ∃ w' : World, w' = wn := ⟨_, rfl⟩
            refine wpAnyH_ready (rs := [11]) (by kernel_rfl) (by simp) ?_
            refine (AllReadyH.cons rfl (fun K hK => ?_) AllReadyH.nil)
            · rw [if_pos (by rfl)]
              refine wp_cloneW _ (.tmp 11) (.tmp 13) ?_ ?_ N g3 _ B.nw _ B.G B.S ?_ ?_ (HBK.out.go HBc.out).wants (Nat.le_trans HNS.out HBc.out.size) h40w ?_
              any_goals (exact rfl)
              intro v wn hrow hb
              obtain ⟨d3, e3, rfl⟩ := hrow.form
              have H3 := Lib.hid (hrow.lower HBc.out.size)
              clear hrow
              replace H1 := Lib.hid (H1.out.grow hb)
              replace H2 := Lib.hid (H2.out.grow hb)
              replace HBc : Hid (Below ws.heap.size ws wn) := bel HBc.out hb
              clear hb
              have Sn := old_of (HBc.out.mono hn1)
              refine hK.out _ _ Sn (fun hHeld => ?_)
              clear hK K Sn
              (try simp only [List.getElem_toArray, List.getElem_cons_zero, List.getElem_cons_succ, Act.put, List.setIfInBounds_toArray, List.set_cons_zero, List.set_cons_succ])
              obtain ⟨wc, rfl⟩ : ∃ w' : World, w' = wn := ⟨_, rfl⟩
              (refine wpAnyH_take (i := 12) (v := ?_) rfl (by kernel_rfl) (by kernel_rfl) (by kernel_rfl) (fun _ _ _ h => h) (Or.inl ⟨by rfl, ?_⟩) (by assumption) ?_; rotate_left; (focus (intro w hSw; (try dsimp only at hSw); go_simp; (try with_reducible rfl))); (try simp only [List.getElem_toArray, List.getElem_cons_zero, List.getElem_cons_succ, Act.put, List.setIfInBounds_toArray, List.set_cons_zero, List.set_cons_succ]))
              refine wpAnyH_ready (rs := [13]) (by kernel_rfl) (by simp) ?_
              refine AllReadyH.cons rfl (fun K hK => ?_) AllReadyH.nil
              have hz := (HBc.out.block (w.heap.size + 1) hsz1).trans HR1.out
              have z0 := cell_blk hz 0 rfl
              have y0 := free_blk hz 0
              have z1 := cell_blk hz 1 rfl
              have y1 := free_blk hz 1
              have z2 := cell_blk hz 2 rfl
              have y2 := free_blk hz 2
              go_simp
              obtain ⟨wn, hw4, hg4, ho4, hb4⟩ := put3o hz (.slice d1 B.ns e1) (.slice d2 B.ng e2) (.slice d3 B.nw e3)
              rw [hw4]
              have HBn : Hid (Below (w.heap.size + 1) ws wn) := (HBc.out.mono hn1).trans hb4
              have Sn := old_of HBn.out
              refine hK.out _ _ Sn (fun hHeld => ?_)
              clear hK K Sn hHeld
              refine wpAnyH_done (by kernel_rfl) ?_ _
              clear z0 z1 z2 y0 y1 y2 hw4
              have HG4 := Lib.hid hg4
              have HO4 := Lib.hid ho4
              have hq := ho4 w.heap.size (by omega)
              clear hg4 ho4 hq hb4 hz
              go_wp2
              refine bodyPost_ret (v := .agg #[.slice d1 B.ns e1, .slice d2 B.ng e2, .slice d3 B.nw e3]) (resL rfl rfl HG4.out) rfl ?_
              exact ⟨_, rfl, copy_end HB.out hsz1 HBc.out H1.out H2.out H3.out HBn.out HO4.out⟩
    · go_simp
      obtain ⟨wn, hwn⟩ : ∃ wn : World, wc.alloc (.cells #[] 49) = wn := ⟨_, rfl⟩
      rw [hwn]
      have hb : Below wc.heap.size wc wn := (by rw [← hwn]; exact below_alloc (Nat.le_refl _) _)
      clear hwn
      obtain ⟨g2, hg⟩ : ∃ g, wc.heap.size = g := ⟨_, rfl⟩
      rw [hg]
      clear hg
      replace HBc : Hid (Below ws.heap.size ws wn) := bel HBc.out hb
      clear hb
      have Sn := old_of (HBc.out.mono hn1)
      refine hK.out _ _ Sn (fun hHeld => ?_)
      clear hK K Sn
      (try simp only [List.getElem_toArray, List.getElem_cons_zero, List.getElem_cons_succ, Act.put, List.setIfInBounds_toArray, List.set_cons_zero, List.set_cons_succ])
      obtain ⟨wc, rfl⟩ : ∃ w' : World, w' = wn := ⟨_, rfl⟩
      refine wpAnyH_ready (rs := [3, 8]) (by kernel_rfl) (by simp) ?_
      refine (AllReadyH.cons rfl (fun K hK => ?_) (AllReadyH.cons rfl (fun K hK => ?_) AllReadyH.nil))
      · rw [if_pos (by rfl)]
        refine wp_cloneI _ (.tmp 3) (.tmp 5) ?_ ?_ N g1 _ B.ns _ B.C ?_ ?_ (HBK.out.go HBc.out).scions (Nat.le_trans HNS.out HBc.out.size) h40s ?_
        any_goals (exact rfl)
        intro v wn hrow hb
        obtain ⟨d1, e1, rfl⟩ := hrow.form
        have H1 := Lib.hid (hrow.lower HBc.out.size)
        clear hrow
        replace HBc : Hid (Below ws.heap.size ws wn) := bel HBc.out hb
        clear hb
        have Sn := old_of (HBc.out.mono hn1)
        refine hK.out _ _ Sn (fun hHeld => ?_)
        clear hK K Sn
        (try simp only [List.getElem_toArray, List.getElem_cons_zero, List.getElem_cons_succ, Act.put, List.setIfInBounds_toArray, List.set_cons_zero, List.set_cons_succ])
        obtain ⟨wc, rfl⟩ : ∃ w' : World, w' = wn := ⟨_, rfl⟩
        refine wpAnyH_ready (rs := [7, 8]) (by kernel_rfl) (by simp) ?_
        refine (AllReadyH.cons rfl (fun K hK => ?_) (AllReadyH.cons rfl (fun K hK => ?_) AllReadyH.nil))
        · rw [if_pos (by rfl)]
          refine wp_cloneG _ (.tmp 7) (.tmp 9) ?_ ?_ N g2 _ B.ng _ B.P B.F ?_ ?_ (HBK.out.go HBc.out).gardens (Nat.le_trans HNS.out HBc.out.size) h40g ?_
          any_goals (exact rfl)
          intro v wn hrow hb
          obtain ⟨d2, e2, rfl⟩ := hrow.form
          have H2 := Lib.hid (hrow.lower HBc.out.size)
          clear hrow
          replace H1 := Lib.hid (H1.out.grow hb)
          replace HBc : Hid (Below ws.heap.size ws wn) := bel HBc.out hb
          clear hb
          have Sn := old_of (HBc.out.mono hn1)
          refine hK.out _ _ Sn (fun hHeld => ?_)
          clear hK K Sn
          (try simp only [List.getElem_toArray, List.getElem_cons_zero, List.getElem_cons_succ, Act.put, List.setIfInBounds_toArray, List.set_cons_zero, List.set_cons_succ])
          obtain ⟨wc, rfl⟩ : ∃ w' : World, w' = wn := ⟨_, rfl⟩
          refine wpAnyH_ready (rs := [8]) (by kernel_rfl) (by simp) ?_
          refine (AllReadyH.cons rfl (fun K hK => ?_) AllReadyH.nil)
          · go_simp
            obtain ⟨wn, hwn⟩ : ∃ wn : World, wc.alloc (.cells #[] 43) = wn := ⟨_, rfl⟩
            rw [hwn]
            have hb : Below wc.heap.size wc wn := (by rw [← hwn]; exact below_alloc (Nat.le_refl _) _)
            clear hwn
            obtain ⟨g3, hg⟩ : ∃ g, wc.heap.size = g := ⟨_, rfl⟩
            rw [hg]
            clear hg
            replace H1 := Lib.hid (H1.out.grow hb)
            replace H2 := Lib.hid (H2.out.grow hb)
            replace HBc : Hid (Below ws.heap.size ws wn) := bel HBc.out hb
            clear hb
            have Sn := old_of (HBc.out.mono hn1)
            refine hK.out _ _ Sn (fun hHeld => ?_)
            clear hK K Sn
            (try simp only [List.getElem_toArray, List.getElem_cons_zero, List.getElem_cons_succ, Act.put, List.setIfInBounds_toArray, List.set_cons_zero, List.set_cons_succ])
            obtain ⟨wc, rfl⟩ : ∃ w' : World, w' = wn := ⟨_, rfl⟩
            refine wpAnyH_ready (rs := [11]) (by kernel_rfl) (by simp) ?_
            refine (AllReadyH.cons rfl (fun K hK => ?_) AllReadyH.nil)
            · rw [if_pos (by rfl)]
              refine wp_cloneW _ (.tmp 11) (.tmp 13) ?_ ?_ N g3 _ B.nw _ B.G B.S ?_ ?_ (HBK.out.go HBc.out).wants (Nat.le_trans HNS.out HBc.out.size) h40w ?_
              any_goals (exact rfl)
              intro v wn hrow hb
              obtain ⟨d3, e3, rfl⟩ := hrow.form
              have H3 := Lib.hid (hrow.lower HBc.out.size)
              clear hrow
              replace H1 := Lib.hid (H1.out.grow hb)
              replace H2 := Lib.hid (H2.out.grow hb)
              replace HBc : Hid (Below ws.heap.size ws wn) := bel HBc.out hb
              clear hb
              have Sn := old_of (HBc.out.mono hn1)
              refine hK.out _ _ Sn (fun hHeld => ?_)
              clear hK K Sn
              (try simp only [List.getElem_toArray, List.getElem_cons_zero, List.getElem_cons_succ, Act.put, List.setIfInBounds_toArray, List.set_cons_zero, List.set_cons_succ])
              obtain ⟨wc, rfl⟩ : ∃ w' : World, w' = wn := ⟨_, rfl⟩
              (refine wpAnyH_take (i := 12) (v := ?_) rfl (by kernel_rfl) (by kernel_rfl) (by kernel_rfl) (fun _ _ _ h => h) (Or.inl ⟨by rfl, ?_⟩) (by assumption) ?_; rotate_left; (focus (intro w hSw; (try dsimp only at hSw); go_simp; (try with_reducible rfl))); (try simp only [List.getElem_toArray, List.getElem_cons_zero, List.getElem_cons_succ, Act.put, List.setIfInBounds_toArray, List.set_cons_zero, List.set_cons_succ]))
              refine wpAnyH_ready (rs := [13]) (by kernel_rfl) (by simp) ?_
              refine AllReadyH.cons rfl (fun K hK => ?_) AllReadyH.nil
              have hz := (HBc.out.block (w.heap.size + 1) hsz1).trans HR1.out
              have z0 := cell_blk hz 0 rfl
              have y0 := free_blk hz 0
              have z1 := cell_blk hz 1 rfl
              have y1 := free_blk hz 1
              have z2 := cell_blk hz 2 rfl
              have y2 := free_blk hz 2
              go_simp
              obtain ⟨wn, hw4, hg4, ho4, hb4⟩ := put3o hz (.slice d1 B.ns e1) (.slice d2 B.ng e2) (.slice d3 B.nw e3)
              rw [hw4]
              have HBn : Hid (Below (w.heap.size + 1) ws wn) := (HBc.out.mono hn1).trans hb4
              have Sn := old_of HBn.out
              refine hK.out _ _ Sn (fun hHeld => ?_)
              clear hK K Sn hHeld
              refine wpAnyH_done (by kernel_rfl) ?_ _
              clear z0 z1 z2 y0 y1 y2 hw4
              have HG4 := Lib.hid hg4
              have HO4 := Lib.hid ho4
              have hq := ho4 w.heap.size (by omega)
              clear hg4 ho4 hq hb4 hz
              go_wp2
              refine bodyPost_ret (v := .agg #[.slice d1 B.ns e1, .slice d2 B.ng e2, .slice d3 B.nw e3]) (resL rfl rfl HG4.out) rfl ?_
              exact ⟨_, rfl, copy_end HB.out hsz1 HBc.out H1.out H2.out H3.out HBn.out HO4.out⟩
        · go_simp
          obtain ⟨wn, hwn⟩ : ∃ wn : World, wc.alloc (.cells #[] 43) = wn := ⟨_, rfl⟩
          rw [hwn]
          have hb : Below wc.heap.size wc wn := (by rw [← hwn]; exact below_alloc (Nat.le_refl _) _)
          clear hwn
          obtain ⟨g3, hg⟩ : ∃ g, wc.heap.size = g := ⟨_, rfl⟩
          rw [hg]
          clear hg
          replace H1 := Lib.hid (H1.out.grow hb)
          replace HBc : Hid (Below ws.heap.size ws wn) := bel HBc.out hb
          clear hb
          have Sn := old_of (HBc.out.mono hn1)
          refine hK.out _ _ Sn (fun hHeld => ?_)
          clear hK K Sn
          (try simp only [List.getElem_toArray, List.getElem_cons_zero, List.getElem_cons_succ, Act.put, List.setIfInBounds_toArray, List.set_cons_zero, List.set_cons_succ])
          obtain ⟨wc, rfl⟩ : ∃ w' : World, w' = wn := ⟨_, rfl⟩
          refine wpAnyH_ready (rs := [7]) (by kernel_rfl) (by simp) ?_
          refine (AllReadyH.cons rfl (fun K hK => ?_) AllReadyH.nil)
          · rw [if_pos (by rfl)]
            refine wp_cloneG _ (.tmp 7) (.tmp 9) ?_ ?_ N g2 _ B.ng _ B.P B.F ?_ ?_ (HBK.out.go HBc.out).gardens (Nat.le_trans HNS.out HBc.out.size) h40g ?_
            any_goals (exact rfl)
            intro v wn hrow hb
            obtain ⟨d2, e2, rfl⟩ := hrow.form
            have H2 := Lib.hid (hrow.lower HBc.out.size)
            clear hrow
            replace H1 := Lib.hid (H1.out.grow hb)
            replace HBc : Hid (Below ws.heap.size ws wn) := bel HBc.out hb
            clear hb
            have Sn := old_of (HBc.out.mono hn1)
            refine hK.out _ _ Sn (fun hHeld => ?_)
            clear hK K Sn
            (try simp only [List.getElem_toArray, List.getElem_cons_zero, List.getElem_cons_succ, Act.put, List.setIfInBounds_toArray, List.set_cons_zero, List.set_cons_succ])
            obtain ⟨wc, rfl⟩ : ∃ w' : World, w' = wn := ⟨_, rfl⟩
            refine wpAnyH_ready (rs := [11]) (by kernel_rfl) (by simp) ?_
            refine (AllReadyH.cons rfl (fun K hK => ?_) AllReadyH.nil)
            · rw [if_pos (by rfl)]
              refine wp_cloneW _ (.tmp 11) (.tmp 13) ?_ ?_ N g3 _ B.nw _ B.G B.S ?_ ?_ (HBK.out.go HBc.out).wants (Nat.le_trans HNS.out HBc.out.size) h40w ?_
              any_goals (exact rfl)
              intro v wn hrow hb
              obtain ⟨d3, e3, rfl⟩ := hrow.form
              have H3 := Lib.hid (hrow.lower HBc.out.size)
              clear hrow
              replace H1 := Lib.hid (H1.out.grow hb)
              replace H2 := Lib.hid (H2.out.grow hb)
              replace HBc : Hid (Below ws.heap.size ws wn) := bel HBc.out hb
              clear hb
              have Sn := old_of (HBc.out.mono hn1)
              refine hK.out _ _ Sn (fun hHeld => ?_)
              clear hK K Sn
              (try simp only [List.getElem_toArray, List.getElem_cons_zero, List.getElem_cons_succ, Act.put, List.setIfInBounds_toArray, List.set_cons_zero, List.set_cons_succ])
              obtain ⟨wc, rfl⟩ : ∃ w' : World, w' = wn := ⟨_, rfl⟩
              (refine wpAnyH_take (i := 12) (v := ?_) rfl (by kernel_rfl) (by kernel_rfl) (by kernel_rfl) (fun _ _ _ h => h) (Or.inl ⟨by rfl, ?_⟩) (by assumption) ?_; rotate_left; (focus (intro w hSw; (try dsimp only at hSw); go_simp; (try with_reducible rfl))); (try simp only [List.getElem_toArray, List.getElem_cons_zero, List.getElem_cons_succ, Act.put, List.setIfInBounds_toArray, List.set_cons_zero, List.set_cons_succ]))
              refine wpAnyH_ready (rs := [13]) (by kernel_rfl) (by simp) ?_
              refine AllReadyH.cons rfl (fun K hK => ?_) AllReadyH.nil
              have hz := (HBc.out.block (w.heap.size + 1) hsz1).trans HR1.out
              have z0 := cell_blk hz 0 rfl
              have y0 := free_blk hz 0
              have z1 := cell_blk hz 1 rfl
              have y1 := free_blk hz 1
              have z2 := cell_blk hz 2 rfl
              have y2 := free_blk hz 2
              go_simp
              obtain ⟨wn, hw4, hg4, ho4, hb4⟩ := put3o hz (.slice d1 B.ns e1) (.slice d2 B.ng e2) (.slice d3 B.nw e3)
              rw [hw4]
              have HBn : Hid (Below (w.heap.size + 1) ws wn) := (HBc.out.mono hn1).trans hb4
              have Sn := old_of HBn.out
              refine hK.out _ _ Sn (fun hHeld => ?_)
              clear hK K Sn hHeld
              refine wpAnyH_done (by kernel_rfl) ?_ _
              clear z0 z1 z2 y0 y1 y2 hw4
              have HG4 := Lib.hid hg4
              have HO4 := Lib.hid ho4
              have hq := ho4 w.heap.size (by omega)
              clear hg4 ho4 hq hb4 hz
              go_wp2
              refine bodyPost_ret (v := .agg #[.slice d1 B.ns e1, .slice d2 B.ng e2, .slice d3 B.nw e3]) (resL rfl rfl HG4.out) rfl ?_
              exact ⟨_, rfl, copy_end HB.out hsz1 HBc.out H1.out H2.out H3.out HBn.out HO4.out⟩
      · go_simp
        obtain ⟨wn, hwn⟩ : ∃ wn : World, wc.alloc (.cells #[] 43) = wn := ⟨_, rfl⟩
        rw [hwn]
        have hb : Below wc.heap.size wc wn := (by rw [← hwn]; exact below_alloc (Nat.le_refl _) _)
        clear hwn
        obtain ⟨g3, hg⟩ : ∃ g, wc.heap.size = g := ⟨_, rfl⟩
        rw [hg]
        clear hg
        replace HBc : Hid (Below ws.heap.size ws wn) := bel HBc.out hb
        clear hb
        have Sn := old_of (HBc.out.mono hn1)
        refine hK.out _ _ Sn (fun hHeld => ?_)
        clear hK K Sn
        (try simp only [List.getElem_toArray, List.getElem_cons_zero, List.getElem_cons_succ, Act.put, List.setIfInBounds_toArray, List.set_cons_zero, List.set_cons_succ])
        obtain ⟨wc, rfl⟩ : ∃ w' : World, w' = wn := ⟨_, rfl⟩
        refine wpAnyH_ready (rs := [3]) (by kernel_rfl) (by simp) ?_
        refine (AllReadyH.cons rfl (fun K hK => ?_) AllReadyH.nil)
        · rw [if_pos (by rfl)]
          refine wp_cloneI _ (.tmp 3) (.tmp 5) ?_ ?_ N g1 _ B.ns _ B.C ?_ ?_ (HBK.out.go HBc.out).scions (Nat.le_trans HNS.out HBc.out.size) h40s ?_
          any_goals (exact rfl)
          intro v wn hrow hb
          obtain ⟨d1, e1, rfl⟩ := hrow.form
          have H1 := Lib.hid (hrow.lower HBc.out.size)
          clear hrow
          replace HBc : Hid (Below ws.heap.size ws wn) := bel HBc.out hb
          clear hb
          have Sn := old_of (HBc.out.mono hn1)
          refine hK.out _ _ Sn (fun hHeld => ?_)
          clear hK K Sn
          (try simp only [List.getElem_toArray, List.getElem_cons_zero, List.getElem_cons_succ, Act.put, List.setIfInBounds_toArray, List.set_cons_zero, List.set_cons_succ])
          obtain ⟨wc, rfl⟩ : ∃ w' : World, w' = wn := ⟨_, rfl⟩
          refine wpAnyH_ready (rs := [7]) (by kernel_rfl) (by simp) ?_
          refine (AllReadyH.cons rfl (fun K hK => ?_) AllReadyH.nil)
          · rw [if_pos (by rfl)]
            refine wp_cloneG _ (.tmp 7) (.tmp 9) ?_ ?_ N g2 _ B.ng _ B.P B.F ?_ ?_ (HBK.out.go HBc.out).gardens (Nat.le_trans HNS.out HBc.out.size) h40g ?_
            any_goals (exact rfl)
            intro v wn hrow hb
            obtain ⟨d2, e2, rfl⟩ := hrow.form
            have H2 := Lib.hid (hrow.lower HBc.out.size)
            clear hrow
            replace H1 := Lib.hid (H1.out.grow hb)
            replace HBc : Hid (Below ws.heap.size ws wn) := bel HBc.out hb
            clear hb
            have Sn := old_of (HBc.out.mono hn1)
            refine hK.out _ _ Sn (fun hHeld => ?_)
            clear hK K Sn
            (try simp only [List.getElem_toArray, List.getElem_cons_zero, List.getElem_cons_succ, Act.put, List.setIfInBounds_toArray, List.set_cons_zero, List.set_cons_succ])
            obtain ⟨wc, rfl⟩ : ∃ w' : World, w' = wn := ⟨_, rfl⟩
            refine wpAnyH_ready (rs := [11]) (by kernel_rfl) (by simp) ?_
            refine (AllReadyH.cons rfl (fun K hK => ?_) AllReadyH.nil)
            · rw [if_pos (by rfl)]
              refine wp_cloneW _ (.tmp 11) (.tmp 13) ?_ ?_ N g3 _ B.nw _ B.G B.S ?_ ?_ (HBK.out.go HBc.out).wants (Nat.le_trans HNS.out HBc.out.size) h40w ?_
              any_goals (exact rfl)
              intro v wn hrow hb
              obtain ⟨d3, e3, rfl⟩ := hrow.form
              have H3 := Lib.hid (hrow.lower HBc.out.size)
              clear hrow
              replace H1 := Lib.hid (H1.out.grow hb)
              replace H2 := Lib.hid (H2.out.grow hb)
              replace HBc : Hid (Below ws.heap.size ws wn) := bel HBc.out hb
              clear hb
              have Sn := old_of (HBc.out.mono hn1)
              refine hK.out _ _ Sn (fun hHeld => ?_)
              clear hK K Sn
              (try simp only [List.getElem_toArray, List.getElem_cons_zero, List.getElem_cons_succ, Act.put, List.setIfInBounds_toArray, List.set_cons_zero, List.set_cons_succ])
              obtain ⟨wc, rfl⟩ : ∃ w' : World, w' = wn := ⟨_, rfl⟩
              (refine wpAnyH_take (i := 12) (v := ?_) rfl (by kernel_rfl) (by kernel_rfl) (by kernel_rfl) (fun _ _ _ h => h) (Or.inl ⟨by rfl, ?_⟩) (by assumption) ?_; rotate_left; (focus (intro w hSw; (try dsimp only at hSw); go_simp; (try with_reducible rfl))); (try simp only [List.getElem_toArray, List.getElem_cons_zero, List.getElem_cons_succ, Act.put, List.setIfInBounds_toArray, List.set_cons_zero, List.set_cons_succ]))
              refine wpAnyH_ready (rs := [13]) (by kernel_rfl) (by simp) ?_
              refine AllReadyH.cons rfl (fun K hK => ?_) AllReadyH.nil
              have hz := (HBc.out.block (w.heap.size + 1) hsz1).trans HR1.out
              have z0 := cell_blk hz 0 rfl
              have y0 := free_blk hz 0
              have z1 := cell_blk hz 1 rfl
              have y1 := free_blk hz 1
              have z2 := cell_blk hz 2 rfl
              have y2 := free_blk hz 2
              go_simp
              obtain ⟨wn, hw4, hg4, ho4, hb4⟩ := put3o hz (.slice d1 B.ns e1) (.slice d2 B.ng e2) (.slice d3 B.nw e3)
              rw [hw4]
              have HBn : Hid (Below (w.heap.size + 1) ws wn) := (HBc.out.mono hn1).trans hb4
              have Sn := old_of HBn.out
              refine hK.out _ _ Sn (fun hHeld => ?_)
              clear hK K Sn hHeld
              refine wpAnyH_done (by kernel_rfl) ?_ _
              clear z0 z1 z2 y0 y1 y2 hw4
              have HG4 := Lib.hid hg4
              have HO4 := Lib.hid ho4
              have hq := ho4 w.heap.size (by omega)
              clear hg4 ho4 hq hb4 hz
              go_wp2
              refine bodyPost_ret (v := .agg #[.slice d1 B.ns e1, .slice d2 B.ng e2, .slice d3 B.nw e3]) (resL rfl rfl HG4.out) rfl ?_
              exact ⟨_, rfl, copy_end HB.out hsz1 HBc.out H1.out H2.out H3.out HBn.out HO4.out⟩
    · go_simp
      obtain ⟨wn, hwn⟩ : ∃ wn : World, wc.alloc (.cells #[] 43) = wn := ⟨_, rfl⟩
      rw [hwn]
      have hb : Below wc.heap.size wc wn := (by rw [← hwn]; exact below_alloc (Nat.le_refl _) _)
      clear hwn
      obtain ⟨g3, hg⟩ : ∃ g, wc.heap.size = g := ⟨_, rfl⟩
      rw [hg]
      clear hg
      replace HBc : Hid (Below ws.heap.size ws wn) := bel HBc.out hb
      clear hb
      have Sn := old_of (HBc.out.mono hn1)
      refine hK.out _ _ Sn (fun hHeld => ?_)
      clear hK K Sn
      (try simp only [List.getElem_toArray, List.getElem_cons_zero, List.getElem_cons_succ, Act.put, List.setIfInBounds_toArray, List.set_cons_zero, List.set_cons_succ])
      obtain ⟨wc, rfl⟩ : ∃ w' : World, w' = wn := ⟨_, rfl⟩
      refine wpAnyH_ready (rs := [3, 4]) (by kernel_rfl) (by simp) ?_
      refine (AllReadyH.cons rfl (fun K hK => ?_) (AllReadyH.cons rfl (fun K hK => ?_) AllReadyH.nil))
      · rw [if_pos (by rfl)]
        refine wp_cloneI _ (.tmp 3) (.tmp 5) ?_ ?_ N g1 _ B.ns _ B.C ?_ ?_ (HBK.out.go HBc.out).scions (Nat.le_trans HNS.out HBc.out.size) h40s ?_
        any_goals (exact rfl)
        intro v wn hrow hb
        obtain ⟨d1, e1, rfl⟩ := hrow.form
        have H1 := Lib.hid (hrow.lower HBc.out.size)
        clear hrow
        replace HBc : Hid (Below ws.heap.size ws wn) := bel HBc.out hb
        clear hb
        have Sn := old_of (HBc.out.mono hn1)
        refine hK.out _ _ Sn (fun hHeld => ?_)
        clear hK K Sn
        (try simp only [List.getElem_toArray, List.getElem_cons_zero, List.getElem_cons_succ, Act.put, List.setIfInBounds_toArray, List.set_cons_zero, List.set_cons_succ])
        obtain ⟨wc, rfl⟩ : ∃ w' : World, w' = wn := ⟨_, rfl⟩
        refine wpAnyH_ready (rs := [4]) (by kernel_rfl) (by simp) ?_
        refine (AllReadyH.cons rfl (fun K hK => ?_) AllReadyH.nil)
        · go_simp
          obtain ⟨wn, hwn⟩ : ∃ wn : World, wc.alloc (.cells #[] 49) = wn := ⟨_, rfl⟩
          rw [hwn]
          have hb : Below wc.heap.size wc wn := (by rw [← hwn]; exact below_alloc (Nat.le_refl _) _)
          clear hwn
          obtain ⟨g2, hg⟩ : ∃ g, wc.heap.size = g := ⟨_, rfl⟩
          rw [hg]
          clear hg
          replace H1 := Lib.hid (H1.out.grow hb)
          replace HBc : Hid (Below ws.heap.size ws wn) := bel HBc.out hb
          clear hb
          have Sn := old_of (HBc.out.mono hn1)
          refine hK.out _ _ Sn (fun hHeld => ?_)
          clear hK K Sn
          (try simp only [List.getElem_toArray, List.getElem_cons_zero, List.getElem_cons_succ, Act.put, List.setIfInBounds_toArray, List.set_cons_zero, List.set_cons_succ])
          obtain ⟨wc, rfl⟩ : ∃ w' : World, w' = wn := ⟨_, rfl⟩
          refine wpAnyH_ready (rs := [7]) (by kernel_rfl) (by simp) ?_
          refine (AllReadyH.cons rfl (fun K hK => ?_) AllReadyH.nil)
          · rw [if_pos (by rfl)]
            refine wp_cloneG _ (.tmp 7) (.tmp 9) ?_ ?_ N g2 _ B.ng _ B.P B.F ?_ ?_ (HBK.out.go HBc.out).gardens (Nat.le_trans HNS.out HBc.out.size) h40g ?_
            any_goals (exact rfl)
            intro v wn hrow hb
            obtain ⟨d2, e2, rfl⟩ := hrow.form
            have H2 := Lib.hid (hrow.lower HBc.out.size)
            clear hrow
            replace H1 := Lib.hid (H1.out.grow hb)
            replace HBc : Hid (Below ws.heap.size ws wn) := bel HBc.out hb
            clear hb
            have Sn := old_of (HBc.out.mono hn1)
            refine hK.out _ _ Sn (fun hHeld => ?_)
            clear hK K Sn
            (try simp only [List.getElem_toArray, List.getElem_cons_zero, List.getElem_cons_succ, Act.put, List.setIfInBounds_toArray, List.set_cons_zero, List.set_cons_succ])
            obtain ⟨wc, rfl⟩ : ∃ w' : World, w' = wn := ⟨_, rfl⟩
            refine wpAnyH_ready (rs := [11]) (by kernel_rfl) (by simp) ?_
            refine (AllReadyH.cons rfl (fun K hK => ?_) AllReadyH.nil)
            · rw [if_pos (by rfl)]
              refine wp_cloneW _ (.tmp 11) (.tmp 13) ?_ ?_ N g3 _ B.nw _ B.G B.S ?_ ?_ (HBK.out.go HBc.out).wants (Nat.le_trans HNS.out HBc.out.size) h40w ?_
              any_goals (exact rfl)
              intro v wn hrow hb
              obtain ⟨d3, e3, rfl⟩ := hrow.form
              have H3 := Lib.hid (hrow.lower HBc.out.size)
              clear hrow
              replace H1 := Lib.hid (H1.out.grow hb)
              replace H2 := Lib.hid (H2.out.grow hb)
              replace HBc : Hid (Below ws.heap.size ws wn) := bel HBc.out hb
              clear hb
              have Sn := old_of (HBc.out.mono hn1)
              refine hK.out _ _ Sn (fun hHeld => ?_)
              clear hK K Sn
              (try simp only [List.getElem_toArray, List.getElem_cons_zero, List.getElem_cons_succ, Act.put, List.setIfInBounds_toArray, List.set_cons_zero, List.set_cons_succ])
              obtain ⟨wc, rfl⟩ : ∃ w' : World, w' = wn := ⟨_, rfl⟩
              (refine wpAnyH_take (i := 12) (v := ?_) rfl (by kernel_rfl) (by kernel_rfl) (by kernel_rfl) (fun _ _ _ h => h) (Or.inl ⟨by rfl, ?_⟩) (by assumption) ?_; rotate_left; (focus (intro w hSw; (try dsimp only at hSw); go_simp; (try with_reducible rfl))); (try simp only [List.getElem_toArray, List.getElem_cons_zero, List.getElem_cons_succ, Act.put, List.setIfInBounds_toArray, List.set_cons_zero, List.set_cons_succ]))
              refine wpAnyH_ready (rs := [13]) (by kernel_rfl) (by simp) ?_
              refine AllReadyH.cons rfl (fun K hK => ?_) AllReadyH.nil
              have hz := (HBc.out.block (w.heap.size + 1) hsz1).trans HR1.out
              have z0 := cell_blk hz 0 rfl
              have y0 := free_blk hz 0
              have z1 := cell_blk hz 1 rfl
              have y1 := free_blk hz 1
              have z2 := cell_blk hz 2 rfl
              have y2 := free_blk hz 2
              go_simp
              obtain ⟨wn, hw4, hg4, ho4, hb4⟩ := put3o hz (.slice d1 B.ns e1) (.slice d2 B.ng e2) (.slice d3 B.nw e3)
              rw [hw4]
              have HBn : Hid (Below (w.heap.size + 1) ws wn) := (HBc.out.mono hn1).trans hb4
              have Sn := old_of HBn.out
              refine hK.out _ _ Sn (fun hHeld => ?_)
              clear hK K Sn hHeld
              refine wpAnyH_done (by kernel_rfl) ?_ _
              clear z0 z1 z2 y0 y1 y2 hw4
              have HG4 := Lib.hid hg4
              have HO4 := Lib.hid ho4
              have hq := ho4 w.heap.size (by omega)
              clear hg4 ho4 hq hb4 hz
              go_wp2
              refine bodyPost_ret (v := .agg #[.slice d1 B.ns e1, .slice d2 B.ng e2, .slice d3 B.nw e3]) (resL rfl rfl HG4.out) rfl ?_
              exact ⟨_, rfl, copy_end HB.out hsz1 HBc.out H1.out H2.out H3.out HBn.out HO4.out⟩
      · go_simp
        obtain ⟨wn, hwn⟩ : ∃ wn : World, wc.alloc (.cells #[] 49) = wn := ⟨_, rfl⟩
        rw [hwn]
        have hb : Below wc.heap.size wc wn := (by rw [← hwn]; exact below_alloc (Nat.le_refl _) _)
        clear hwn
        obtain ⟨g2, hg⟩ : ∃ g, wc.heap.size = g := ⟨_, rfl⟩
        rw [hg]
        clear hg
        replace HBc : Hid (Below ws.heap.size ws wn) := bel HBc.out hb
        clear hb
        have Sn := old_of (HBc.out.mono hn1)
        refine hK.out _ _ Sn (fun hHeld => ?_)
        clear hK K Sn
        (try simp only [List.getElem_toArray, List.getElem_cons_zero, List.getElem_cons_succ, Act.put, List.setIfInBounds_toArray, List.set_cons_zero, List.set_cons_succ])
        obtain ⟨wc, rfl⟩ : ∃ w' : World, w' = wn := ⟨_, rfl⟩
        refine wpAnyH_ready (rs := [3]) (by kernel_rfl) (by simp) ?_
        refine (AllReadyH.cons rfl (fun K hK => ?_) AllReadyH.nil)
        · rw [if_pos (by rfl)]
          refine wp_cloneI _ (.tmp 3) (.tmp 5) ?_ ?_ N g1 _ B.ns _ B.C ?_ ?_ (HBK.out.go HBc.out).scions (Nat.le_trans HNS.out HBc.out.size) h40s ?_
          any_goals (exact rfl)
          intro v wn hrow hb
          obtain ⟨d1, e1, rfl⟩ := hrow.form
          have H1 := Lib.hid (hrow.lower HBc.out.size)
          clear hrow
          replace HBc : Hid (Below ws.heap.size ws wn) := bel HBc.out hb
          clear hb
          have Sn := old_of (HBc.out.mono hn1)
          refine hK.out _ _ Sn (fun hHeld => ?_)
          clear hK K Sn
          (try simp only [List.getElem_toArray, List.getElem_cons_zero, List.getElem_cons_succ, Act.put, List.setIfInBounds_toArray, List.set_cons_zero, List.set_cons_succ])
          obtain ⟨wc, rfl⟩ : ∃ w' : World, w' = wn := ⟨_, rfl⟩
          refine wpAnyH_ready (rs := [7]) (by kernel_rfl) (by simp) ?_
          refine (AllReadyH.cons rfl (fun K hK => ?_) AllReadyH.nil)
          · rw [if_pos (by rfl)]
            refine wp_cloneG _ (.tmp 7) (.tmp 9) ?_ ?_ N g2 _ B.ng _ B.P B.F ?_ ?_ (HBK.out.go HBc.out).gardens (Nat.le_trans HNS.out HBc.out.size) h40g ?_
            any_goals (exact rfl)
            intro v wn hrow hb
            obtain ⟨d2, e2, rfl⟩ := hrow.form
            have H2 := Lib.hid (hrow.lower HBc.out.size)
            clear hrow
            replace H1 := Lib.hid (H1.out.grow hb)
            replace HBc : Hid (Below ws.heap.size ws wn) := bel HBc.out hb
            clear hb
            have Sn := old_of (HBc.out.mono hn1)
            refine hK.out _ _ Sn (fun hHeld => ?_)
            clear hK K Sn
            (try simp only [List.getElem_toArray, List.getElem_cons_zero, List.getElem_cons_succ, Act.put, List.setIfInBounds_toArray, List.set_cons_zero, List.set_cons_succ])
            obtain ⟨wc, rfl⟩ : ∃ w' : World, w' = wn := ⟨_, rfl⟩
            refine wpAnyH_ready (rs := [11]) (by kernel_rfl) (by simp) ?_
            refine (AllReadyH.cons rfl (fun K hK => ?_) AllReadyH.nil)
            · rw [if_pos (by rfl)]
              refine wp_cloneW _ (.tmp 11) (.tmp 13) ?_ ?_ N g3 _ B.nw _ B.G B.S ?_ ?_ (HBK.out.go HBc.out).wants (Nat.le_trans HNS.out HBc.out.size) h40w ?_
              any_goals (exact rfl)
              intro v wn hrow hb
              obtain ⟨d3, e3, rfl⟩ := hrow.form
              have H3 := Lib.hid (hrow.lower HBc.out.size)
              clear hrow
              replace H1 := Lib.hid (H1.out.grow hb)
              replace H2 := Lib.hid (H2.out.grow hb)
              replace HBc : Hid (Below ws.heap.size ws wn) := bel HBc.out hb
              clear hb
              have Sn := old_of (HBc.out.mono hn1)
              refine hK.out _ _ Sn (fun hHeld => ?_)
              clear hK K Sn
              (try simp only [List.getElem_toArray, List.getElem_cons_zero, List.getElem_cons_succ, Act.put, List.setIfInBounds_toArray, List.set_cons_zero, List.set_cons_succ])
              obtain ⟨wc, rfl⟩ : ∃ w' : World, w' = wn := ⟨_, rfl⟩
              (refine wpAnyH_take (i := 12) (v := ?_) rfl (by kernel_rfl) (by kernel_rfl) (by kernel_rfl) (fun _ _ _ h => h) (Or.inl ⟨by rfl, ?_⟩) (by assumption) ?_; rotate_left; (focus (intro w hSw; (try dsimp only at hSw); go_simp; (try with_reducible rfl))); (try simp only [List.getElem_toArray, List.getElem_cons_zero, List.getElem_cons_succ, Act.put, List.setIfInBounds_toArray, List.set_cons_zero, List.set_cons_succ]))
              refine wpAnyH_ready (rs := [13]) (by kernel_rfl) (by simp) ?_
              refine AllReadyH.cons rfl (fun K hK => ?_) AllReadyH.nil
              have hz := (HBc.out.block (w.heap.size + 1) hsz1).trans HR1.out
              have z0 := cell_blk hz 0 rfl
              have y0 := free_blk hz 0
              have z1 := cell_blk hz 1 rfl
              have y1 := free_blk hz 1
              have z2 := cell_blk hz 2 rfl
              have y2 := free_blk hz 2
              go_simp
              obtain ⟨wn, hw4, hg4, ho4, hb4⟩ := put3o hz (.slice d1 B.ns e1) (.slice d2 B.ng e2) (.slice d3 B.nw e3)
              rw [hw4]
              have HBn : Hid (Below (w.heap.size + 1) ws wn) := (HBc.out.mono hn1).trans hb4
              have Sn := old_of HBn.out
              refine hK.out _ _ Sn (fun hHeld => ?_)
              clear hK K Sn hHeld
              refine wpAnyH_done (by kernel_rfl) ?_ _
              clear z0 z1 z2 y0 y1 y2 hw4
              have HG4 := Lib.hid hg4
              have HO4 := Lib.hid ho4
              have hq := ho4 w.heap.size (by omega)
              clear hg4 ho4 hq hb4 hz
              go_wp2
              refine bodyPost_ret (v := .agg #[.slice d1 B.ns e1, .slice d2 B.ng e2, .slice d3 B.nw e3]) (resL rfl rfl HG4.out) rfl ?_
              exact ⟨_, rfl, copy_end HB.out hsz1 HBc.out H1.out H2.out H3.out HBn.out HO4.out⟩
  · go_simp
    obtain ⟨wn, hwn⟩ : ∃ wn : World, wc.alloc (.cells #[] 49) = wn := ⟨_, rfl⟩
    rw [hwn]
    have hb : Below wc.heap.size wc wn := (by rw [← hwn]; exact below_alloc (Nat.le_refl _) _)
    clear hwn
    obtain ⟨g2, hg⟩ : ∃ g, wc.heap.size = g := ⟨_, rfl⟩
    rw [hg]
    clear hg
    replace HBc : Hid (Below ws.heap.size ws wn) := bel HBc.out hb
    clear hb
    have Sn := old_of (HBc.out.mono hn1)
    refine hK.out _ _ Sn (fun hHeld => ?_)
    clear hK K Sn
    (try simp only [List.getElem_toArray, List.getElem_cons_zero, List.getElem_cons_succ, Act.put, List.setIfInBounds_toArray, List.set_cons_zero, List.set_cons_succ])
    obtain ⟨wc, rfl⟩ : ∃ w' : World, w' = wn := ⟨_, rfl⟩
    refine wpAnyH_ready (rs := [0, 8]) (by kernel_rfl) (by simp) ?_
    refine (AllReadyH.cons rfl (fun K hK => ?_) (AllReadyH.cons rfl (fun K hK => ?_) AllReadyH.nil))
    · go_simp
      obtain ⟨wn, hwn⟩ : ∃ wn : World, wc.alloc (.cells #[] 3) = wn := ⟨_, rfl⟩
      rw [hwn]
      have hb : Below wc.heap.size wc wn := (by rw [← hwn]; exact below_alloc (Nat.le_refl _) _)
      clear hwn
      obtain ⟨g1, hg⟩ : ∃ g, wc.heap.size = g := ⟨_, rfl⟩
      rw [hg]
      clear hg
      replace HBc : Hid (Below ws.heap.size ws wn) := bel HBc.out hb
      clear hb
      have Sn := old_of (HBc.out.mono hn1)
      refine hK.out _ _ Sn (fun hHeld => ?_)
      clear hK K Sn
      (try simp only [List.getElem_toArray, List.getElem_cons_zero, List.getElem_cons_succ, Act.put, List.setIfInBounds_toArray, List.set_cons_zero, List.set_cons_succ])
      obtain ⟨wc, rfl⟩ : ∃ w' : World, w' = wn := ⟨_, rfl⟩
      refine wpAnyH_ready (rs := [3, 8]) (by kernel_rfl) (by simp) ?_
      refine (AllReadyH.cons rfl (fun K hK => ?_) (AllReadyH.cons rfl (fun K hK => ?_) AllReadyH.nil))
      · rw [if_pos (by rfl)]
        refine wp_cloneI _ (.tmp 3) (.tmp 5) ?_ ?_ N g1 _ B.ns _ B.C ?_ ?_ (HBK.out.go HBc.out).scions (Nat.le_trans HNS.out HBc.out.size) h40s ?_
        any_goals (exact rfl)
        intro v wn hrow hb
        obtain ⟨d1, e1, rfl⟩ := hrow.form
        have H1 := Lib.hid (hrow.lower HBc.out.size)
        clear hrow
        replace HBc : Hid (Below ws.heap.size ws wn) := bel HBc.out hb
        clear hb
        have Sn := old_of (HBc.out.mono hn1)
        refine hK.out _ _ Sn (fun hHeld => ?_)
        clear hK K Sn
        (try simp only [List.getElem_toArray, List.getElem_cons_zero, List.getElem_cons_succ, Act.put, List.setIfInBounds_toArray, List.set_cons_zero, List.set_cons_succ])
        obtain ⟨wc, rfl⟩ : ∃ w' : World, w' = wn := ⟨_, rfl⟩
        refine wpAnyH_ready (rs := [7, 8]) (by kernel_rfl) (by simp) ?_
        refine (AllReadyH.cons rfl (fun K hK => ?_) (AllReadyH.cons rfl (fun K hK => ?_) AllReadyH.nil))
        · rw [if_pos (by rfl)]
          refine wp_cloneG _ (.tmp 7) (.tmp 9) ?_ ?_ N g2 _ B.ng _ B.P B.F ?_ ?_ (HBK.out.go HBc.out).gardens (Nat.le_trans HNS.out HBc.out.size) h40g ?_
          any_goals (exact rfl)
          intro v wn hrow hb
          obtain ⟨d2, e2, rfl⟩ := hrow.form
          have H2 := Lib.hid (hrow.lower HBc.out.size)
          clear hrow
          replace H1 := Lib.hid (H1.out.grow hb)
          replace HBc : Hid (Below ws.heap.size ws wn) := bel HBc.out hb
          clear hb
          have Sn := old_of (HBc.out.mono hn1)
          refine hK.out _ _ Sn (fun hHeld => ?_)
          clear hK K Sn
          (try simp only [List.getElem_toArray, List.getElem_cons_zero, List.getElem_cons_succ, Act.put, List.setIfInBounds_toArray, List.set_cons_zero, List.set_cons_succ])
          obtain ⟨wc, rfl⟩ : ∃ w' : World, w' = wn := ⟨_, rfl⟩
          refine wpAnyH_ready (rs := [8]) (by kernel_rfl) (by simp) ?_
          refine (AllReadyH.cons rfl (fun K hK => ?_) AllReadyH.nil)
          · go_simp
            obtain ⟨wn, hwn⟩ : ∃ wn : World, wc.alloc (.cells #[] 43) = wn := ⟨_, rfl⟩
            rw [hwn]
            have hb : Below wc.heap.size wc wn := (by rw [← hwn]; exact below_alloc (Nat.le_refl _) _)
            clear hwn
            obtain ⟨g3, hg⟩ : ∃ g, wc.heap.size = g := ⟨_, rfl⟩
            rw [hg]
            clear hg
            replace H1 := Lib.hid (H1.out.grow hb)
            replace H2 := Lib.hid (H2.out.grow hb)
            replace HBc : Hid (Below ws.heap.size ws wn) := bel HBc.out hb
            clear hb
            have Sn := old_of (HBc.out.mono hn1)
            refine hK.out _ _ Sn (fun hHeld => ?_)
            clear hK K Sn
            (try simp only [List.getElem_toArray, List.getElem_cons_zero, List.getElem_cons_succ, Act.put, List.setIfInBounds_toArray, List.set_cons_zero, List.set_cons_succ])
            obtain ⟨wc, rfl⟩ : ∃ w' : World, w' = wn := ⟨_, rfl⟩
            refine wpAnyH_ready (rs := [11]) (by kernel_rfl) (by simp) ?_
            refine (AllReadyH.cons rfl (fun K hK => ?_) AllReadyH.nil)
            · rw [if_pos (by rfl)]
              refine wp_cloneW _ (.tmp 11) (.tmp 13) ?_ ?_ N g3 _ B.nw _ B.G B.S ?_ ?_ (HBK.out.go HBc.out).wants (Nat.le_trans HNS.out HBc.out.size) h40w ?_
              any_goals (exact rfl)
              intro v wn hrow hb
              obtain ⟨d3, e3, rfl⟩ := hrow.form
              have H3 := Lib.hid (hrow.lower HBc.out.size)
              clear hrow
              replace H1 := Lib.hid (H1.out.grow hb)
              replace H2 := Lib.hid (H2.out.grow hb)
              replace HBc : Hid (Below ws.heap.size ws wn) := bel HBc.out hb
              clear hb
              have Sn := old_of (HBc.out.mono hn1)
              refine hK.out _ _ Sn (fun hHeld => ?_)
              clear hK K Sn
              (try simp only [List.getElem_toArray, List.getElem_cons_zero, List.getElem_cons_succ, Act.put, List.setIfInBounds_toArray, List.set_cons_zero, List.set_cons_succ])
              obtain ⟨wc, rfl⟩ : ∃ w' : World, w' = wn := ⟨_, rfl⟩
              (refine wpAnyH_take (i := 12) (v := ?_) rfl (by kernel_rfl) (by kernel_rfl) (by kernel_rfl) (fun _ _ _ h => h) (Or.inl ⟨by rfl, ?_⟩) (by assumption) ?_; rotate_left; (focus (intro w hSw; (try dsimp only at hSw); go_simp; (try with_reducible rfl))); (try simp only [List.getElem_toArray, List.getElem_cons_zero, List.getElem_cons_succ, Act.put, List.setIfInBounds_toArray, List.set_cons_zero, List.set_cons_succ]))
              refine wpAnyH_ready (rs := [13]) (by kernel_rfl) (by simp) ?_
              refine AllReadyH.cons rfl (fun K hK => ?_) AllReadyH.nil
              have hz := (HBc.out.block (w.heap.size + 1) hsz1).trans HR1.out
              have z0 := cell_blk hz 0 rfl
              have y0 := free_blk hz 0
              have z1 := cell_blk hz 1 rfl
              have y1 := free_blk hz 1
              have z2 := cell_blk hz 2 rfl
              have y2 := free_blk hz 2
              go_simp
              obtain ⟨wn, hw4, hg4, ho4, hb4⟩ := put3o hz (.slice d1 B.ns e1) (.slice d2 B.ng e2) (.slice d3 B.nw e3)
              rw [hw4]
              have HBn : Hid (Below (w.heap.size + 1) ws wn) := (HBc.out.mono hn1).trans hb4
              have Sn := old_of HBn.out
              refine hK.out _ _ Sn (fun hHeld => ?_)
              clear hK K Sn hHeld
              refine wpAnyH_done (by kernel_rfl) ?_ _
              clear z0 z1 z2 y0 y1 y2 hw4
              have HG4 := Lib.hid hg4
              have HO4 := Lib.hid ho4
              have hq := ho4 w.heap.size (by omega)
              clear hg4 ho4 hq hb4 hz
              go_wp2
              refine bodyPost_ret (v := .agg #[.slice d1 B.ns e1, .slice d2 B.ng e2, .slice d3 B.nw e3]) (resL rfl rfl HG4.out) rfl ?_
              exact ⟨_, rfl, copy_end HB.out hsz1 HBc.out H1.out H2.out H3.out HBn.out HO4.out⟩
        · go_simp
          obtain ⟨wn, hwn⟩ : ∃ wn : World, wc.alloc (.cells #[] 43) = wn := ⟨_, rfl⟩
          rw [hwn]
          have hb : Below wc.heap.size wc wn := (by rw [← hwn]; exact below_alloc (Nat.le_refl _) _)
          clear hwn
          obtain ⟨g3, hg⟩ : ∃ g, wc.heap.size = g := ⟨_, rfl⟩
          rw [hg]
          clear hg
          replace H1 := Lib.hid (H1.out.grow hb)
          replace HBc : Hid (Below ws.heap.size ws wn) := bel HBc.out hb
          clear hb
          have Sn := old_of (HBc.out.mono hn1)
          refine hK.out _ _ Sn (fun hHeld => ?_)
          clear hK K Sn
          (try simp only [List.getElem_toArray, List.getElem_cons_zero, List.getElem_cons_succ, Act.put, List.setIfInBounds_toArray, List.set_cons_zero, List.set_cons_succ])
          obtain ⟨wc, rfl⟩ : ∃ w' : World, w' = wn := ⟨_, rfl⟩
          refine wpAnyH_ready (rs := [7]) (by kernel_rfl) (by simp) ?_
          refine (AllReadyH.cons rfl (fun K hK => ?_) AllReadyH.nil)
          · rw [if_pos (by rfl)]
            refine wp_cloneG _ (.tmp 7) (.tmp 9) ?_ ?_ N g2 _ B.ng _ B.P B.F ?_ ?_ (HBK.out.go HBc.out).gardens (Nat.le_trans HNS.out HBc.out.size) h40g ?_
            any_goals (exact rfl)
            intro v wn hrow hb
            obtain ⟨d2, e2, rfl⟩ := hrow.form
            have H2 := Lib.hid (hrow.lower HBc.out.size)
            clear hrow
            replace H1 := Lib.hid (H1.out.grow hb)
            replace HBc : Hid (Below ws.heap.size ws wn) := bel HBc.out hb
            clear hb
            have Sn := old_of (HBc.out.mono hn1)
            refine hK.out _ _ Sn (fun hHeld => ?_)
            clear hK K Sn
            (try simp only [List.getElem_toArray, List.getElem_cons_zero, List.getElem_cons_succ, Act.put, List.setIfInBounds_toArray, List.set_cons_zero, List.set_cons_succ])
            obtain ⟨wc, rfl⟩ : ∃ w' : World, w' = wn := ⟨_, rfl⟩
            refine wpAnyH_ready (rs := [11]) (by kernel_rfl) (by simp) ?_
            refine (AllReadyH.cons rfl (fun K hK => ?_) AllReadyH.nil)
            · rw [if_pos (by rfl)]
              refine wp_cloneW _ (.tmp 11) (.tmp 13) ?_ ?_ N g3 _ B.nw _ B.G B.S ?_ ?_ (HBK.out.go HBc.out).wants (Nat.le_trans HNS.out HBc.out.size) h40w ?_
              any_goals (exact rfl)
              intro v wn hrow hb
              obtain ⟨d3, e3, rfl⟩ := hrow.form
              have H3 := Lib.hid (hrow.lower HBc.out.size)
              clear hrow
              replace H1 := Lib.hid (H1.out.grow hb)
              replace H2 := Lib.hid (H2.out.grow hb)
              replace HBc : Hid (Below ws.heap.size ws wn) := bel HBc.out hb
              clear hb
              have Sn := old_of (HBc.out.mono hn1)
              refine hK.out _ _ Sn (fun hHeld => ?_)
              clear hK K Sn
              (try simp only [List.getElem_toArray, List.getElem_cons_zero, List.getElem_cons_succ, Act.put, List.setIfInBounds_toArray, List.set_cons_zero, List.set_cons_succ])
              obtain ⟨wc, rfl⟩ : ∃ w' : World, w' = wn := ⟨_, rfl⟩
              (refine wpAnyH_take (i := 12) (v := ?_) rfl (by kernel_rfl) (by kernel_rfl) (by kernel_rfl) (fun _ _ _ h => h) (Or.inl ⟨by rfl, ?_⟩) (by assumption) ?_; rotate_left; (focus (intro w hSw; (try dsimp only at hSw); go_simp; (try with_reducible rfl))); (try simp only [List.getElem_toArray, List.getElem_cons_zero, List.getElem_cons_succ, Act.put, List.setIfInBounds_toArray, List.set_cons_zero, List.set_cons_succ]))
              refine wpAnyH_ready (rs := [13]) (by kernel_rfl) (by simp) ?_
              refine AllReadyH.cons rfl (fun K hK => ?_) AllReadyH.nil
              have hz := (HBc.out.block (w.heap.size + 1) hsz1).trans HR1.out
              have z0 := cell_blk hz 0 rfl
              have y0 := free_blk hz 0
              have z1 := cell_blk hz 1 rfl
              have y1 := free_blk hz 1
              have z2 := cell_blk hz 2 rfl
              have y2 := free_blk hz 2
              go_simp
              obtain ⟨wn, hw4, hg4, ho4, hb4⟩ := put3o hz (.slice d1 B.ns e1) (.slice d2 B.ng e2) (.slice d3 B.nw e3)
              rw [hw4]
              have HBn : Hid (Below (w.heap.size + 1) ws wn) := (HBc.out.mono hn1).trans hb4
              have Sn := old_of HBn.out
              refine hK.out _ _ Sn (fun hHeld => ?_)
              clear hK K Sn hHeld
              refine wpAnyH_done (by kernel_rfl) ?_ _
              clear z0 z1 z2 y0 y1 y2 hw4
              have HG4 := Lib.hid hg4
              have HO4 := Lib.hid ho4
              have hq := ho4 w.heap.size (by omega)
              clear hg4 ho4 hq hb4 hz
              go_wp2
              refine bodyPost_ret (v := .agg #[.slice d1 B.ns e1, .slice d2 B.ng e2, .slice d3 B.nw e3]) (resL rfl rfl HG4.out) rfl ?_
              exact ⟨_, rfl, copy_end HB.out hsz1 HBc.out H1.out H2.out H3.out HBn.out HO4.out⟩
      · go_simp
        obtain ⟨wn, hwn⟩ : ∃ wn : World, wc.alloc (.cells #[] 43) = wn := ⟨_, rfl⟩
        rw [hwn]
        have hb : Below wc.heap.size wc wn := (by rw [← hwn]; exact below_alloc (Nat.le_refl _) _)
        clear hwn
        obtain ⟨g3, hg⟩ : ∃ g, wc.heap.size = g := ⟨_, rfl⟩
        rw [hg]
        clear hg
        replace HBc : Hid (Below ws.heap.size ws wn) := bel HBc.out hb
        clear hb
        have Sn := old_of (HBc.out.mono hn1)
        refine hK.out _ _ Sn (fun hHeld => ?_)
        clear hK K Sn
        (try simp only [List.getElem_toArray, List.getElem_cons_zero, List.getElem_cons_succ, Act.put, List.setIfInBounds_toArray, List.set_cons_zero, List.set_cons_succ])
        obtain ⟨wc, rfl⟩ : ∃ w' : World, w' = wn := ⟨_, rfl⟩
        refine wpAnyH_ready (rs := [3]) (by kernel_rfl) (by simp) ?_
        refine (AllReadyH.cons rfl (fun K hK => ?_) AllReadyH.nil)
        · rw [if_pos (by rfl)]
          refine wp_cloneI _ (.tmp 3) (.tmp 5) ?_ ?_ N g1 _ B.ns _ B.C ?_ ?_ (HBK.out.go HBc.out).scions (Nat.le_trans HNS.out HBc.out.size) h40s ?_
          any_goals (exact rfl)
          intro v wn hrow hb
          obtain ⟨d1, e1, rfl⟩ := hrow.form
          have H1 := Lib.hid (hrow.lower HBc.out.size)
          clear hrow
          replace HBc : Hid (Below ws.heap.size ws wn) := bel HBc.out hb
          clear hb
          have Sn := old_of (HBc.out.mono hn1)
          refine hK.out _ _ Sn (fun hHeld => ?_)
          clear hK K Sn
          (try simp only [List.getElem_toArray, List.getElem_cons_zero, List.getElem_cons_succ, Act.put, List.setIfInBounds_toArray, List.set_cons_zero, List.set_cons_succ])
          obtain ⟨wc, rfl⟩ : ∃ w' : World, w' = wn := ⟨_, rfl⟩
          refine wpAnyH_ready (rs := [7]) (by kernel_rfl) (by simp) ?_
          refine (AllReadyH.cons rfl (fun K hK => ?_) AllReadyH.nil)
          · rw [if_pos (by rfl)]
            refine wp_cloneG _ (.tmp 7) (.tmp 9) ?_ ?_ N g2 _ B.ng _ B.P B.F ?_ ?_ (HBK.out.go HBc.out).gardens (Nat.le_trans HNS.out HBc.out.size) h40g ?_
            any_goals (exact rfl)
            intro v wn hrow hb
            obtain ⟨d2, e2, rfl⟩ := hrow.form
            have H2 := Lib.hid (hrow.lower HBc.out.size)
            clear hrow
            replace H1 := Lib.hid (H1.out.grow hb)
            replace HBc : Hid (Below ws.heap.size ws wn) := bel HBc.out hb
            clear hb
            have Sn := old_of (HBc.out.mono hn1)
            refine hK.out _ _ Sn (fun hHeld => ?_)
            clear hK K Sn
            (try simp only [List.getElem_toArray, List.getElem_cons_zero, List.getElem_cons_succ, Act.put, List.setIfInBounds_toArray, List.set_cons_zero, List.set_cons_succ])
            obtain ⟨wc, rfl⟩ : ∃ w' : World, w' = wn := ⟨_, rfl⟩
            refine wpAnyH_ready (rs := [11]) (by kernel_rfl) (by simp) ?_
            refine (AllReadyH.cons rfl (fun K hK => ?_) AllReadyH.nil)
            · rw [if_pos (by rfl)]
              refine wp_cloneW _ (.tmp 11) (.tmp 13) ?_ ?_ N g3 _ B.nw _ B.G B.S ?_ ?_ (HBK.out.go HBc.out).wants (Nat.le_trans HNS.out HBc.out.size) h40w ?_
              any_goals (exact rfl)
              intro v wn hrow hb
              obtain ⟨d3, e3, rfl⟩ := hrow.form
              have H3 := Lib.hid (hrow.lower HBc.out.size)
              clear hrow
              replace H1 := Lib.hid (H1.out.grow hb)
              replace H2 := Lib.hid (H2.out.grow hb)
              replace HBc : Hid (Below ws.heap.size ws wn) := bel HBc.out hb
              clear hb
              have Sn := old_of (HBc.out.mono hn1)
              refine hK.out _ _ Sn (fun hHeld => ?_)
              clear hK K Sn
              (try simp only [List.getElem_toArray, List.getElem_cons_zero, List.getElem_cons_succ, Act.put, List.setIfInBounds_toArray, List.set_cons_zero, List.set_cons_succ])
              obtain ⟨wc, rfl⟩ : ∃ w' : World, w' = wn := ⟨_, rfl⟩
              (refine wpAnyH_take (i := 12) (v := ?_) rfl (by kernel_rfl) (by kernel_rfl) (by kernel_rfl) (fun _ _ _ h => h) (Or.inl ⟨by rfl, ?_⟩) (by assumption) ?_; rotate_left; (focus (intro w hSw; (try dsimp only at hSw); go_simp; (try with_reducible rfl))); (try simp only [List.getElem_toArray, List.getElem_cons_zero, List.getElem_cons_succ, Act.put, List.setIfInBounds_toArray, List.set_cons_zero, List.set_cons_succ]))
              refine wpAnyH_ready (rs := [13]) (by kernel_rfl) (by simp) ?_
              refine AllReadyH.cons rfl (fun K hK => ?_) AllReadyH.nil
              have hz := (HBc.out.block (w.heap.size + 1) hsz1).trans HR1.out
              have z0 := cell_blk hz 0 rfl
              have y0 := free_blk hz 0
              have z1 := cell_blk hz 1 rfl
              have y1 := free_blk hz 1
              have z2 := cell_blk hz 2 rfl
              have y2 := free_blk hz 2
              go_simp
              obtain ⟨wn, hw4, hg4, ho4, hb4⟩ := put3o hz (.slice d1 B.ns e1) (.slice d2 B.ng e2) (.slice d3 B.nw e3)
              rw [hw4]
              have HBn : Hid (Below (w.heap.size + 1) ws wn) := (HBc.out.mono hn1).trans hb4
              have Sn := old_of HBn.out
              refine hK.out _ _ Sn (fun hHeld => ?_)
              clear hK K Sn hHeld
              refine wpAnyH_done (by kernel_rfl) ?_ _
              clear z0 z1 z2 y0 y1 y2 hw4
              have HG4 := Lib.hid hg4
              have HO4 := Lib.hid ho4
              have hq := ho4 w.heap.size (by omega)
              clear hg4 ho4 hq hb4 hz
              go_wp2
              refine bodyPost_ret (v := .agg #[.slice d1 B.ns e1, .slice d2 B.ng e2, .slice d3 B.nw e3]) (resL rfl rfl HG4.out) rfl ?_
              exact ⟨_, rfl, copy_end HB.out hsz1 HBc.out H1.out H2.out H3.out HBn.out HO4.out⟩
    · go_simp
      obtain ⟨wn, hwn⟩ : ∃ wn : World, wc.alloc (.cells #[] 43) = wn := ⟨_, rfl⟩
      rw [hwn]
      have hb : Below wc.heap.size wc wn := (by rw [← hwn]; exact below_alloc (Nat.le_refl _) _)
      clear hwn
      obtain ⟨g3, hg⟩ : ∃ g, wc.heap.size = g := ⟨_, rfl⟩
      rw [hg]
      clear hg
      replace HBc : Hid (Below ws.heap.size ws wn) := bel HBc.out hb
      clear hb
      have Sn := old_of (HBc.out.mono hn1)
      refine hK.out _ _ Sn (fun hHeld => ?_)
      clear hK K Sn
      (try simp only [List.getElem_toArray, List.getElem_cons_zero, List.getElem_cons_succ, Act.put, List.setIfInBounds_toArray, List.set_cons_zero, List.set_cons_succ])
      obtain ⟨wc, rfl⟩ : ∃ w' : World, w' = wn := ⟨_, rfl⟩
      refine wpAnyH_ready (rs := [0]) (by kernel_rfl) (by simp) ?_
      refine (AllReadyH.cons rfl (fun K hK => ?_) AllReadyH.nil)
      · go_simp
        obtain ⟨wn, hwn⟩ : ∃ wn : World, wc.alloc (.cells #[] 3) = wn := ⟨_, rfl⟩
        rw [hwn]
        have hb : Below wc.heap.size wc wn := (by rw [← hwn]; exact below_alloc (Nat.le_refl _) _)
        clear hwn
        obtain ⟨g1, hg⟩ : ∃ g, wc.heap.size = g := ⟨_, rfl⟩
        rw [hg]
        clear hg
        replace HBc : Hid (Below ws.heap.size ws wn) := bel HBc.out hb
        clear hb
        have Sn := old_of (HBc.out.mono hn1)
        refine hK.out _ _ Sn (fun hHeld => ?_)
        clear hK K Sn
        (try simp only [List.getElem_toArray, List.getElem_cons_zero, List.getElem_cons_succ, Act.put, List.setIfInBounds_toArray, List.set_cons_zero, List.set_cons_succ])
        obtain ⟨wc, rfl⟩ : ∃ w' : World, w' = wn := ⟨_, rfl⟩
        refine wpAnyH_ready (rs := [3]) (by kernel_rfl) (by simp) ?_
        refine (AllReadyH.cons rfl (fun K hK => ?_) AllReadyH.nil)
        · rw [if_pos (by rfl)]
          refine wp_cloneI _ (.tmp 3) (.tmp 5) ?_ ?_ N g1 _ B.ns _ B.C ?_ ?_ (HBK.out.go HBc.out).scions (Nat.le_trans HNS.out HBc.out.size) h40s ?_
          any_goals (exact rfl)
          intro v wn hrow hb
          obtain ⟨d1, e1, rfl⟩ := hrow.form
          have H1 := Lib.hid (hrow.lower HBc.out.size)
          clear hrow
          replace HBc : Hid (Below ws.heap.size ws wn) := bel HBc.out hb
          clear hb
          have Sn := old_of (HBc.out.mono hn1)
          refine hK.out _ _ Sn (fun hHeld => ?_)
          clear hK K Sn
          (try simp only [List.getElem_toArray, List.getElem_cons_zero, List.getElem_cons_succ, Act.put, List.setIfInBounds_toArray, List.set_cons_zero, List.set_cons_succ])
          obtain ⟨wc, rfl⟩ : ∃ w' : World, w' = wn := ⟨_, rfl⟩
          refine wpAnyH_ready (rs := [7]) (by kernel_rfl) (by simp) ?_
          refine (AllReadyH.cons rfl (fun K hK => ?_) AllReadyH.nil)
          · rw [if_pos (by rfl)]
            refine wp_cloneG _ (.tmp 7) (.tmp 9) ?_ ?_ N g2 _ B.ng _ B.P B.F ?_ ?_ (HBK.out.go HBc.out).gardens (Nat.le_trans HNS.out HBc.out.size) h40g ?_
            any_goals (exact rfl)
            intro v wn hrow hb
            obtain ⟨d2, e2, rfl⟩ := hrow.form
            have H2 := Lib.hid (hrow.lower HBc.out.size)
            clear hrow
            replace H1 := Lib.hid (H1.out.grow hb)
            replace HBc : Hid (Below ws.heap.size ws wn) := bel HBc.out hb
            clear hb
            have Sn := old_of (HBc.out.mono hn1)
            refine hK.out _ _ Sn (fun hHeld => ?_)
            clear hK K Sn
            (try simp only [List.getElem_toArray, List.getElem_cons_zero, List.getElem_cons_succ, Act.put, List.setIfInBounds_toArray, List.set_cons_zero, List.set_cons_succ])
            obtain ⟨wc, rfl⟩ : ∃ w' : World, w' = wn := ⟨_, rfl⟩
            refine wpAnyH_ready (rs := [11]) (by kernel_rfl) (by simp) ?_
            refine (AllReadyH.cons rfl (fun K hK => ?_) AllReadyH.nil)
            · rw [if_pos (by rfl)]
              refine wp_cloneW _ (.tmp 11) (.tmp 13) ?_ ?_ N g3 _ B.nw _ B.G B.S ?_ ?_ (HBK.out.go HBc.out).wants (Nat.le_trans HNS.out HBc.out.size) h40w ?_
              any_goals (exact rfl)
              intro v wn hrow hb
              obtain ⟨d3, e3, rfl⟩ := hrow.form
              have H3 := Lib.hid (hrow.lower HBc.out.size)
              clear hrow
              replace H1 := Lib.hid (H1.out.grow hb)
              replace H2 := Lib.hid (H2.out.grow hb)
              replace HBc : Hid (Below ws.heap.size ws wn) := bel HBc.out hb
              clear hb
              have Sn := old_of (HBc.out.mono hn1)
              refine hK.out _ _ Sn (fun hHeld => ?_)
              clear hK K Sn
              (try simp only [List.getElem_toArray, List.getElem_cons_zero, List.getElem_cons_succ, Act.put, List.setIfInBounds_toArray, List.set_cons_zero, List.set_cons_succ])
              obtain ⟨wc, rfl⟩ : ∃ w' : World, w' = wn := ⟨_, rfl⟩
              (refine wpAnyH_take (i := 12) (v := ?_) rfl (by kernel_rfl) (by kernel_rfl) (by kernel_rfl) (fun _ _ _ h => h) (Or.inl ⟨by rfl, ?_⟩) (by assumption) ?_; rotate_left; (focus (intro w hSw; (try dsimp only at hSw); go_simp; (try with_reducible rfl))); (try simp only [List.getElem_toArray, List.getElem_cons_zero, List.getElem_cons_succ, Act.put, List.setIfInBounds_toArray, List.set_cons_zero, List.set_cons_succ]))
              refine wpAnyH_ready (rs := [13]) (by kernel_rfl) (by simp) ?_
              refine AllReadyH.cons rfl (fun K hK => ?_) AllReadyH.nil
              have hz := (HBc.out.block (w.heap.size + 1) hsz1).trans HR1.out
              have z0 := cell_blk hz 0 rfl
              have y0 := free_blk hz 0
              have z1 := cell_blk hz 1 rfl
              have y1 := free_blk hz 1
              have z2 := cell_blk hz 2 rfl
              have y2 := free_blk hz 2
              go_simp
              obtain ⟨wn, hw4, hg4, ho4, hb4⟩ := put3o hz (.slice d1 B.ns e1) (.slice d2 B.ng e2) (.slice d3 B.nw e3)
              rw [hw4]
              have HBn : Hid (Below (w.heap.size + 1) ws wn) := (HBc.out.mono hn1).trans hb4
              have Sn := old_of HBn.out
              refine hK.out _ _ Sn (fun hHeld => ?_)
              clear hK K Sn hHeld
              refine wpAnyH_done (by kernel_rfl) ?_ _
              clear z0 z1 z2 y0 y1 y2 hw4
              have HG4 := Lib.hid hg4
              have HO4 := Lib.hid ho4
              have hq := ho4 w.heap.size (by omega)
              clear hg4 ho4 hq hb4 hz
              go_wp2
              refine bodyPost_ret (v := .agg #[.slice d1 B.ns e1, .slice d2 B.ng e2, .slice d3 B.nw e3]) (resL rfl rfl HG4.out) rfl ?_
              exact ⟨_, rfl, copy_end HB.out hsz1 HBc.out H1.out H2.out H3.out HBn.out HO4.out⟩
  · go_simp
    obtain ⟨wn, hwn⟩ : ∃ wn : World, wc.alloc (.cells #[] 43) = wn := ⟨_, rfl⟩
    rw [hwn]
    have hb : Below wc.heap.size wc wn := (by rw [← hwn]; exact below_alloc (Nat.le_refl _) _)
    clear hwn
    obtain ⟨g3, hg⟩ : ∃ g, wc.heap.size = g := ⟨_, rfl⟩
    rw [hg]
    clear hg
    replace HBc : Hid (Below ws.heap.size ws wn) := bel HBc.out hb
    clear hb
    have Sn := old_of (HBc.out.mono hn1)
    refine hK.out _ _ Sn (fun hHeld => ?_)
    clear hK K Sn
    (try simp only [List.getElem_toArray, List.getElem_cons_zero, List.getElem_cons_succ, Act.put, List.setIfInBounds_toArray, List.set_cons_zero, List.set_cons_succ])
    obtain ⟨wc, rfl⟩ : ∃ w' : World, w' = wn := ⟨_, rfl⟩
    refine wpAnyH_ready (rs := [0, 4]) (by kernel_rfl) (by simp) ?_
    refine (AllReadyH.cons rfl (fun K hK => ?_) (AllReadyH.cons rfl (fun K hK => ?_) AllReadyH.nil))
    · go_simp
      obtain ⟨wn, hwn⟩ : ∃ wn : World, wc.alloc (.cells #[] 3) = wn := ⟨_, rfl⟩
      rw [hwn]
      have hb : Below wc.heap.size wc wn := (by rw [← hwn]; exact below_alloc (Nat.le_refl _) _)
      clear hwn
      obtain ⟨g1, hg⟩ : ∃ g, wc.heap.size = g := ⟨_, rfl⟩
      rw [hg]
      clear hg
      replace HBc : Hid (Below ws.heap.size ws wn) := bel HBc.out hb
      clear hb
      have Sn := old_of (HBc.out.mono hn1)
      refine hK.out _ _ Sn (fun hHeld => ?_)
      clear hK K Sn
      (try simp only [List.getElem_toArray, List.getElem_cons_zero, List.getElem_cons_succ, Act.put, List.setIfInBounds_toArray, List.set_cons_zero, List.set_cons_succ])
      obtain ⟨wc, rfl⟩ : ∃ w' : World, w' = wn := ⟨_, rfl⟩
      refine wpAnyH_ready (rs := [3, 4]) (by kernel_rfl) (by simp) ?_
      refine (AllReadyH.cons rfl (fun K hK => ?_) (AllReadyH.cons rfl (fun K hK => ?_) AllReadyH.nil))
      · rw [if_pos (by rfl)]
        refine wp_cloneI _ (.tmp 3) (.tmp 5) ?_ ?_ N g1 _ B.ns _ B.C ?_ ?_ (HBK.out.go HBc.out).scions (Nat.le_trans HNS.out HBc.out.size) h40s ?_
        any_goals (exact rfl)
        intro v wn hrow hb
        obtain ⟨d1, e1, rfl⟩ := hrow.form
        have H1 := Lib.hid (hrow.lower HBc.out.size)
        clear hrow
        replace HBc : Hid (Below ws.heap.size ws wn) := bel HBc.out hb
        clear hb
        have Sn := old_of (HBc.out.mono hn1)
        refine hK.out _ _ Sn (fun hHeld => ?_)
        clear hK K Sn
        (try simp only [List.getElem_toArray, List.getElem_cons_zero, List.getElem_cons_succ, Act.put, List.setIfInBounds_toArray, List.set_cons_zero, List.set_cons_succ])
        obtain ⟨wc, rfl⟩ : ∃ w' : World, w' = wn := ⟨_, rfl⟩
        refine wpAnyH_ready (rs := [4]) (by kernel_rfl) (by simp) ?_
        refine (AllReadyH.cons rfl (fun K hK => ?_) AllReadyH.nil)
        · go_simp
          obtain ⟨wn, hwn⟩ : ∃ wn : World, wc.alloc (.cells #[] 49) = wn := ⟨_, rfl⟩
          rw [hwn]
          have hb : Below wc.heap.size wc wn := (by rw [← hwn]; exact below_alloc (Nat.le_refl _) _)
          clear hwn
          obtain ⟨g2, hg⟩ : ∃ g, wc.heap.size = g := ⟨_, rfl⟩
          rw [hg]
          clear hg
          replace H1 := Lib.hid (H1.out.grow hb)
          replace HBc : Hid (Below ws.heap.size ws wn) := bel HBc.out hb
          clear hb
          have Sn := old_of (HBc.out.mono hn1)
          refine hK.out _ _ Sn (fun hHeld => ?_)
          clear hK K Sn
          (try simp only [List.getElem_toArray, List.getElem_cons_zero, List.getElem_cons_succ, Act.put, List.setIfInBounds_toArray, List.set_cons_zero, List.set_cons_succ])
          obtain ⟨wc, rfl⟩ : ∃ w' : World, w' = wn := ⟨_, rfl⟩
          refine wpAnyH_ready (rs := [7]) (by kernel_rfl) (by simp) ?_
          refine (AllReadyH.cons rfl (fun K hK => ?_) AllReadyH.nil)
          · rw [if_pos (by rfl)]
            refine wp_cloneG _ (.tmp 7) (.tmp 9) ?_ ?_ N g2 _ B.ng _ B.P B.F ?_ ?_ (HBK.out.go HBc.out).gardens (Nat.le_trans HNS.out HBc.out.size) h40g ?_
            any_goals (exact rfl)
            intro v wn hrow hb
            obtain ⟨d2, e2, rfl⟩ := hrow.form
            have H2 := Lib.hid (hrow.lower HBc.out.size)
            clear hrow
            replace H1 := Lib.hid (H1.out.grow hb)
            replace HBc : Hid (Below ws.heap.size ws wn) := bel HBc.out hb
            clear hb
            have Sn := old_of (HBc.out.mono hn1)
            refine hK.out _ _ Sn (fun hHeld => ?_)
            clear hK K Sn
            (try simp only [List.getElem_toArray, List.getElem_cons_zero, List.getElem_cons_succ, Act.put, List.setIfInBounds_toArray, List.set_cons_zero, List.set_cons_succ])
            obtain ⟨wc, rfl⟩ : ∃ w' : World, w' = wn := ⟨_, rfl⟩
            refine wpAnyH_ready (rs := [11]) (by kernel_rfl) (by simp) ?_
            refine (AllReadyH.cons rfl (fun K hK => ?_) AllReadyH.nil)
            · rw [if_pos (by rfl)]
              refine wp_cloneW _ (.tmp 11) (.tmp 13) ?_ ?_ N g3 _ B.nw _ B.G B.S ?_ ?_ (HBK.out.go HBc.out).wants (Nat.le_trans HNS.out HBc.out.size) h40w ?_
              any_goals (exact rfl)
              intro v wn hrow hb
              obtain ⟨d3, e3, rfl⟩ := hrow.form
              have H3 := Lib.hid (hrow.lower HBc.out.size)
              clear hrow
              replace H1 := Lib.hid (H1.out.grow hb)
              replace H2 := Lib.hid (H2.out.grow hb)
              replace HBc : Hid (Below ws.heap.size ws wn) := bel HBc.out hb
              clear hb
              have Sn := old_of (HBc.out.mono hn1)
              refine hK.out _ _ Sn (fun hHeld => ?_)
              clear hK K Sn
              (try simp only [List.getElem_toArray, List.getElem_cons_zero, List.getElem_cons_succ, Act.put, List.setIfInBounds_toArray, List.set_cons_zero, List.set_cons_succ])
              obtain ⟨wc, rfl⟩ : ∃ w' : World, w' = wn := ⟨_, rfl⟩
              (refine wpAnyH_take (i := 12) (v := ?_) rfl (by kernel_rfl) (by kernel_rfl) (by kernel_rfl) (fun _ _ _ h => h) (Or.inl ⟨by rfl, ?_⟩) (by assumption) ?_; rotate_left; (focus (intro w hSw; (try dsimp only at hSw); go_simp; (try with_reducible rfl))); (try simp only [List.getElem_toArray, List.getElem_cons_zero, List.getElem_cons_succ, Act.put, List.setIfInBounds_toArray, List.set_cons_zero, List.set_cons_succ]))
              refine wpAnyH_ready (rs := [13]) (by kernel_rfl) (by simp) ?_
              refine AllReadyH.cons rfl (fun K hK => ?_) AllReadyH.nil
              have hz := (HBc.out.block (w.heap.size + 1) hsz1).trans HR1.out
              have z0 := cell_blk hz 0 rfl
              have y0 := free_blk hz 0
              have z1 := cell_blk hz 1 rfl
              have y1 := free_blk hz 1
              have z2 := cell_blk hz 2 rfl
              have y2 := free_blk hz 2
              go_simp
              obtain ⟨wn, hw4, hg4, ho4, hb4⟩ := put3o hz (.slice d1 B.ns e1) (.slice d2 B.ng e2) (.slice d3 B.nw e3)
              rw [hw4]
              have HBn : Hid (Below (w.heap.size + 1) ws wn) := (HBc.out.mono hn1).trans hb4
              have Sn := old_of HBn.out
              refine hK.out _ _ Sn (fun hHeld => ?_)
              clear hK K Sn hHeld
              refine wpAnyH_done (by kernel_rfl) ?_ _
              clear z0 z1 z2 y0 y1 y2 hw4
              have HG4 := Lib.hid hg4
              have HO4 := Lib.hid ho4
              have hq := ho4 w.heap.size (by omega)
              clear hg4 ho4 hq hb4 hz
              go_wp2
              refine bodyPost_ret (v := .agg #[.slice d1 B.ns e1, .slice d2 B.ng e2, .slice d3 B.nw e3]) (resL rfl rfl HG4.out) rfl ?_
              exact ⟨_, rfl, copy_end HB.out hsz1 HBc.out H1.out H2.out H3.out HBn.out HO4.out⟩
      · go_simp
        obtain ⟨wn, hwn⟩ : ∃ wn : World, wc.alloc (.cells #[] 49) = wn := ⟨_, rfl⟩
        rw [hwn]
        have hb : Below wc.heap.size wc wn := (by rw [← hwn]; exact below_alloc (Nat.le_refl _) _)
        clear hwn
        obtain ⟨g2, hg⟩ : ∃ g, wc.heap.size = g := ⟨_, rfl⟩
        rw [hg]
        clear hg
        replace HBc : Hid (Below ws.heap.size ws wn) := bel HBc.out hb
        clear hb
        have Sn := old_of (HBc.out.mono hn1)
        refine hK.out _ _ Sn (fun hHeld => ?_)
        clear hK K Sn
        (try simp only [List.getElem_toArray, List.getElem_cons_zero, List.getElem_cons_succ, Act.put, List.setIfInBounds_toArray, List.set_cons_zero, List.set_cons_succ])
        obtain ⟨wc, rfl⟩ : ∃ w' : World, w' = wn := ⟨_, rfl⟩
        refine wpAnyH_ready (rs := [3]) (by kernel_rfl) (by simp) ?_
        refine (AllReadyH.cons rfl (fun K hK => ?_) AllReadyH.nil)
        · rw [if_pos (by rfl)]
          refine wp_cloneI _ (.tmp 3) (.tmp 5) ?_ ?_ N g1 _ B.ns _ B.C ?_ ?_ (HBK.out.go HBc.out).scions (Nat.le_trans HNS.out HBc.out.size) h40s ?_
          any_goals (exact rfl)
          intro v wn hrow hb
          obtain ⟨d1, e1, rfl⟩ := hrow.form
          have H1 := Lib.hid (hrow.lower HBc.out.size)
          clear hrow
          replace HBc : Hid (Below ws.heap.size ws wn) := bel HBc.out hb
          clear hb
          have Sn := old_of (HBc.out.mono hn1)
          refine hK.out _ _ Sn (fun hHeld => ?_)
          clear hK K Sn
          (try simp only [List.getElem_toArray, List.getElem_cons_zero, List.getElem_cons_succ, Act.put, List.setIfInBounds_toArray, List.set_cons_zero, List.set_cons_succ])
          obtain ⟨wc, rfl⟩ : ∃ w' : World, w' = wn := ⟨_, rfl⟩
          refine wpAnyH_ready (rs := [7]) (by kernel_rfl) (by simp) ?_
          refine (AllReadyH.cons rfl (fun K hK => ?_) AllReadyH.nil)
          · rw [if_pos (by rfl)]
            refine wp_cloneG _ (.tmp 7) (.tmp 9) ?_ ?_ N g2 _ B.ng _ B.P B.F ?_ ?_ (HBK.out.go HBc.out).gardens (Nat.le_trans HNS.out HBc.out.size) h40g ?_
            any_goals (exact rfl)
            intro v wn hrow hb
            obtain ⟨d2, e2, rfl⟩ := hrow.form
            have H2 := Lib.hid (hrow.lower HBc.out.size)
            clear hrow
            replace H1 := Lib.hid (H1.out.grow hb)
            replace HBc : Hid (Below ws.heap.size ws wn) := bel HBc.out hb
            clear hb
            have Sn := old_of (HBc.out.mono hn1)
            refine hK.out _ _ Sn (fun hHeld => ?_)
            clear hK K Sn
            (try simp only [List.getElem_toArray, List.getElem_cons_zero, List.getElem_cons_succ, Act.put, List.setIfInBounds_toArray, List.set_cons_zero, List.set_cons_succ])
            obtain ⟨wc, rfl⟩ : ∃ w' : World, w' = wn := ⟨_, rfl⟩
            refine wpAnyH_ready (rs := [11]) (by kernel_rfl) (by simp) ?_
            refine (AllReadyH.cons rfl (fun K hK => ?_) AllReadyH.nil)
            · rw [if_pos (by rfl)]
              refine wp_cloneW _ (.tmp 11) (.tmp 13) ?_ ?_ N g3 _ B.nw _ B.G B.S ?_ ?_ (HBK.out.go HBc.out).wants (Nat.le_trans HNS.out HBc.out.size) h40w ?_
              any_goals (exact rfl)
              intro v wn hrow hb
              obtain ⟨d3, e3, rfl⟩ := hrow.form
              have H3 := Lib.hid (hrow.lower HBc.out.size)
              clear hrow
              replace H1 := Lib.hid (H1.out.grow hb)
              replace H2 := Lib.hid (H2.out.grow hb)
              replace HBc : Hid (Below ws.heap.size ws wn) := bel HBc.out hb
              clear hb
              have Sn := old_of (HBc.out.mono hn1)
              refine hK.out _ _ Sn (fun hHeld => ?_)
              clear hK K Sn
              (try simp only [List.getElem_toArray, List.getElem_cons_zero, List.getElem_cons_succ, Act.put, List.setIfInBounds_toArray, List.set_cons_zero, List.set_cons_succ])
              obtain ⟨wc, rfl⟩ : ∃ w' : World, w' = wn := ⟨_, rfl⟩
              (refine wpAnyH_take (i := 12) (v := ?_) rfl (by kernel_rfl) (by kernel_rfl) (by kernel_rfl) (fun _ _ _ h => h) (Or.inl ⟨by rfl, ?_⟩) (by assumption) ?_; rotate_left; (focus (intro w hSw; (try dsimp only at hSw); go_simp; (try with_reducible rfl))); (try simp only [List.getElem_toArray, List.getElem_cons_zero, List.getElem_cons_succ, Act.put, List.setIfInBounds_toArray, List.set_cons_zero, List.set_cons_succ]))
              refine wpAnyH_ready (rs := [13]) (by kernel_rfl) (by simp) ?_
              refine AllReadyH.cons rfl (fun K hK => ?_) AllReadyH.nil
              have hz := (HBc.out.block (w.heap.size + 1) hsz1).trans HR1.out
              have z0 := cell_blk hz 0 rfl
              have y0 := free_blk hz 0
              have z1 := cell_blk hz 1 rfl
              have y1 := free_blk hz 1
              have z2 := cell_blk hz 2 rfl
              have y2 := free_blk hz 2
              go_simp
              obtain ⟨wn, hw4, hg4, ho4, hb4⟩ := put3o hz (.slice d1 B.ns e1) (.slice d2 B.ng e2) (.slice d3 B.nw e3)
              rw [hw4]
              have HBn : Hid (Below (w.heap.size + 1) ws wn) := (HBc.out.mono hn1).trans hb4
              have Sn := old_of HBn.out
              refine hK.out _ _ Sn (fun hHeld => ?_)
              clear hK K Sn hHeld
              refine wpAnyH_done (by kernel_rfl) ?_ _
              clear z0 z1 z2 y0 y1 y2 hw4
              have HG4 := Lib.hid hg4
              have HO4 := Lib.hid ho4
              have hq := ho4 w.heap.size (by omega)
              clear hg4 ho4 hq hb4 hz
              go_wp2
              refine bodyPost_ret (v := .agg #[.slice d1 B.ns e1, .slice d2 B.ng e2, .slice d3 B.nw e3]) (resL rfl rfl HG4.out) rfl ?_
              exact ⟨_, rfl, copy_end HB.out hsz1 HBc.out H1.out H2.out H3.out HBn.out HO4.out⟩
    · go_simp
      obtain ⟨wn, hwn⟩ : ∃ wn : World, wc.alloc (.cells #[] 49) = wn := ⟨_, rfl⟩
      rw [hwn]
      have hb : Below wc.heap.size wc wn := (by rw [← hwn]; exact below_alloc (Nat.le_refl _) _)
      clear hwn
      obtain ⟨g2, hg⟩ : ∃ g, wc.heap.size = g := ⟨_, rfl⟩
      rw [hg]
      clear hg
      replace HBc : Hid (Below ws.heap.size ws wn) := bel HBc.out hb
      clear hb
      have Sn := old_of (HBc.out.mono hn1)
      refine hK.out _ _ Sn (fun hHeld => ?_)
      clear hK K Sn
      (try simp only [List.getElem_toArray, List.getElem_cons_zero, List.getElem_cons_succ, Act.put, List.setIfInBounds_toArray, List.set_cons_zero, List.set_cons_succ])
      obtain ⟨wc, rfl⟩ : ∃ w' : World, w' = wn := ⟨_, rfl⟩
      refine wpAnyH_ready (rs := [0]) (by kernel_rfl) (by simp) ?_
      refine (AllReadyH.cons rfl (fun K hK => ?_) AllReadyH.nil)
      · go_simp
        obtain ⟨wn, hwn⟩ : ∃ wn : World, wc.alloc (.cells #[] 3) = wn := ⟨_, rfl⟩
        rw [hwn]
        have hb : Below wc.heap.size wc wn := (by rw [← hwn]; exact below_alloc (Nat.le_refl _) _)
        clear hwn
        obtain ⟨g1, hg⟩ : ∃ g, wc.heap.size = g := ⟨_, rfl⟩
        rw [hg]
        clear hg
        replace HBc : Hid (Below ws.heap.size ws wn) := bel HBc.out hb
        clear hb
        have Sn := old_of (HBc.out.mono hn1)
        refine hK.out _ _ Sn (fun hHeld => ?_)
        clear hK K Sn
        (try simp only [List.getElem_toArray, List.getElem_cons_zero, List.getElem_cons_succ, Act.put, List.setIfInBounds_toArray, List.set_cons_zero, List.set_cons_succ])
        obtain ⟨wc, rfl⟩ : ∃ w' : World, w' = wn := ⟨_, rfl⟩
        refine wpAnyH_ready (rs := [3]) (by kernel_rfl) (by simp) ?_
        refine (AllReadyH.cons rfl (fun K hK => ?_) AllReadyH.nil)
        · rw [if_pos (by rfl)]
          refine wp_cloneI _ (.tmp 3) (.tmp 5) ?_ ?_ N g1 _ B.ns _ B.C ?_ ?_ (HBK.out.go HBc.out).scions (Nat.le_trans HNS.out HBc.out.size) h40s ?_
          any_goals (exact rfl)
          intro v wn hrow hb
          obtain ⟨d1, e1, rfl⟩ := hrow.form
          have H1 := Lib.hid (hrow.lower HBc.out.size)
          clear hrow
          replace HBc : Hid (Below ws.heap.size ws wn) := bel HBc.out hb
          clear hb
          have Sn := old_of (HBc.out.mono hn1)
          refine hK.out _ _ Sn (fun hHeld => ?_)
          clear hK K Sn
          (try simp only [List.getElem_toArray, List.getElem_cons_zero, List.getElem_cons_succ, Act.put, List.setIfInBounds_toArray, List.set_cons_zero, List.set_cons_succ])
          obtain ⟨wc, rfl⟩ : ∃ w' : World, w' = wn := ⟨_, rfl⟩
          refine wpAnyH_ready (rs := [7]) (by kernel_rfl) (by simp) ?_
          refine (AllReadyH.cons rfl (fun K hK => ?_) AllReadyH.nil)
          · rw [if_pos (by rfl)]
            refine wp_cloneG _ (.tmp 7) (.tmp 9) ?_ ?_ N g2 _ B.ng _ B.P B.F ?_ ?_ (HBK.out.go HBc.out).gardens (Nat.le_trans HNS.out HBc.out.size) h40g ?_
            any_goals (exact rfl)
            intro v wn hrow hb
            obtain ⟨d2, e2, rfl⟩ := hrow.form
            have H2 := Lib.hid (hrow.lower HBc.out.size)
            clear hrow
            replace H1 := Lib.hid (H1.out.grow hb)
            replace HBc : Hid (Below ws.heap.size ws wn) := bel HBc.out hb
            clear hb
            have Sn := old_of (HBc.out.mono hn1)
            refine hK.out _ _ Sn (fun hHeld => ?_)
            clear hK K Sn
            (try simp only [List.getElem_toArray, List.getElem_cons_zero, List.getElem_cons_succ, Act.put, List.setIfInBounds_toArray, List.set_cons_zero, List.set_cons_succ])
            obtain ⟨wc, rfl⟩ : ∃ w' : World, w' = wn := ⟨_, rfl⟩
            refine wpAnyH_ready (rs := [11]) (by kernel_rfl) (by simp) ?_
            refine (AllReadyH.cons rfl (fun K hK => ?_) AllReadyH.nil)
            · rw [if_pos (by rfl)]
              refine wp_cloneW _ (.tmp 11) (.tmp 13) ?_ ?_ N g3 _ B.nw _ B.G B.S ?_ ?_ (HBK.out.go HBc.out).wants (Nat.le_trans HNS.out HBc.out.size) h40w ?_
              any_goals (exact rfl)
              intro v wn hrow hb
              obtain ⟨d3, e3, rfl⟩ := hrow.form
              have H3 := Lib.hid (hrow.lower HBc.out.size)
              clear hrow
              replace H1 := Lib.hid (H1.out.grow hb)
              replace H2 := Lib.hid (H2.out.grow hb)
              replace HBc : Hid (Below ws.heap.size ws wn) := bel HBc.out hb
              clear hb
              have Sn := old_of (HBc.out.mono hn1)
              refine hK.out _ _ Sn (fun hHeld => ?_)
              clear hK K Sn
              (try simp only [List.getElem_toArray, List.getElem_cons_zero, List.getElem_cons_succ, Act.put, List.setIfInBounds_toArray, List.set_cons_zero, List.set_cons_succ])
              obtain ⟨wc, rfl⟩ : ∃ w' : World, w' = wn := ⟨_, rfl⟩
              (refine wpAnyH_take (i := 12) (v := ?_) rfl (by kernel_rfl) (by kernel_rfl) (by kernel_rfl) (fun _ _ _ h => h) (Or.inl ⟨by rfl, ?_⟩) (by assumption) ?_; rotate_left; (focus (intro w hSw; (try dsimp only at hSw); go_simp; (try with_reducible rfl))); (try simp only [List.getElem_toArray, List.getElem_cons_zero, List.getElem_cons_succ, Act.put, List.setIfInBounds_toArray, List.set_cons_zero, List.set_cons_succ]))
              refine wpAnyH_ready (rs := [13]) (by kernel_rfl) (by simp) ?_
              refine AllReadyH.cons rfl (fun K hK => ?_) AllReadyH.nil
              have hz := (HBc.out.block (w.heap.size + 1) hsz1).trans HR1.out
              have z0 := cell_blk hz 0 rfl
              have y0 := free_blk hz 0
              have z1 := cell_blk hz 1 rfl
              have y1 := free_blk hz 1
              have z2 := cell_blk hz 2 rfl
              have y2 := free_blk hz 2
              go_simp
              obtain ⟨wn, hw4, hg4, ho4, hb4⟩ := put3o hz (.slice d1 B.ns e1) (.slice d2 B.ng e2) (.slice d3 B.nw e3)
              rw [hw4]
              have HBn : Hid (Below (w.heap.size + 1) ws wn) := (HBc.out.mono hn1).trans hb4
              have Sn := old_of HBn.out
              refine hK.out _ _ Sn (fun hHeld => ?_)
              clear hK K Sn hHeld
              refine wpAnyH_done (by kernel_rfl) ?_ _
              clear z0 z1 z2 y0 y1 y2 hw4
              have HG4 := Lib.hid hg4
              have HO4 := Lib.hid ho4
              have hq := ho4 w.heap.size (by omega)
              clear hg4 ho4 hq hb4 hz
              go_wp2
              refine bodyPost_ret (v := .agg #[.slice d1 B.ns e1, .slice d2 B.ng e2, .slice d3 B.nw e3]) (resL rfl rfl HG4.out) rfl ?_
              exact ⟨_, rfl, copy_end HB.out hsz1 HBc.out H1.out H2.out H3.out HBn.out HO4.out⟩

end Go.Proofs.Ytnnngbnimmcjiaa
