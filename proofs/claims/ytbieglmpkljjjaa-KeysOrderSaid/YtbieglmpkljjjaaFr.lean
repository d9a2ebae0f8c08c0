/-
  Fr: Fruits of the reference.
-/
import Derived.Test.YtbieglmpkljjjaaIdle
import Derived.ArgAppend
import Derived.Test.YtbieglmpkljjjaaRef1
import Derived.Deep.RegionHeld3
namespace Go.Proofs.Ytbieglmpkljjjaa
open Go.RowKit

theorem append_none0 (w : World) {P : Program} {t ty e : TypeId} {i : TypeInfo} (ht : P.underlying t = some (.slice e)) (hi : P.info? e = some i) {v : Value} {base n : Nat} {xs : List Value} (A : Option Addr) (c : Nat) (hown : w.ownsRow base e 1 v n xs) :
    (Builtin.append_ #[t, t] ty #[v, .slice A 0 c]).run P w = .ok v w := by
  rcases hown.2 with ⟨rfl, rfl⟩ | ⟨g, cap, cur, rfl, _, _, hnc, _⟩
  · cases A <;> simp [Builtin.append_, run_underlying ht, sizeOf, typeInfo, hi, Builtin.lenOf, Builtin.firstCells, storeCells, loadCells, loadCellsFrom]
  · cases A <;> simp [Builtin.append_, run_underlying ht, sizeOf, typeInfo, hi, Builtin.lenOf, Builtin.firstCells, hnc, storeCells, loadCells, loadCellsFrom]

theorem grown_refl (w : World) (r : Option Nat) : w.grownBy w r := ⟨rfl, rfl, rfl, Nat.le_refl _, fun _ _ _ => rfl⟩

/-- append(l, xs...) of numbers -/
theorem wp_appendInts (w : World) {o : Oper} {a : Act} {K : Act → World → Prop} {Q : Exit → Act → World → Prop} (s x : Operand)
    (ho : o.op = .call { callee := .builtin .append, args := #[s, x], argTypes := #[22, 22] })
    (base : Nat) (v : Value) (l : List Int) (hs : a.eval s = v) (hown : OwnI base w v l) (N : Nat) (A : Option Addr) (m c : Nat) (X : Nat → Int) (hx : a.eval x = .slice A m c)
    (hi : IntsAt N w (.slice A m c) m X) (h40 : l.length + m ≤ 1000000) (hbase : base ≤ w.heap.size)
    (h : ∀ v' w', OwnI base w' v' (l ++ fromF m X) → w.grownBy w' v.ownBlock → Below base w w' → K (a.put o.dst v') w') : o.wp Try.prog a w K Q := by
  obtain ⟨i0, hi0, hz0, hz1, hz2⟩ := info_parts Try.infoInt
  rcases Nat.eq_zero_or_pos m with h0 | h0
  · subst h0
    have hrun := append_none0 w (P := Try.prog) (ty := o.type) Try.underlying22 hi0 A c hown
    have hk := h v w (by simpa [fromF] using hown) (grown_refl _ _) (Below.refl _ _)
    unfold Oper.wp execOp
    simp only [ho, resolve, invoke, builtin, Sem.run_bind, Sem.run_pure, Result.andThen_ok, List.map_toArray, List.map_cons, List.map_nil, hs, hx, hrun]
    exact hk
  · obtain ⟨b, off, e, hb, hr⟩ := hi.cells h0
    cases e
    refine wp_append_own w s x 22 ho base 3 i0 (.int .i64 0) 1 8 Try.underlying22 hi0 hz0 hz1 hz2 rfl (by decide) v l.length _ hs hown ⟨b, off, none⟩ m c ((fromF m X).map (Value.int .i64)) hx (by simp [fromF]) (fun j u hj => ?_) (by simp [Value.oneCell']) (by unfold maxLen; omega) (by omega) hbase fun v' w' h1 h2 _ => h v' w' ?_ h2 ((Below.refl _ _).grown h2 hbase fun j e => (hown.lt j e).1)
    · have hjm : j < m := by
        have := (List.getElem?_eq_some_iff.1 hj).1
        simpa [fromF] using this
      have hu : u = .int .i64 (X j) := by
        rw [List.getElem?_map] at hj
        simp [fromF, hjm] at hj
        exact hj.symm
      have e : (⟨b, off, none⟩ : Addr).add j = ⟨b, off + j, none⟩ := by unfold Addr.add; split <;> simp_all
      rw [hu, e]
      exact hr j hjm
    · unfold OwnI
      rw [List.length_append, List.map_append, fromF_len]
      exact h1

/-- r is a list of the numbers z, in a block of its own -/
def RowV (w : World) (r : Value) (z : List Int) : Prop := ∃ g c cur, r = .slice (some ⟨g, 0, none⟩) z.length c ∧ w.heap[g]? = some (.cells cur 3 (0, 0)) ∧ cur.toList.take z.length = z.map (Value.int .i64)
theorem OwnI.rowV {N : Nat} {w : World} {v : Value} {l : List Int} (h : OwnI N w v l) (h0 : l ≠ []) : RowV w v l := by
  obtain ⟨_, ⟨rfl, h2⟩ | ⟨g, cap, cur, rfl, h3, h4, h5, h6, h7, h8⟩⟩ := h
  · exact absurd (List.length_eq_zero_iff.1 h2) h0
  · exact ⟨g, cap, cur, rfl, h4, by simpa using h8⟩
theorem RowV.ints {w : World} {r : Value} {z : List Int} (h : RowV w r z) (hl : z.length ≤ 140737488351232) : IntsAt w.heap.size w r z.length (atL z) := by
  obtain ⟨g, c, cur, rfl, h1, h2⟩ := h
  refine ⟨_, c, rfl, hl, fun _ => ⟨g, 0, rfl, heap_lt h1, fun i hi => ⟨_, ?_, rfl⟩⟩⟩
  rw [Nat.zero_add]
  refine cell_blk h1 i ?_
  have e : (cur.toList.take z.length)[i]? = some (.int .i64 (atL z i)) := by
    rw [h2, List.getElem?_map, List.getElem?_eq_getElem hi]; simp [atL, List.getD, hi]
  rw [List.getElem?_take, if_pos hi] at e
  simpa using e
theorem RowV.keep {w w' : World} {r : Value} {z : List Int} (h : RowV w r z) (k : ∀ (g : Nat) (cur : Array Value), w.heap[g]? = some (Obj.cells cur 3 (0, 0)) → w'.heap[g]? = w.heap[g]?) : RowV w' r z := by
  obtain ⟨g, c, cur, rfl, h1, h2⟩ := h
  exact ⟨g, c, cur, rfl, (k g cur h1).trans h1, h2⟩

/-- a list of such lists, of the call's own -/
def FrRows (base lo : Nat) (w : World) (v : Value) (zs : List (List Int)) : Prop :=
  ∃ rows : List Value, w.ownsRow base 22 1 v zs.length rows ∧ ∀ (i : Nat) (z : List Int), zs[i]? = some z → ∃ r, rows[i]? = some r ∧ RowV w r z ∧ ∀ g, r.ownBlock = some g → lo ≤ g
theorem own_otherR {w : World} {lo : Nat} {v : Value} {n : Nat} {xs : List Value} (h : w.ownsRow lo 22 1 v n xs) {g : Nat} {cur : Array Value} (hg : w.heap[g]? = some (Obj.cells cur 3 (0, 0))) : some g ≠ v.ownBlock := by
  intro e
  obtain ⟨_, ⟨rfl, _⟩ | ⟨g', cap, cur', rfl, _, hh, _⟩⟩ := h
  · cases e
  · obtain rfl : g = g' := by simpa [Value.ownBlock] using e
    rw [hh] at hg
    injection hg with hg
    injection hg with _ ht
    exact absurd ht (by decide)
theorem frRows_nil (base lo : Nat) (w : World) : FrRows base lo w (.slice none 0 0) [] := ⟨[], World.ownsRow_nil _ _ _ _, fun i z h => by simp at h⟩
theorem FrRows.below {base lo : Nat} {w w' : World} {v : Value} {zs : List (List Int)} (h : FrRows base lo w v zs) (k : Below w.heap.size w w') : FrRows base lo w' v zs := by
  obtain ⟨rows, h1, h2⟩ := h
  refine ⟨rows, own_below h1 k, fun i z hz => ?_⟩
  obtain ⟨r, hr, hv, hg9⟩ := h2 i z hz
  exact ⟨r, hr, hv.keep fun g cur hg => k.block g (heap_lt hg), hg9⟩
theorem FrRows.mono {base base' lo : Nat} {w : World} {v : Value} {zs : List (List Int)} (h : FrRows base lo w v zs) (hb : base' ≤ base) : FrRows base' lo w v zs := by
  obtain ⟨rows, h1, h2⟩ := h
  exact ⟨rows, own_mono h1 hb, h2⟩
theorem FrRows.app {base lo : Nat} {w w' : World} {v v' : Value} {zs zs' : List (List Int)} {rows rows' : List Value} (h1 : w.ownsRow base 22 1 v zs.length rows) (h2 : ∀ (i : Nat) (z : List Int), zs[i]? = some z → ∃ r, rows[i]? = some r ∧ RowV w r z ∧ ∀ g, r.ownBlock = some g → lo ≤ g)
    (h3 : rows'.length = zs'.length) (h4 : ∀ (i : Nat) (z : List Int), zs'[i]? = some z → ∃ r, rows'[i]? = some r ∧ RowV w r z ∧ ∀ g, r.ownBlock = some g → lo ≤ g) (ho : w'.ownsRow base 22 1 v' (zs.length + zs'.length) (rows ++ rows')) (hg : w.grownBy w' v.ownBlock) : FrRows base lo w' v' (zs ++ zs') := by
  have hkeep : ∀ g cur, w.heap[g]? = some (Obj.cells cur 3 (0, 0)) → w'.heap[g]? = w.heap[g]? := fun g cur hh => hg.block g (heap_lt hh) (own_otherR h1 hh)
  have hl : rows.length = zs.length := by have := h1.1; omega
  refine ⟨rows ++ rows', by rw [List.length_append]; exact ho, fun i z hz => ?_⟩
  rw [List.getElem?_append] at hz ⊢
  rw [hl]
  split at hz
  · rename_i hi; rw [if_pos hi]
    obtain ⟨r, hr, hv, hg9⟩ := h2 i z hz
    exact ⟨r, hr, hv.keep hkeep, hg9⟩
  · rename_i hi; rw [if_neg hi]
    obtain ⟨r, hr, hv, hg9⟩ := h4 _ z hz
    exact ⟨r, hr, hv.keep hkeep, hg9⟩

theorem frl_le (V : Nat → Int) (n : Nat) (hV : ∀ i, i < n → V i ≤ 3) : ∀ (k : Nat) (p : List Int), p.length + k = n → (frl V k p).length ≤ 3 ^ k := by
  intro k
  induction k with
  | zero => intro p _; simp [frl]
  | succ k ih =>
    intro p hp
    have h3 := hV p.length (by omega)
    have : ∀ j, j ≤ 3 → ((List.range j).flatMap fun v : Nat => frl V k (p ++ [(v : Int)])).length ≤ j * 3 ^ k := by
      intro j hj
      induction j with
      | zero => simp
      | succ j ihj =>
        have hq := ihj (by omega)
        have hh := ih (p ++ [(j : Int)]) (by simp; omega)
        rw [List.range_succ, List.flatMap_append, List.length_append, Nat.add_mul, Nat.one_mul]
        simp only [List.flatMap_cons, List.flatMap_nil, List.append_nil]
        omega
    have h := this (V p.length).toNat (by omega)
    simp only [frl]
    refine Nat.le_trans h ?_
    rw [Nat.pow_succ, Nat.mul_comm]
    exact Nat.mul_le_mul_left _ (by omega)

def frJ (V : Nat → Int) (k : Nat) (p : List Int) (j : Nat) : List (List Int) := (List.range j).flatMap fun v : Nat => frl V k (p ++ [(v : Int)])
theorem frJ_succ (V : Nat → Int) (k : Nat) (p : List Int) (j : Nat) : frJ V k p (j + 1) = frJ V k p j ++ frl V k (p ++ [(j : Int)]) := by
  unfold frJ; rw [List.range_succ, List.flatMap_append]; simp
theorem frJ_le (V : Nat → Int) (n : Nat) (hV : ∀ i, i < n → V i ≤ 3) (k : Nat) (p : List Int) (hp : p.length + (k + 1) = n) (j : Nat) : (frJ V k p j).length ≤ j * 3 ^ k := by
  induction j with
  | zero => simp [frJ]
  | succ j ih =>
    have hh := frl_le V n hV k (p ++ [(j : Int)]) (by simp; omega)
    rw [frJ_succ, List.length_append, Nat.add_mul, Nat.one_mul]
    omega
theorem frl_pos (V : Nat → Int) (n : Nat) (hV : ∀ i, i < n → 2 ≤ V i) : ∀ (k : Nat) (p : List Int), p.length + k = n → 0 < (frl V k p).length := by
  intro k
  induction k with
  | zero => intro p _; simp [frl]
  | succ k ih =>
    intro p hp
    have h2 := hV p.length (by omega)
    obtain ⟨m, hm⟩ : ∃ m, (V p.length).toNat = m + 1 := ⟨(V p.length).toNat - 1, by omega⟩
    have := ih (p ++ [(0 : Int)]) (by simp; omega)
    simp only [frl, hm, List.range_succ_eq_map, List.flatMap_cons, List.length_append]
    simpa using Nat.lt_of_lt_of_le this (Nat.le_add_right _ _)


theorem hb_drew {N : Nat} {w w' : World} (h : Hid (Below N w w')) : Hid (Below N w w'.drew) := h.out.drew
theorem hb_alloc {N : Nat} {w w' : World} (hN : N ≤ w.heap.size) (h : Hid (Below N w w')) (o : Obj) : Hid (Below N w (w'.alloc o)) := h.out.alloc (Nat.le_trans hN h.out.size) o
theorem hb_go {N : Nat} {w w' w'' : World} (hN : N ≤ w.heap.size) (h : Hid (Below N w w')) (k : Below w'.heap.size w' w'') : Hid (Below N w w'') := step' h.out hN k
where step' {N : Nat} {a b c : World} (h : Below N a b) (hn : N ≤ a.heap.size) (k : Below b.heap.size b c) : Below N a c := h.trans (k.mono (Nat.le_trans hn h.size))
theorem sKeep {w w' : World} (h : Hid (Below w.heap.size w w')) : (∀ b o, b < w.heap.size → w'.cell? ⟨b, o, none⟩ = w.cell? ⟨b, o, none⟩) ∧ Hid (Below w.heap.size w w') := old_of h.out

theorem fromF_atL (p : List Int) : fromF p.length (atL p) = p := by
  apply List.ext_getElem
  · simp [fromF]
  · intro i h1 h2
    simp [fromF, atL, List.getD, h2]
theorem own_empty {W : World} {base g : Nat} (hg : base ≤ g) (h : W.heap[g]? = some (.cells #[] 3 (0, 0))) : OwnI base W (.slice (some ⟨g, 0, none⟩) 0 0) [] :=
  ⟨rfl, .inr ⟨g, 0, #[], rfl, hg, h, Nat.le_refl _, by unfold maxLen; omega, rfl, rfl⟩⟩
theorem lit_ints {W : World} {N g : Nat} {x : Int} (hg : g < N) (h : W.heap[g]? = some (.cells #[.int .i64 x] 3 (0, 0))) : IntsAt N W (.slice (some ⟨g, 0, none⟩) 1 1) 1 (fun _ => x) :=
  ⟨_, 1, rfl, by omega, fun _ => ⟨g, 0, rfl, hg, fun i hi => ⟨_, by rw [Nat.zero_add]; exact cell_blk h i (by rw [show i = 0 by omega]; rfl), rfl⟩⟩⟩
theorem app_list (p : List Int) (x : Int) : [] ++ fromF p.length (atL p) ++ fromF 1 (fun _ => x) = p ++ [x] := by rw [List.nil_append, fromF_atL]; rfl

theorem heap1 (w : World) (o : Obj) : (w.alloc o).drew.heap[w.heap.size]? = some o := World.alloc_heap_new _ _
theorem heap2_fst (w : World) (o1 o2 : Obj) : ((w.alloc o1).alloc o2).drew.heap[w.heap.size]? = some o1 := (Below.heap_alloc _ _ _ (by simp)).trans (World.alloc_heap_new _ _)
theorem heap2_snd (w : World) (o1 o2 : Obj) : ((w.alloc o1).alloc o2).drew.heap[w.heap.size + 1]? = some o2 := by
  have h := World.alloc_heap_new (w.alloc o1) o2
  rw [show (w.alloc o1).heap.size = w.heap.size + 1 by simp] at h
  exact h
theorem grown_keep {w w' : World} {o : Obj} {g g2 n c : Nat} (hg : Hid (w.grownBy w' (Value.slice (some ⟨g2, 0, none⟩) n c).ownBlock)) (h : w.heap[g]? = some o) (hne : g ≠ g2) : w'.heap[g]? = some o :=
  (hg.out.block g (heap_lt h) (fun e => hne (by simpa [Value.ownBlock] using e))).trans h

/-- append(rows, more...) -/
theorem wp_appendRows (w : World) {o : Oper} {a : Act} {K : Act → World → Prop} {Q : Exit → Act → World → Prop} (s x : Operand)
    (ho : o.op = .call { callee := .builtin .append, args := #[s, x], argTypes := #[23, 23] })
    (base lo : Nat) (v : Value) (zs : List (List Int)) (hs : a.eval s = v) (hown : FrRows base lo w v zs) (base' : Nat) (v2 : Value) (zs2 : List (List Int)) (hx : a.eval x = v2) (h2 : FrRows base' lo w v2 zs2) (hpos : 0 < zs2.length)
    (h40 : zs.length + zs2.length ≤ 1000000) (hbase : base ≤ w.heap.size)
    (h : ∀ v' w', FrRows base lo w' v' (zs ++ zs2) → Below base w w' → K (a.put o.dst v') w') : o.wp Try.prog a w K Q := by
  obtain ⟨i1, hi, hz0, hz1, hz2⟩ := info_parts Try.infoInts
  obtain ⟨rows, r1, r2⟩ := hown
  obtain ⟨rows2, q1, q2⟩ := h2
  have hl2 : rows2.length = zs2.length := by have := q1.1; omega
  obtain ⟨_, ⟨rfl, h0⟩ | ⟨g, cap, cur, rfl, g1, g2, g3, g4, g5, g6⟩⟩ := id q1
  · omega
  · refine wp_append_own w s x 23 ho base 22 i1 (.slice none 0 0) 1 24 Try.underlying23 hi hz0 hz1 hz2 rfl (by decide) v zs.length rows hs r1 ⟨g, 0, none⟩ zs2.length cap rows2 hx (by omega) (fun j u hj => ?_) (fun u hu => ?_) (by unfold maxLen; omega) (by omega) hbase fun v' w' k1 k2 _ => h v' w' (FrRows.app r1 r2 hl2 q2 k1 k2) ((Below.refl _ _).grown k2 hbase fun j e => (r1.lt j e).1)
    · have hjl : j < zs2.length := by rw [← hl2]; exact (List.getElem?_eq_some_iff.1 hj).1
      have e : (⟨g, 0, none⟩ : Addr).add j = ⟨g, j, none⟩ := by unfold Addr.add; split <;> simp_all
      rw [e, q1.cellAt j (by omega)]
      exact hj
    · obtain ⟨j, hj, rfl⟩ := List.getElem_of_mem hu
      obtain ⟨r, hr, ⟨gg, c, cu, rfl, _⟩, _⟩ := q2 j zs2[j] (List.getElem?_eq_getElem (by omega))
      rw [List.getElem?_eq_getElem hj] at hr
      rw [Option.some.inj hr]; rfl

/-- what Fruits says of the fruits that begin with p -/
def SaysFr (B : KB) (k : Nat) (p : List Int) : Prop := ∀ (N : Nat) (v u : Value) (w : World) (lo : Nat), lo ≤ w.heap.size → BookAt N w v B →
    IntsAt w.heap.size w u p.length (atL p) → (k = 0 → RowV w u p ∧ ∀ g, u.ownBlock = some g → lo ≤ g) →
    Calls Try.prog 29 #[v, u] w fun e w' => ∃ v', e = .returned v' ∧ FrRows w.heap.size lo w' v' (frl B.V k p) ∧ Below w.heap.size w w'

set_option maxHeartbeats 3200000 in
theorem rFruits_end (B : KB) (p : List Int) (hp : p.length = B.nv) : SaysFr B 0 p := by
  intro N v u w lo hlo h hu hr
  obtain ⟨au, cu, rfl, _, _⟩ := id hu
  have HR := Lib.hid (hr rfl).1
  have HR2 := Lib.hid (hr rfl).2
  have hpe : ((p.length : Int) == (B.nv : Int)) = true := by simp; omega
  clear hr
  have h' := h
  obtain ⟨_, a1, z1, a2, z2, a3, z3, rfl, _⟩ := h'
  obtain ⟨ws, hws, HB, hsz, hblk⟩ := box1 w (.cells #[.slice a1 B.nv z1, .slice a2 B.ns z2, .slice a3 B.D.n z3] 26)
  have q0 := cell_blk hblk 0 rfl
  have q1 := cell_blk hblk 1 rfl
  have q2 := cell_blk hblk 2 rfl
  have HBK := Lib.hid (h.go HB.out)
  have HB0 : Hid (Below ws.heap.size ws ws) := Below.refl _ _
  have HNS : Hid (N ≤ ws.heap.size) := HBK.out.1
  have hlens := h.lens
  obtain ⟨hlv, hls, hln⟩ := hlens
  clear hblk h
  go_enter Try.func29, Try.ntmps29
  go_wp2
  go_ret
  refine ⟨_, rfl, ⟨[.slice au B.nv cu], World.ownsRow_lit ws #[.slice au B.nv cu] 1 HB.out.size (by unfold maxLen; omega) rfl, fun i z hz => ?_⟩, fin HB.out (below_alloc (Nat.le_refl _) _)⟩
  cases i with
  | zero =>
    simp only [frl, List.getElem?_cons_zero, Option.some.injEq] at hz
    subst hz
    refine ⟨_, rfl, ?_, fun g hg => HR2.out g (by rw [hp]; exact hg)⟩
    rw [← hp]
    exact HR.out.keep fun g cur hg => (Below.heap_alloc _ _ _ (Nat.lt_of_lt_of_le (heap_lt hg) HB.out.size)).trans (HB.out.block g (heap_lt hg))
  | succ i => simp [frl] at hz

set_option maxRecDepth 100000 in
set_option maxHeartbeats 3200000 in
theorem rFruits_step (B : KB) (hn5 : B.nv ≤ 5) (hV2 : ∀ i, i < B.nv → 2 ≤ B.V i) (hV3 : ∀ i, i < B.nv → B.V i ≤ 3) (k : Nat) (p : List Int) (hp : p.length + (k + 1) = B.nv) (hsay : ∀ p', p'.length + k = B.nv → SaysFr B k p') : SaysFr B (k + 1) p := by
  intro N v u w lo hlo h hu hr
  obtain ⟨i1, hi, hz0, hz1, hz2⟩ := info_parts Try.infoInts
  clear hr
  obtain ⟨au, cu, rfl, _, _⟩ := id hu
  have hpn : p.length < B.nv := by omega
  have hpe : ((p.length : Int) == (B.nv : Int)) = false := by simp; omega
  have HSAY := Lib.hid hsay
  clear hsay
  have h' := h
  obtain ⟨_, a1, z1, a2, z2, a3, z3, rfl, _⟩ := h'
  obtain ⟨ws, hws, HB, hsz, hblk⟩ := box1 w (.cells #[.slice a1 B.nv z1, .slice a2 B.ns z2, .slice a3 B.D.n z3] 26)
  have q0 := cell_blk hblk 0 rfl
  have q1 := cell_blk hblk 1 rfl
  have q2 := cell_blk hblk 2 rfl
  have HBK := Lib.hid (h.go HB.out)
  have HB0 : Hid (Below ws.heap.size ws ws) := Below.refl _ _
  have HNS : Hid (N ≤ ws.heap.size) := HBK.out.1
  have hlens := h.lens
  obtain ⟨hlv, hls, hln⟩ := hlens
  clear hblk h
  have HU : Hid (IntsAt w.heap.size ws (.slice au p.length cu) p.length (atL p)) := hu.mono (HB.out) (Nat.le_refl _)
  have HP : Hid (∀ j, (frJ B.V k p j).length ≤ j * 3 ^ k) := fun j => frJ_le B.V B.nv hV3 k p hp j
  clear hu
  go_enter Try.func29, Try.ntmps29
  go_wp2
  clear hws
  have HVK := Lib.hid (hV2 p.length hpn)
  have HVK3 := Lib.hid (hV3 p.length hpn)
  obtain ⟨j0, hj0⟩ : ∃ j : Nat, B.V p.length = j := ⟨(B.V p.length).toNat, by have := HVK.out; omega⟩
  have HJ0 := Lib.hid hj0
  clear hj0
  have hj3 : j0 ≤ 3 := by have := HVK3.out; rw [HJ0.out] at this; omega
  go_loopw [5, 6] (fun t i wr => ∃ j : Nat, j ≤ j0 ∧ i = .int .i64 j ∧ Hid (FrRows ws.heap.size lo wr t (frJ B.V k p j)) ∧ Hid (Below ws.heap.size ws wr)) (fun _ i _ => j0 - (intOf i).toNat)
  case atStart => exact ⟨0, Nat.zero_le _, rfl, frRows_nil _ _ _, HB0⟩
  case round =>
    obtain ⟨j, hj, rfl, ho, HB1⟩ := hrel
    have c1 := (old_of HB1.out).1
    have hsz1 := Nat.lt_of_lt_of_le hsz HB1.out.size
    obtain ⟨bv, ov, rfl, hbv, hrv⟩ := (HBK.out.go HB1.out).vals.cells (by omega)
    have hcv := hrv p.length hpn
    rw [HJ0.out] at hcv
    have hbvw : bv < wr.heap.size := Nat.lt_of_lt_of_le hbv (HBK.out.go HB1.out).1
    have HBr : Hid (Below wr.heap.size wr wr) := Below.refl _ _
    clear hrv
    by_cases hjn : j < j0
    · have hji : (j : Int) < (j0 : Int) := by omega
      have HJN : Hid (j + 1 ≤ j0) := hjn
      have S1d := old_of HB1.out.drew; have HB1d := S1d.2
      go_wp2
      have HLN : Hid (∀ W : World, Below wr.heap.size wr W → wr.heap.size ≤ W.heap.size) := fun W h => h.size
      have HPL : Hid ((p ++ [(j : Int)]).length + k = B.nv ∧ p ++ [(j : Int)] ≠ [] ∧ (p ++ [(j : Int)]).length ≤ 140737488351232) := ⟨by simp; omega, by simp, by simp; omega⟩
      have HLP : Hid (0 < (frl B.V k (p ++ [(j : Int)])).length ∧ (frJ B.V k p j).length + (frl B.V k (p ++ [(j : Int)])).length ≤ 1000000) := by
        have h1 := HP.out j
        have h2 := frl_le B.V B.nv hV3 k (p ++ [(j : Int)]) HPL.out.1
        have h3 : 3 ^ k ≤ 3 ^ 4 := Nat.pow_le_pow_right (by omega) (by omega)
        have h4 : j * 3 ^ k ≤ 3 * 3 ^ 4 := Nat.mul_le_mul (by have := HVK3.out; rw [HJ0.out] at this; omega) h3
        exact ⟨frl_pos B.V B.nv hV2 k _ HPL.out.1, by omega⟩
      go_region_held3 (fun w' => (∀ b o, b < ws.heap.size → w'.cell? ⟨b, o, none⟩ = ws.cell? ⟨b, o, none⟩) ∧ Hid (Below ws.heap.size ws w')) (first | assumption | (refine sKeep ?_; first | assumption | (refine Lib.hid (bel HB1.out (Hid.out ?_)); repeat (first | assumption | refine hb_drew ?_ | refine hb_alloc (Nat.le_refl _) ?_ _)))) (first
        | (rw [if_pos (by rfl)]; refine wp_appendInts _ (.tmp 27) (.tmp 28) rfl wr.heap.size _ [] rfl (own_empty (by omega) (by first | exact heap1 _ _ | exact heap2_fst _ _ _ | exact heap2_snd _ _ _)) w.heap.size _ _ _ _ rfl (HU.out.go HB.out.size (bel HB1.out (Hid.out (by repeat (first | assumption | refine hb_drew ?_ | refine hb_alloc (Nat.le_refl _) ?_ _))))) (by simp; omega) (Nat.le_trans (by simp) (Hid.out (HLN.out _ (Hid.out (by repeat (first | assumption | refine hb_drew ?_ | refine hb_alloc (Nat.le_refl _) ?_ _)))))) ?_; intro v4 w4 ho4 hg4 hb4; have HO4 := Lib.hid ho4; have HG4 := Lib.hid hg4; have HB4 : Hid (Below wr.heap.size wr w4) := Lib.hid (Below.trans (Hid.out (by repeat (first | assumption | refine hb_drew ?_ | refine hb_alloc (Nat.le_refl _) ?_ _))) hb4); clear ho4 hg4 hb4)
        | (rw [if_pos (by rfl)]; refine wp_appendInts _ (.tmp 29) (.tmp 31) rfl wr.heap.size _ _ rfl (by first | exact HO4.out | exact World.ownsRow.alloc HO4.out _) _ _ _ _ (fun _ => (j : Int)) rfl (lit_ints (Nat.lt_succ_self _) (by first | exact heap1 _ _ | exact grown_keep HG4 (heap2_snd _ _ _) (Nat.succ_ne_self _) | exact grown_keep HG4 (heap2_fst _ _ _) (Nat.succ_ne_self _).symm)) (by simp [fromF]; omega) (Nat.le_trans (by simp) (Hid.out (HLN.out _ (Hid.out (by repeat (first | assumption | refine hb_drew ?_ | refine hb_alloc (Nat.le_refl _) ?_ _)))))) ?_; intro v7 w7 ho7 hg7 hb7; rw [app_list] at ho7; have HO7 := Lib.hid ho7; have HB7 : Hid (Below wr.heap.size wr w7) := Lib.hid (Below.trans (Hid.out (by repeat (first | assumption | refine hb_drew ?_ | refine hb_alloc (Nat.le_refl _) ?_ _))) hb7); clear ho7 hg7 hb7)
        | (go_at_call 29; refine (HSAY.out (p ++ [(j : Int)]) HPL.out.1 N _ _ _ lo (Nat.le_trans hlo (Nat.le_trans HB.out.size (Nat.le_trans HB1.out.size (Hid.out (HLN.out _ (Hid.out (by repeat (first | assumption | refine hb_drew ?_ | refine hb_alloc (Nat.le_refl _) ?_ _)))))))) (HBK.out.go (bel HB1.out (Hid.out (by repeat (first | assumption | refine hb_drew ?_ | refine hb_alloc (Nat.le_refl _) ?_ _))))) (HO7.out.ints HPL.out.2.2) (fun _ => ⟨HO7.out.rowV HPL.out.2.1, fun g hg => Nat.le_trans hlo (Nat.le_trans HB.out.size (Nat.le_trans HB1.out.size (HO7.out.lt g hg).1))⟩)).mono ?_; rintro e w8 ⟨v8, rfl, ho8, hb8⟩; have HO8 := Lib.hid ho8; have HB8 : Hid (Below wr.heap.size wr w8) := hb_go (Nat.le_refl _) (by repeat (first | assumption | refine hb_drew ?_ | refine hb_alloc (Nat.le_refl _) ?_ _)) hb8; clear ho8 hb8)
        | (rw [if_pos (by rfl)]; refine wp_appendRows _ (.tmp 25) (.tmp 33) rfl ws.heap.size lo _ _ rfl (ho.out.below (Hid.out (by repeat (first | assumption | refine hb_drew ?_ | refine hb_alloc (Nat.le_refl _) ?_ _)))) _ _ _ rfl HO8.out HLP.out.1 HLP.out.2 (Nat.le_trans HB1.out.size (Hid.out (HLN.out _ (Hid.out (by repeat (first | assumption | refine hb_drew ?_ | refine hb_alloc (Nat.le_refl _) ?_ _)))))) ?_; intro v9 w9 ho9 hb9; have HO9 := Lib.hid ho9; have HB9 : Hid (Below ws.heap.size ws w9) := Lib.hid (Below.trans (bel HB1.out (Hid.out (by repeat (first | assumption | refine hb_drew ?_ | refine hb_alloc (Nat.le_refl _) ?_ _)))) hb9); clear ho9 hb9))
      all_goals
        go_wp2
        go_roundw
        case rel => exact ⟨j + 1, HJN.out, by go_num, by rw [frJ_succ]; exact HO9.out, HB9⟩
        case measure => simp [intOf]; have := HJN.out; omega
    · have hji : ¬ (j : Int) < (j0 : Int) := by omega
      go_wp2
      go_ret
      have hjj : j = j0 := by omega
      refine ⟨_, rfl, ?_, fin HB.out HB1.out⟩
      have e : frl B.V (k + 1) p = frJ B.V k p j0 := by show frJ B.V k p (B.V p.length).toNat = _; rw [HJ0.out]; rfl
      rw [e, ← hjj]
      exact ho.out.mono HB.out.size

theorem rFruits_all (B : KB) (hn5 : B.nv ≤ 5) (hV2 : ∀ i, i < B.nv → 2 ≤ B.V i) (hV3 : ∀ i, i < B.nv → B.V i ≤ 3) : ∀ (k : Nat) (p : List Int), p.length + k = B.nv → SaysFr B k p := by
  intro k
  induction k with
  | zero => intro p hp; exact rFruits_end B p hp
  | succ k ih => intro p hp; exact rFruits_step B hn5 hV2 hV3 k p hp ih
theorem rFruits_any (N : Nat) (v : Value) (B : KB) (hG : GoodB B) (w : World) (h : BookAt N w v B) :
    Calls Try.prog 29 #[v, .slice none 0 0] w fun e w' => ∃ v', e = .returned v' ∧ FrRows w.heap.size w.heap.size w' v' (allF B) ∧ Below w.heap.size w w' :=
  rFruits_all B hG.nv (fun i hi => (hG.V i hi).1) (fun i hi => (hG.V i hi).2) B.nv [] (by simp) N v _ w w.heap.size (Nat.le_refl _) h ⟨none, 0, rfl, by simp, fun h => absurd h (Nat.lt_irrefl 0)⟩ (fun h0 => absurd h0 (by have := hG.nv1; omega))

end Go.Proofs.Ytbieglmpkljjjaa

namespace Go.Proofs.Ytbieglmpkljjjaa
open Go.RowKit

theorem cnt_upd {n : Nat} {p q : Nat → Bool} {y : Nat} (hy : y < n) (hp : p y = false) (hq : ∀ i, q i = (p i || decide (i = y))) : cnt n q = cnt n p + 1 := by
  induction n with
  | zero => omega
  | succ n ih =>
    simp only [cnt]
    by_cases e : y = n
    · subst e
      have e1 : cnt y q = cnt y p := cnt_congr' fun i hi => by rw [hq, decide_eq_false (by omega), Bool.or_false]
      rw [e1, hq y, hp, decide_eq_true rfl]; rfl
    · have e2 : q n = p n := by rw [hq, decide_eq_false (by omega), Bool.or_false]
      rw [ih (by omega), e2]; omega

theorem anyB_list (l : List Int) (y : Int) : (anyB l.length fun i => decide (l.getD i 0 = y)) = l.contains y := by
  rw [Bool.eq_iff_iff, anyB_true, List.contains_iff_mem, List.mem_iff_getElem]
  constructor
  · rintro ⟨i, hi, h⟩
    exact ⟨i, hi, by simpa [List.getD, hi] using h⟩
  · rintro ⟨i, hi, h⟩
    exact ⟨i, hi, by simpa [List.getD, hi] using h⟩
theorem ints_contains (l : List Nat) (k : Nat) : (ints l).contains (k : Int) = l.contains k := by
  rw [Bool.eq_iff_iff, List.contains_iff_mem, List.contains_iff_mem]
  unfold ints
  simp only [List.mem_map]
  exact ⟨fun ⟨a, ha, e⟩ => by rw [← Int.ofNat.inj e]; exact ha, fun h => ⟨k, h, rfl⟩⟩

def stepS (B : KB) (k : Nat) (l : List Int) (z : List Int) : List Int := if (walk B.D (atL z)).contains k && !l.contains (atL z (B.D.M k).toNat) then l ++ [atL z (B.D.M k).toNat] else l
def seenF (B : KB) (k : Nat) : Nat → List Int
  | 0 => []
  | f + 1 => match (allF B)[f]? with
    | some z => stepS B k (seenF B k f) z
    | none => seenF B k f
def hitF (B : KB) (k v : Nat) (z : List Int) : Bool := (walk B.D (atL z)).contains k && decide ((atL z (B.D.M k).toNat).toNat = v)

theorem seenF_spec (B : KB) (k : Nat) (hz : ∀ z, z ∈ allF B → 0 ≤ atL z (B.D.M k).toNat ∧ atL z (B.D.M k).toNat < 8) : ∀ f, (∀ v : Nat, (seenF B k f).contains (v : Int) = ((allF B).take f).any (hitF B k v)) ∧ (seenF B k f).length = cnt 8 (fun v => (seenF B k f).contains (v : Int)) := by
  intro f
  induction f with
  | zero => exact ⟨fun v => by simp [seenF], by simp only [seenF, List.length_nil, List.contains_nil]; rfl⟩
  | succ f ih =>
    obtain ⟨h1, h2⟩ := ih
    simp only [seenF]
    cases hf : (allF B)[f]? with
    | none =>
      simp only
      refine ⟨fun v => ?_, h2⟩
      rw [List.take_add_one, hf]
      simpa using h1 v
    | some z =>
      simp only
      obtain ⟨z0, z8⟩ := hz z (List.mem_of_getElem? hf)
      obtain ⟨y, hy⟩ : ∃ y : Nat, atL z (B.D.M k).toNat = y := ⟨_, (Int.toNat_of_nonneg z0).symm⟩
      have ht : ∀ v : Nat, ((allF B).take (f + 1)).any (hitF B k v) = ((seenF B k f).contains (v : Int) || ((walk B.D (atL z)).contains k && decide (v = y))) := fun v => by
        rw [List.take_add_one, hf, List.any_append, ← h1 v]
        simp only [Option.toList_some, List.any_cons, List.any_nil, Bool.or_false, hitF, hy, Int.toNat_natCast]
        congr 2
        rw [Bool.eq_iff_iff]; simp; exact ⟨fun e => e.symm, fun e => e.symm⟩
      unfold stepS
      rw [hy]
      cases hc : (walk B.D (atL z)).contains k with
      | false =>
        simp only [Bool.false_and]
        rw [if_neg (by simp)]
        exact ⟨fun v => by rw [ht v, hc, Bool.false_and, Bool.or_false], h2⟩
      | true =>
        cases hd : (seenF B k f).contains (y : Int) with
        | true =>
          simp only [Bool.not_true, Bool.and_false]
          rw [if_neg (by simp)]
          refine ⟨fun v => ?_, h2⟩
          rw [ht v, hc, Bool.true_and]
          by_cases e : v = y
          · subst e; rw [hd]; rfl
          · rw [decide_eq_false e, Bool.or_false]
        | false =>
          simp only [Bool.not_false, Bool.and_true, if_true]
          have hq : ∀ v : Nat, (seenF B k f ++ [(y : Int)]).contains (v : Int) = ((seenF B k f).contains (v : Int) || decide (v = y)) := fun v => by
            rw [Bool.eq_iff_iff]; simp [Int.ofNat_inj]
          refine ⟨fun v => by rw [hq v, ht v, hc, Bool.true_and], ?_⟩
          rw [List.length_append, List.length_singleton, h2]
          exact (cnt_upd (p := fun v : Nat => (seenF B k f).contains (v : Int)) (y := y) (by omega) hd hq).symm

theorem seenF_idle {B : KB} (hG : GoodB B) {k : Nat} (hk : k < B.D.n) (hM : B.D.M k ≠ -1) : ((seenF B k (allF B).length).length = 1) = (idleP B k = true) := by
  obtain ⟨a0, a1, _⟩ := hG.D.ask k hk hM
  have hz : ∀ z, z ∈ allF B → 0 ≤ atL z (B.D.M k).toNat ∧ atL z (B.D.M k).toNat < 8 := fun z hz => by
    obtain ⟨_, hin⟩ := (allF_mem B z).1 hz
    have := hin (B.D.M k).toNat (by omega)
    have h3 := (hG.V (B.D.M k).toNat (by omega)).2
    exact ⟨this.1, by have := this.2.1; omega⟩
  obtain ⟨h1, h2⟩ := seenF_spec B k hz (allF B).length
  unfold idleP
  rw [h2, decide_eq_true_eq]
  congr 1
  refine cnt_congr' fun v _ => ?_
  rw [h1 v, List.take_length]
  unfold hasV
  congr 1
  funext z
  unfold hitF
  rw [decide_eq_true hM, Bool.and_true]
theorem seenF_len (B : KB) (k f : Nat) : (seenF B k f).length ≤ f := by
  induction f with
  | zero => simp [seenF]
  | succ f ih =>
    simp only [seenF]
    split
    · unfold stepS; split
      · simp; omega
      · omega
    · omega
/-- what is no question is not idle -/
theorem idle_end {B : KB} {k : Nat} (hM : B.D.M k = -1) : idleP B k = false := by
  unfold idleP
  have : cnt 8 (fun v => hasV B k v) = 0 := by
    have e : cnt 8 (fun v => hasV B k v) = cnt 8 (fun _ => false) := cnt_congr' fun v _ => by
      unfold hasV; simp [hM]
    rw [e]; rfl
  rw [this]; rfl

end Go.Proofs.Ytbieglmpkljjjaa

namespace Go.Proofs.Ytbieglmpkljjjaa
open Go.RowKit

theorem frRows_form {base lo : Nat} {w : World} {v : Value} {zs : List (List Int)} (h : FrRows base lo w v zs) (h0 : 0 < zs.length) : ∃ g c, v = .slice (some ⟨g, 0, none⟩) zs.length c ∧ g < w.heap.size := by
  obtain ⟨rows, r1, _⟩ := h
  obtain ⟨_, ⟨rfl, h1⟩ | ⟨g, c, cur, rfl, _, h2, _⟩⟩ := r1
  · omega
  · exact ⟨g, c, rfl, heap_lt h2⟩
theorem frRows_at {base lo : Nat} {w : World} {g c n : Nat} {zs : List (List Int)} (h : FrRows base lo w (.slice (some ⟨g, 0, none⟩) n c) zs) {i : Nat} {z : List Int} (hz : zs[i]? = some z) :
    ∃ gr cr, w.cell? ⟨g, i, none⟩ = some (.slice (some ⟨gr, 0, none⟩) z.length cr) ∧ gr < w.heap.size ∧ (∀ j, j < z.length → w.cell? ⟨gr, j, none⟩ = some (.int .i64 (atL z j))) ∧ RowV w (.slice (some ⟨gr, 0, none⟩) z.length cr) z ∧ lo ≤ gr := by
  obtain ⟨rows, r1, r2⟩ := h
  obtain ⟨r, hr, hv, hg9⟩ := r2 i z hz
  obtain ⟨gr, cr, cur, rfl, h1, h2⟩ := id hv
  have hi : i < zs.length := (List.getElem?_eq_some_iff.1 hz).1
  refine ⟨gr, cr, ?_, heap_lt h1, fun j hj => ?_, hv, hg9 gr rfl⟩
  · rcases r1.2 with ⟨e, h0⟩ | ⟨g', cap', cur', e, _, hg, _, _, _, ht⟩
    · omega
    · cases e
      refine cell_blk hg i ?_
      have : (cur'.toList.take (zs.length * 1))[i]? = some (.slice (some ⟨gr, 0, none⟩) z.length cr) := by rw [ht]; exact hr
      rw [List.getElem?_take, if_pos (by omega)] at this
      simpa using this
  · refine cell_blk h1 j ?_
    have e : (cur.toList.take z.length)[j]? = some (.int .i64 (atL z j)) := by
      rw [h2, List.getElem?_map, List.getElem?_eq_getElem hj]; simp [atL, List.getD, hj]
    rw [List.getElem?_take, if_pos hj] at e
    simpa using e

theorem own_form {N : Nat} {w : World} {v : Value} {l : List Int} (h : OwnI N w v l) : ∃ a c, v = .slice a l.length c := by
  obtain ⟨_, ⟨rfl, h1⟩ | ⟨g, c, cur, rfl, _⟩⟩ := h
  · exact ⟨none, 0, by rw [h1]⟩
  · exact ⟨_, c, rfl⟩

set_option maxRecDepth 100000 in
set_option maxHeartbeats 6400000 in
theorem rIdle_any (N : Nat) (v : Value) (B : KB) (w : World) (h : BookAt N w v B) :
    Calls Try.prog 53 #[v] w (GivesIE w.heap.size w (eIdle B).1 (eIdle B).2) := by
  obtain ⟨i0, hi, hz0, hz1, hz2⟩ := info_parts Try.infoInt
  have h' := h
  obtain ⟨_, a1, z1, a2, z2, a3, z3, rfl, _⟩ := h'
  obtain ⟨ws, hws, HB, hsz, hblk⟩ := box1 w (.cells #[.slice a1 B.nv z1, .slice a2 B.ns z2, .slice a3 B.D.n z3] 26)
  have q0 := cell_blk hblk 0 rfl
  have q1 := cell_blk hblk 1 rfl
  have q2 := cell_blk hblk 2 rfl
  have HBK := Lib.hid (h.go HB.out)
  have HB0 : Hid (Below ws.heap.size ws ws) := Below.refl _ _
  have HNS : Hid (N ≤ ws.heap.size) := HBK.out.1
  have hlens := h.lens
  obtain ⟨hlv, hls, hln⟩ := hlens
  clear hblk h
  cases hv : okKB B with
  | false =>
    have HA : Hid (chk B = 20) := chk_no hv
    have HE : Hid (eIdle B = ([], 20)) := by unfold Hid eIdle; rw [hv]; rfl
    clear hv
    go_enter Try.func53, Try.ntmps53
    go_wp2_with (go_at_call 47; refine (rCheck_any N _ B _ (HBK.out.go HB0.out)).mono ?_; rintro e w1 ⟨rfl, hb1⟩; rw [HA.out]; (try clear c0); have HB1 := Lib.hid (bel HB0.out hb1); have c1 := (old_of HB1.out).1; clear hb1)
    go_ret2
    exact ⟨.slice none 0 0, by rw [HE.out]; rfl, by rw [HE.out]; exact own_nil _ _, fin HB.out HB1.out⟩
  | true =>
    have HA : Hid (chk B = 0) := chk_yes hv
    have HE : Hid (eIdle B = (sel (idleP B) B.D.n, 0)) := by unfold Hid eIdle; rw [hv]; rfl
    have HG := Lib.hid (goodB hv)
    have hnn := (goodB hv).nn
    have hn1 := (goodB hv).D.n1
    have hnv5 := (goodB hv).nv
    have HF : Hid (0 < (allF B).length ∧ (allF B).length ≤ 243) := by
      have hG := goodB hv
      refine ⟨frl_pos B.V B.nv (fun i hi => (hG.V i hi).1) B.nv [] (by simp), ?_⟩
      have h1 := frl_le B.V B.nv (fun i hi => (hG.V i hi).2) B.nv [] (by simp)
      exact Nat.le_trans h1 (Nat.pow_le_pow_right (n := 3) (by omega) hG.nv)
    clear hv
    obtain ⟨bn, on, rfl, hbn, hrn⟩ := HBK.out.nodes.cells hn1
    have hbns : bn < ws.heap.size := Nat.lt_of_lt_of_le hbn HNS.out
    have HRN := Lib.hid hrn
    clear hrn
    go_enter Try.func53, Try.ntmps53
    go_wp2_with (first
      | (go_at_call 47; refine (rCheck_any N _ B _ (HBK.out.go HB0.out)).mono ?_; rintro e w1 ⟨rfl, hb1⟩; rw [HA.out]; (try clear c0); have HB1 := Lib.hid (bel HB0.out hb1); have c1 := (old_of HB1.out).1; clear hb1)
      | (go_at_call 29; refine (rFruits_any N _ B HG.out _ (HBK.out.go HB1.out)).mono ?_; rintro e w2 ⟨vF, rfl, hrows, hb2⟩; have HRO := Lib.hid hrows; have HB12 := Lib.hid hb2; clear hrows; (try clear c1); have HB2 := Lib.hid (bel HB1.out hb2); have c2 := (old_of HB2.out).1; clear hb2))
    clear hws
    obtain ⟨gF, cF, rfl, hgFs⟩ := frRows_form HRO.out HF.out.1
    obtain ⟨F, hFF⟩ : ∃ F, (allF B).length = F := ⟨_, rfl⟩
    have HFF := Lib.hid hFF
    have hF243 : F ≤ 243 := by rw [← hFF]; exact HF.out.2
    simp only [hFF]
    clear hFF
    have HBo : Hid (Below w2.heap.size w2 w2) := Below.refl _ _
    go_loopw [5, 7] (fun t i wr => ∃ k : Nat, k ≤ B.D.n ∧ i = .int .i64 k ∧ Hid (OwnI w2.heap.size wr t (sel (idleP B) k)) ∧ Hid (Below w2.heap.size w2 wr)) (fun _ i _ => B.D.n - (intOf i).toNat)
    case atStart => exact ⟨0, Nat.zero_le _, rfl, own_nil _ _, HBo⟩
    case round =>
      obtain ⟨k, hk, rfl, ho, HB3⟩ := hrel
      have HBx := Lib.hid (bel HB2.out HB3.out)
      (try clear c2)
      have cx := (old_of HBx.out).1
      have hszx := Nat.lt_of_lt_of_le hsz HBx.out.size
      by_cases hkn : k < B.D.n
      · obtain ⟨ai, ci, hm, _, _, _⟩ := HRN.out k hkn
        by_cases hM : B.D.M k = -1
        · have HP : Hid (sel (idleP B) (k + 1) = sel (idleP B) k) := sel_miss (idle_end hM)
          rw [hM] at hm
          go_wp2
          go_roundw
          case rel => exact ⟨k + 1, by omega, by go_num, by rw [HP.out]; exact ho, HB3⟩
          case measure => simp [intOf]; omega
        · have hMe : (B.D.M k == -1) = false := by simp [hM]
          have HM := Lib.hid hM
          obtain ⟨m0, m1, _⟩ := HG.out.D.ask k hkn hM
          obtain ⟨m, hmm⟩ : ∃ m : Nat, B.D.M k = m := ⟨(B.D.M k).toNat, by omega⟩
          have HMM := Lib.hid hmm
          rw [hmm] at hm hMe
          have hmn : m < B.nv := by omega
          have HSI : Hid (((seenF B k F).length = 1) = (idleP B k = true)) := by unfold Hid; rw [← HFF.out]; exact seenF_idle HG.out hkn hM
          clear hM hmm m0 m1
          go_wp2
          obtain ⟨wo, hwo⟩ : ∃ wo, wo = wr := ⟨_, rfl⟩
          subst hwo
          have HBi0 : Hid (Below wo.heap.size wo wo) := Below.refl _ _
          go_loopw [9, 10] (fun t i wr => ∃ f : Nat, f ≤ F ∧ i = .int .i64 f ∧ Hid (OwnI wo.heap.size wr t (seenF B k f)) ∧ Hid (Below wo.heap.size wo wr)) (fun _ i _ => F - (intOf i).toNat)
          case atStart => exact ⟨0, Nat.zero_le _, rfl, own_nil _ _, HBi0⟩
          case round =>
            obtain ⟨f, hf, rfl, hos, HB4⟩ := hrel
            have HB34 : Hid (Below w2.heap.size w2 wr) := Lib.hid (bel HB3.out HB4.out)
            have HBy := Lib.hid (bel HB2.out HB34.out)
            (try clear cx)
            have cy := (old_of HBy.out).1
            have hszy := Nat.lt_of_lt_of_le hsz HBy.out.size
            have hsl := seenF_len B k f
            have hcm : wr.cell? ⟨bn, on + k * 3, none⟩ = some (.int .i64 (m : Int)) := (cy _ _ hbns).trans (by rw [← HMM.out]; exact (HRN.out k hkn).elim fun ai h => h.elim fun ci h => h.1)
            by_cases hfF : f < F
            · obtain ⟨z, hz⟩ : ∃ z, (allF B)[f]? = some z := ⟨_, List.getElem?_eq_getElem (by rw [HFF.out]; exact hfF)⟩
              obtain ⟨gr, cr, hc1, hgr, hc2, hrv, _⟩ := frRows_at HRO.out hz
              obtain ⟨hzn, hin⟩ := (allF_mem B z).1 (List.mem_of_getElem? hz)
              have hc1' := (HB34.out.cell (p := ⟨gF, f, none⟩) hgFs).trans hc1
              have hc2' := (HB34.out.cell (p := ⟨gr, m, none⟩) hgr).trans (hc2 m (by omega))
              rw [hzn] at hc1'
              have HZI : Hid (IntsAt wr.heap.size wr (.slice (some ⟨gr, 0, none⟩) B.nv cr) B.nv (atL z)) := by
                have hq := (RowV.keep hrv fun g cur hg => HB34.out.block g (heap_lt hg)).ints (by omega)
                rw [hzn] at hq; exact hq
              have HGX : Hid (GoodX B.nv B.V B.nv (atL z)) := inC_goodX hin
              have hfi : (f : Int) < (F : Int) := by omega
              have hmz : (m : Int) < (B.nv : Int) := by omega
              have HST : Hid (seenF B k (f + 1) = if (walk B.D (atL z)).contains k && !(seenF B k f).contains (atL z m) then seenF B k f ++ [atL z m] else seenF B k f) := by unfold Hid; simp only [seenF, hz, stepS, HMM.out, Int.toNat_natCast]
              have HBr : Hid (Below wr.heap.size wr wr) := Below.refl _ _
              have hgFr : gF < wr.heap.size := Nat.lt_of_lt_of_le hgFs HB34.out.size
              have hgrr : gr < wr.heap.size := Nat.lt_of_lt_of_le hgr HB34.out.size
              have HINT : Hid (∀ wk : World, Below wr.heap.size wr wk → IntsAt wr.heap.size wk (.slice (some ⟨gr, 0, none⟩) B.nv cr) B.nv (atL z) ∧ NodesAt wr.heap.size wk (.slice (some ⟨bn, on, none⟩) B.D.n z3) B.D) := fun wk hb =>
                ⟨HZI.out.mono hb (Nat.le_refl _), ((HBK.out.go HBy.out).raise (HBK.out.go HBy.out).1 (Nat.le_refl _)).nodes.mono hb (Nat.le_refl _)⟩
              have HWL : Hid ((ints (walk B.D (atL z))).length ≤ 140737488351232) := by
                have e1 : (walk B.D (atL z)).length ≤ B.D.n := walk_len HG.out.D HGX.out
                unfold Hid; simp [ints]; omega
              have HSE := hos
              have hbnr : bn < wr.heap.size := Nat.lt_of_lt_of_le hbns HBy.out.size
              have HFO := Lib.hid hos.out
              clear hc1 hc2 hrv hz hin HZI hgr hzn hos
              have Srd := old_of HBr.out.drew; have HBrd := Srd.2
              cases hcw : (walk B.D (atL z)).contains k with
              | false =>
                have HCW := Lib.hid hcw
                have HS1 : Hid (seenF B k (f + 1) = seenF B k f) := by unfold Hid; rw [HST.out, hcw]; rfl
                clear hcw
                go_wp2
                refine wp_region_held_drew (S := (fun w' => (∀ b o, b < wr.heap.size → w'.cell? ⟨b, o, none⟩ = wr.cell? ⟨b, o, none⟩) ∧ Hid (Below wr.heap.size wr w'))) (by kernel_rfl) Srd (fun hHeld => ?_)
                (refine wpAnyH_take (i := 0) (v := ?_) rfl (by kernel_rfl) (by kernel_rfl) (by kernel_rfl) (fun _ _ _ h => h) (Or.inl ⟨by rfl, ?_⟩) (by assumption) ?_; rotate_left; (focus (intro w hSw; (try dsimp only at hSw); go_simp; (try with_reducible rfl))); (try simp only [List.getElem_toArray, List.getElem_cons_zero, List.getElem_cons_succ, Act.put, List.setIfInBounds_toArray, List.set_cons_zero, List.set_cons_succ])); (refine wpAnyH_take (i := 1) (v := ?_) rfl (by kernel_rfl) (by kernel_rfl) (by kernel_rfl) (fun _ _ _ h => h) (Or.inl ⟨by rfl, ?_⟩) (by assumption) ?_; rotate_left; (focus (intro w hSw; (try dsimp only at hSw); go_simp; (try with_reducible rfl))); (try simp only [List.getElem_toArray, List.getElem_cons_zero, List.getElem_cons_succ, Act.put, List.setIfInBounds_toArray, List.set_cons_zero, List.set_cons_succ])); (refine wpAnyH_take (i := 2) (v := ?_) rfl (by kernel_rfl) (by kernel_rfl) (by kernel_rfl) (fun _ _ _ h => h) (Or.inl ⟨by rfl, ?_⟩) (by assumption) ?_; rotate_left; (focus (intro w hSw; (try dsimp only at hSw); go_simp; (try with_reducible rfl))); (try simp only [List.getElem_toArray, List.getElem_cons_zero, List.getElem_cons_succ, Act.put, List.setIfInBounds_toArray, List.set_cons_zero, List.set_cons_succ])); (refine wpAnyH_take (i := 3) (v := ?_) rfl (by kernel_rfl) (by kernel_rfl) (by kernel_rfl) (fun _ _ _ h => h) (Or.inl ⟨by rfl, ?_⟩) (by assumption) ?_; rotate_left; (focus (intro w hSw; (try dsimp only at hSw); go_simp; (try with_reducible rfl))); (try simp only [List.getElem_toArray, List.getElem_cons_zero, List.getElem_cons_succ, Act.put, List.setIfInBounds_toArray, List.set_cons_zero, List.set_cons_succ])); (refine wpAnyH_take (i := 4) (v := ?_) rfl (by kernel_rfl) (by kernel_rfl) (by kernel_rfl) (fun _ _ _ h => h) (Or.inl ⟨by rfl, ?_⟩) (by assumption) ?_; rotate_left; (focus (intro w hSw; (try dsimp only at hSw); go_simp; (try with_reducible rfl))); (try simp only [List.getElem_toArray, List.getElem_cons_zero, List.getElem_cons_succ, Act.put, List.setIfInBounds_toArray, List.set_cons_zero, List.set_cons_succ])); (refine wpAnyH_take (i := 5) (v := ?_) rfl (by kernel_rfl) (by kernel_rfl) (by kernel_rfl) (fun _ _ _ h => h) (Or.inl ⟨by rfl, ?_⟩) (by assumption) ?_; rotate_left; (focus (intro w hSw; (try dsimp only at hSw); go_simp; (try with_reducible rfl))); (try simp only [List.getElem_toArray, List.getElem_cons_zero, List.getElem_cons_succ, Act.put, List.setIfInBounds_toArray, List.set_cons_zero, List.set_cons_succ]))
                (refine wpAnyH_take (i := 7) (v := ?_) rfl (by kernel_rfl) (by kernel_rfl) (by kernel_rfl) (fun _ _ _ h => h) (Or.inl ⟨by rfl, ?_⟩) (by assumption) ?_; rotate_left; (focus (intro w hSw; (try dsimp only at hSw); go_simp; (try with_reducible rfl))); (try simp only [List.getElem_toArray, List.getElem_cons_zero, List.getElem_cons_succ, Act.put, List.setIfInBounds_toArray, List.set_cons_zero, List.set_cons_succ]))
                refine wpAnyH_ready (rs := [6]) (by kernel_rfl) (by simp) ?_; refine AllReadyH.cons rfl (fun K hK => ?_) AllReadyH.nil; go_simp
                go_at_call 23
                refine (walkOf_any wr.heap.size _ _ B.D B.nv B.V B.ns B.nv (atL z) _ (HINT.out _ HBrd.out).2 (HINT.out _ HBrd.out).1 HBrd.out.size HG.out.D HGX.out (by omega)).mono ?_
                rintro e w7 ⟨v7, rfl, ho7, hb7⟩
                have HO7 := Lib.hid ho7
                have S7 := old_of (bel HBrd.out hb7)
                have HB7 := S7.2
                clear hb7 ho7
                refine hK.out _ _ S7 (fun hHeld => ?_); clear hK K; (try simp only [List.getElem_toArray, List.getElem_cons_zero, List.getElem_cons_succ, Act.put, List.setIfInBounds_toArray, List.set_cons_zero, List.set_cons_succ])
                refine wpAnyH_ready (rs := [8]) (by kernel_rfl) (by simp) ?_; refine AllReadyH.cons rfl (fun K hK => ?_) AllReadyH.nil; go_simp
                go_at_call 24
                refine (in_any _ _ _ _ _ _ (HO7.out.ints HWL.out)).mono ?_
                rw [anyB_list, ints_contains, HCW.out]
                rintro e wq ⟨rfl, hwq⟩; rw [hwq]; clear hwq wq
                refine hK.out _ _ S7 (fun hHeld => ?_); clear hK K; (try simp only [List.getElem_toArray, List.getElem_cons_zero, List.getElem_cons_succ, Act.put, List.setIfInBounds_toArray, List.set_cons_zero, List.set_cons_succ])
                (refine wpAnyH_take (i := 9) (v := ?_) rfl (by kernel_rfl) (by kernel_rfl) (by kernel_rfl) (fun _ _ _ h => h) (Or.inl ⟨by rfl, ?_⟩) (by assumption) ?_; rotate_left; (focus (intro w hSw; (try dsimp only at hSw); go_simp; (try with_reducible rfl))); (try simp only [List.getElem_toArray, List.getElem_cons_zero, List.getElem_cons_succ, Act.put, List.setIfInBounds_toArray, List.set_cons_zero, List.set_cons_succ]))
                (refine wpAnyH_take (i := 10) (v := undef) rfl (by kernel_rfl) (by kernel_rfl) (by kernel_rfl) (fun _ _ _ h => h) (Or.inr ⟨by rfl, rfl⟩) (by assumption) ?_; (try simp only [List.getElem_toArray, List.getElem_cons_zero, List.getElem_cons_succ, Act.put, List.setIfInBounds_toArray, List.set_cons_zero, List.set_cons_succ])); (refine wpAnyH_take (i := 11) (v := undef) rfl (by kernel_rfl) (by kernel_rfl) (by kernel_rfl) (fun _ _ _ h => h) (Or.inr ⟨by rfl, rfl⟩) (by assumption) ?_; (try simp only [List.getElem_toArray, List.getElem_cons_zero, List.getElem_cons_succ, Act.put, List.setIfInBounds_toArray, List.set_cons_zero, List.set_cons_succ])); (refine wpAnyH_take (i := 12) (v := undef) rfl (by kernel_rfl) (by kernel_rfl) (by kernel_rfl) (fun _ _ _ h => h) (Or.inr ⟨by rfl, rfl⟩) (by assumption) ?_; (try simp only [List.getElem_toArray, List.getElem_cons_zero, List.getElem_cons_succ, Act.put, List.setIfInBounds_toArray, List.set_cons_zero, List.set_cons_succ])); (refine wpAnyH_take (i := 13) (v := undef) rfl (by kernel_rfl) (by kernel_rfl) (by kernel_rfl) (fun _ _ _ h => h) (Or.inr ⟨by rfl, rfl⟩) (by assumption) ?_; (try simp only [List.getElem_toArray, List.getElem_cons_zero, List.getElem_cons_succ, Act.put, List.setIfInBounds_toArray, List.set_cons_zero, List.set_cons_succ]))
                (refine wpAnyH_take (i := 14) (v := ?_) rfl (by kernel_rfl) (by kernel_rfl) (by kernel_rfl) (fun _ _ _ h => h) (Or.inl ⟨by rfl, ?_⟩) (by assumption) ?_; rotate_left; (focus (intro w hSw; (try dsimp only at hSw); go_simp; (try with_reducible rfl))); (try simp only [List.getElem_toArray, List.getElem_cons_zero, List.getElem_cons_succ, Act.put, List.setIfInBounds_toArray, List.set_cons_zero, List.set_cons_succ]))
                refine wpAnyH_done (by kernel_rfl) ?_ _; clear hHeld
                clear Srd S7
                go_wp2
                go_roundw
                case rel => exact ⟨f + 1, by omega, by go_num, by rw [HS1.out]; exact own_below HFO.out HB7.out, Lib.hid (bel HB4.out HB7.out)⟩
                case measure => simp [intOf]; omega
              | true =>
                have HCW := Lib.hid hcw
                cases hcs : (seenF B k f).contains (atL z m) with
                | true =>
                  have HCS := Lib.hid hcs
                  have HS1 : Hid (seenF B k (f + 1) = seenF B k f) := by unfold Hid; rw [HST.out, hcw, hcs]; rfl
                  clear hcw hcs
                  go_wp2
                  refine wp_region_held_drew (S := (fun w' => (∀ b o, b < wr.heap.size → w'.cell? ⟨b, o, none⟩ = wr.cell? ⟨b, o, none⟩) ∧ Hid (Below wr.heap.size wr w'))) (by kernel_rfl) Srd (fun hHeld => ?_)
                  (refine wpAnyH_take (i := 0) (v := ?_) rfl (by kernel_rfl) (by kernel_rfl) (by kernel_rfl) (fun _ _ _ h => h) (Or.inl ⟨by rfl, ?_⟩) (by assumption) ?_; rotate_left; (focus (intro w hSw; (try dsimp only at hSw); go_simp; (try with_reducible rfl))); (try simp only [List.getElem_toArray, List.getElem_cons_zero, List.getElem_cons_succ, Act.put, List.setIfInBounds_toArray, List.set_cons_zero, List.set_cons_succ])); (refine wpAnyH_take (i := 1) (v := ?_) rfl (by kernel_rfl) (by kernel_rfl) (by kernel_rfl) (fun _ _ _ h => h) (Or.inl ⟨by rfl, ?_⟩) (by assumption) ?_; rotate_left; (focus (intro w hSw; (try dsimp only at hSw); go_simp; (try with_reducible rfl))); (try simp only [List.getElem_toArray, List.getElem_cons_zero, List.getElem_cons_succ, Act.put, List.setIfInBounds_toArray, List.set_cons_zero, List.set_cons_succ])); (refine wpAnyH_take (i := 2) (v := ?_) rfl (by kernel_rfl) (by kernel_rfl) (by kernel_rfl) (fun _ _ _ h => h) (Or.inl ⟨by rfl, ?_⟩) (by assumption) ?_; rotate_left; (focus (intro w hSw; (try dsimp only at hSw); go_simp; (try with_reducible rfl))); (try simp only [List.getElem_toArray, List.getElem_cons_zero, List.getElem_cons_succ, Act.put, List.setIfInBounds_toArray, List.set_cons_zero, List.set_cons_succ])); (refine wpAnyH_take (i := 3) (v := ?_) rfl (by kernel_rfl) (by kernel_rfl) (by kernel_rfl) (fun _ _ _ h => h) (Or.inl ⟨by rfl, ?_⟩) (by assumption) ?_; rotate_left; (focus (intro w hSw; (try dsimp only at hSw); go_simp; (try with_reducible rfl))); (try simp only [List.getElem_toArray, List.getElem_cons_zero, List.getElem_cons_succ, Act.put, List.setIfInBounds_toArray, List.set_cons_zero, List.set_cons_succ])); (refine wpAnyH_take (i := 4) (v := ?_) rfl (by kernel_rfl) (by kernel_rfl) (by kernel_rfl) (fun _ _ _ h => h) (Or.inl ⟨by rfl, ?_⟩) (by assumption) ?_; rotate_left; (focus (intro w hSw; (try dsimp only at hSw); go_simp; (try with_reducible rfl))); (try simp only [List.getElem_toArray, List.getElem_cons_zero, List.getElem_cons_succ, Act.put, List.setIfInBounds_toArray, List.set_cons_zero, List.set_cons_succ])); (refine wpAnyH_take (i := 5) (v := ?_) rfl (by kernel_rfl) (by kernel_rfl) (by kernel_rfl) (fun _ _ _ h => h) (Or.inl ⟨by rfl, ?_⟩) (by assumption) ?_; rotate_left; (focus (intro w hSw; (try dsimp only at hSw); go_simp; (try with_reducible rfl))); (try simp only [List.getElem_toArray, List.getElem_cons_zero, List.getElem_cons_succ, Act.put, List.setIfInBounds_toArray, List.set_cons_zero, List.set_cons_succ]))
                  (refine wpAnyH_take (i := 7) (v := ?_) rfl (by kernel_rfl) (by kernel_rfl) (by kernel_rfl) (fun _ _ _ h => h) (Or.inl ⟨by rfl, ?_⟩) (by assumption) ?_; rotate_left; (focus (intro w hSw; (try dsimp only at hSw); go_simp; (try with_reducible rfl))); (try simp only [List.getElem_toArray, List.getElem_cons_zero, List.getElem_cons_succ, Act.put, List.setIfInBounds_toArray, List.set_cons_zero, List.set_cons_succ]))
                  refine wpAnyH_ready (rs := [6]) (by kernel_rfl) (by simp) ?_; refine AllReadyH.cons rfl (fun K hK => ?_) AllReadyH.nil; go_simp
                  go_at_call 23
                  refine (walkOf_any wr.heap.size _ _ B.D B.nv B.V B.ns B.nv (atL z) _ (HINT.out _ HBrd.out).2 (HINT.out _ HBrd.out).1 HBrd.out.size HG.out.D HGX.out (by omega)).mono ?_
                  rintro e w7 ⟨v7, rfl, ho7, hb7⟩
                  have HO7 := Lib.hid ho7
                  have S7 := old_of (bel HBrd.out hb7)
                  have HB7 := S7.2
                  clear hb7 ho7
                  refine hK.out _ _ S7 (fun hHeld => ?_); clear hK K; (try simp only [List.getElem_toArray, List.getElem_cons_zero, List.getElem_cons_succ, Act.put, List.setIfInBounds_toArray, List.set_cons_zero, List.set_cons_succ])
                  refine wpAnyH_ready (rs := [8]) (by kernel_rfl) (by simp) ?_; refine AllReadyH.cons rfl (fun K hK => ?_) AllReadyH.nil; go_simp
                  go_at_call 24
                  refine (in_any _ _ _ _ _ _ (HO7.out.ints HWL.out)).mono ?_
                  rw [anyB_list, ints_contains, HCW.out]
                  rintro e wq ⟨rfl, hwq⟩; rw [hwq]; clear hwq wq
                  refine hK.out _ _ S7 (fun hHeld => ?_); clear hK K; (try simp only [List.getElem_toArray, List.getElem_cons_zero, List.getElem_cons_succ, Act.put, List.setIfInBounds_toArray, List.set_cons_zero, List.set_cons_succ])
                  (refine wpAnyH_take (i := 9) (v := ?_) rfl (by kernel_rfl) (by kernel_rfl) (by kernel_rfl) (fun _ _ _ h => h) (Or.inl ⟨by rfl, ?_⟩) (by assumption) ?_; rotate_left; (focus (intro w hSw; (try dsimp only at hSw); go_simp; (try with_reducible rfl))); (try simp only [List.getElem_toArray, List.getElem_cons_zero, List.getElem_cons_succ, Act.put, List.setIfInBounds_toArray, List.set_cons_zero, List.set_cons_succ])); (refine wpAnyH_take (i := 10) (v := ?_) rfl (by kernel_rfl) (by kernel_rfl) (by kernel_rfl) (fun _ _ _ h => h) (Or.inl ⟨by rfl, ?_⟩) (by assumption) ?_; rotate_left; (focus (intro w hSw; (try dsimp only at hSw); go_simp; (try with_reducible rfl))); (try simp only [List.getElem_toArray, List.getElem_cons_zero, List.getElem_cons_succ, Act.put, List.setIfInBounds_toArray, List.set_cons_zero, List.set_cons_succ])); (refine wpAnyH_take (i := 11) (v := ?_) rfl (by kernel_rfl) (by kernel_rfl) (by kernel_rfl) (fun _ _ _ h => h) (Or.inl ⟨by rfl, ?_⟩) (by assumption) ?_; rotate_left; (focus (intro w hSw; (try dsimp only at hSw); go_simp; (try with_reducible rfl))); (try simp only [List.getElem_toArray, List.getElem_cons_zero, List.getElem_cons_succ, Act.put, List.setIfInBounds_toArray, List.set_cons_zero, List.set_cons_succ]))
                  refine wpAnyH_ready (rs := [12]) (by kernel_rfl) (by simp) ?_; refine AllReadyH.cons rfl (fun K hK => ?_) AllReadyH.nil; go_simp
                  go_at_call 24
                  refine (in_any _ _ _ _ _ _ ((show OwnI wo.heap.size w7 u9 (seenF B k f) from own_below HFO.out HB7.out).ints (by omega))).mono ?_
                  rw [anyB_list, HCS.out]
                  rintro e wq ⟨rfl, hwq⟩; rw [hwq]; clear hwq wq
                  refine hK.out _ _ S7 (fun hHeld => ?_); clear hK K; (try simp only [List.getElem_toArray, List.getElem_cons_zero, List.getElem_cons_succ, Act.put, List.setIfInBounds_toArray, List.set_cons_zero, List.set_cons_succ])
                  (refine wpAnyH_take (i := 13) (v := ?_) rfl (by kernel_rfl) (by kernel_rfl) (by kernel_rfl) (fun _ _ _ h => h) (Or.inl ⟨by rfl, ?_⟩) (by assumption) ?_; rotate_left; (focus (intro w hSw; (try dsimp only at hSw); go_simp; (try with_reducible rfl))); (try simp only [List.getElem_toArray, List.getElem_cons_zero, List.getElem_cons_succ, Act.put, List.setIfInBounds_toArray, List.set_cons_zero, List.set_cons_succ])); (refine wpAnyH_take (i := 14) (v := ?_) rfl (by kernel_rfl) (by kernel_rfl) (by kernel_rfl) (fun _ _ _ h => h) (Or.inl ⟨by rfl, ?_⟩) (by assumption) ?_; rotate_left; (focus (intro w hSw; (try dsimp only at hSw); go_simp; (try with_reducible rfl))); (try simp only [List.getElem_toArray, List.getElem_cons_zero, List.getElem_cons_succ, Act.put, List.setIfInBounds_toArray, List.set_cons_zero, List.set_cons_succ]))
                  refine wpAnyH_done (by kernel_rfl) ?_ _; clear hHeld
                  clear Srd S7
                  go_wp2
                  go_roundw
                  case rel => exact ⟨f + 1, by omega, by go_num, by rw [HS1.out]; exact own_below HFO.out HB7.out, Lib.hid (bel HB4.out HB7.out)⟩
                  case measure => simp [intOf]; omega
                | false =>
                  have HCS := Lib.hid hcs
                  have HS1 : Hid (seenF B k (f + 1) = seenF B k f ++ [atL z m]) := by unfold Hid; rw [HST.out, hcw, hcs]; rfl
                  clear hcw hcs
                  go_wp2
                  refine wp_region_held_drew (S := (fun w' => (∀ b o, b < wr.heap.size → w'.cell? ⟨b, o, none⟩ = wr.cell? ⟨b, o, none⟩) ∧ Hid (Below wr.heap.size wr w'))) (by kernel_rfl) Srd (fun hHeld => ?_)
                  (refine wpAnyH_take (i := 0) (v := ?_) rfl (by kernel_rfl) (by kernel_rfl) (by kernel_rfl) (fun _ _ _ h => h) (Or.inl ⟨by rfl, ?_⟩) (by assumption) ?_; rotate_left; (focus (intro w hSw; (try dsimp only at hSw); go_simp; (try with_reducible rfl))); (try simp only [List.getElem_toArray, List.getElem_cons_zero, List.getElem_cons_succ, Act.put, List.setIfInBounds_toArray, List.set_cons_zero, List.set_cons_succ])); (refine wpAnyH_take (i := 1) (v := ?_) rfl (by kernel_rfl) (by kernel_rfl) (by kernel_rfl) (fun _ _ _ h => h) (Or.inl ⟨by rfl, ?_⟩) (by assumption) ?_; rotate_left; (focus (intro w hSw; (try dsimp only at hSw); go_simp; (try with_reducible rfl))); (try simp only [List.getElem_toArray, List.getElem_cons_zero, List.getElem_cons_succ, Act.put, List.setIfInBounds_toArray, List.set_cons_zero, List.set_cons_succ])); (refine wpAnyH_take (i := 2) (v := ?_) rfl (by kernel_rfl) (by kernel_rfl) (by kernel_rfl) (fun _ _ _ h => h) (Or.inl ⟨by rfl, ?_⟩) (by assumption) ?_; rotate_left; (focus (intro w hSw; (try dsimp only at hSw); go_simp; (try with_reducible rfl))); (try simp only [List.getElem_toArray, List.getElem_cons_zero, List.getElem_cons_succ, Act.put, List.setIfInBounds_toArray, List.set_cons_zero, List.set_cons_succ])); (refine wpAnyH_take (i := 3) (v := ?_) rfl (by kernel_rfl) (by kernel_rfl) (by kernel_rfl) (fun _ _ _ h => h) (Or.inl ⟨by rfl, ?_⟩) (by assumption) ?_; rotate_left; (focus (intro w hSw; (try dsimp only at hSw); go_simp; (try with_reducible rfl))); (try simp only [List.getElem_toArray, List.getElem_cons_zero, List.getElem_cons_succ, Act.put, List.setIfInBounds_toArray, List.set_cons_zero, List.set_cons_succ])); (refine wpAnyH_take (i := 4) (v := ?_) rfl (by kernel_rfl) (by kernel_rfl) (by kernel_rfl) (fun _ _ _ h => h) (Or.inl ⟨by rfl, ?_⟩) (by assumption) ?_; rotate_left; (focus (intro w hSw; (try dsimp only at hSw); go_simp; (try with_reducible rfl))); (try simp only [List.getElem_toArray, List.getElem_cons_zero, List.getElem_cons_succ, Act.put, List.setIfInBounds_toArray, List.set_cons_zero, List.set_cons_succ])); (refine wpAnyH_take (i := 5) (v := ?_) rfl (by kernel_rfl) (by kernel_rfl) (by kernel_rfl) (fun _ _ _ h => h) (Or.inl ⟨by rfl, ?_⟩) (by assumption) ?_; rotate_left; (focus (intro w hSw; (try dsimp only at hSw); go_simp; (try with_reducible rfl))); (try simp only [List.getElem_toArray, List.getElem_cons_zero, List.getElem_cons_succ, Act.put, List.setIfInBounds_toArray, List.set_cons_zero, List.set_cons_succ]))
                  (refine wpAnyH_take (i := 7) (v := ?_) rfl (by kernel_rfl) (by kernel_rfl) (by kernel_rfl) (fun _ _ _ h => h) (Or.inl ⟨by rfl, ?_⟩) (by assumption) ?_; rotate_left; (focus (intro w hSw; (try dsimp only at hSw); go_simp; (try with_reducible rfl))); (try simp only [List.getElem_toArray, List.getElem_cons_zero, List.getElem_cons_succ, Act.put, List.setIfInBounds_toArray, List.set_cons_zero, List.set_cons_succ]))
                  refine wpAnyH_ready (rs := [6]) (by kernel_rfl) (by simp) ?_; refine AllReadyH.cons rfl (fun K hK => ?_) AllReadyH.nil; go_simp
                  go_at_call 23
                  refine (walkOf_any wr.heap.size _ _ B.D B.nv B.V B.ns B.nv (atL z) _ (HINT.out _ HBrd.out).2 (HINT.out _ HBrd.out).1 HBrd.out.size HG.out.D HGX.out (by omega)).mono ?_
                  rintro e w7 ⟨v7, rfl, ho7, hb7⟩
                  have HO7 := Lib.hid ho7
                  have S7 := old_of (bel HBrd.out hb7)
                  have HB7 := S7.2
                  clear hb7 ho7
                  refine hK.out _ _ S7 (fun hHeld => ?_); clear hK K; (try simp only [List.getElem_toArray, List.getElem_cons_zero, List.getElem_cons_succ, Act.put, List.setIfInBounds_toArray, List.set_cons_zero, List.set_cons_succ])
                  refine wpAnyH_ready (rs := [8]) (by kernel_rfl) (by simp) ?_; refine AllReadyH.cons rfl (fun K hK => ?_) AllReadyH.nil; go_simp
                  go_at_call 24
                  refine (in_any _ _ _ _ _ _ (HO7.out.ints HWL.out)).mono ?_
                  rw [anyB_list, ints_contains, HCW.out]
                  rintro e wq ⟨rfl, hwq⟩; rw [hwq]; clear hwq wq
                  refine hK.out _ _ S7 (fun hHeld => ?_); clear hK K; (try simp only [List.getElem_toArray, List.getElem_cons_zero, List.getElem_cons_succ, Act.put, List.setIfInBounds_toArray, List.set_cons_zero, List.set_cons_succ])
                  (refine wpAnyH_take (i := 9) (v := ?_) rfl (by kernel_rfl) (by kernel_rfl) (by kernel_rfl) (fun _ _ _ h => h) (Or.inl ⟨by rfl, ?_⟩) (by assumption) ?_; rotate_left; (focus (intro w hSw; (try dsimp only at hSw); go_simp; (try with_reducible rfl))); (try simp only [List.getElem_toArray, List.getElem_cons_zero, List.getElem_cons_succ, Act.put, List.setIfInBounds_toArray, List.set_cons_zero, List.set_cons_succ])); (refine wpAnyH_take (i := 10) (v := ?_) rfl (by kernel_rfl) (by kernel_rfl) (by kernel_rfl) (fun _ _ _ h => h) (Or.inl ⟨by rfl, ?_⟩) (by assumption) ?_; rotate_left; (focus (intro w hSw; (try dsimp only at hSw); go_simp; (try with_reducible rfl))); (try simp only [List.getElem_toArray, List.getElem_cons_zero, List.getElem_cons_succ, Act.put, List.setIfInBounds_toArray, List.set_cons_zero, List.set_cons_succ])); (refine wpAnyH_take (i := 11) (v := ?_) rfl (by kernel_rfl) (by kernel_rfl) (by kernel_rfl) (fun _ _ _ h => h) (Or.inl ⟨by rfl, ?_⟩) (by assumption) ?_; rotate_left; (focus (intro w hSw; (try dsimp only at hSw); go_simp; (try with_reducible rfl))); (try simp only [List.getElem_toArray, List.getElem_cons_zero, List.getElem_cons_succ, Act.put, List.setIfInBounds_toArray, List.set_cons_zero, List.set_cons_succ]))
                  refine wpAnyH_ready (rs := [12]) (by kernel_rfl) (by simp) ?_; refine AllReadyH.cons rfl (fun K hK => ?_) AllReadyH.nil; go_simp
                  go_at_call 24
                  refine (in_any _ _ _ _ _ _ ((show OwnI wo.heap.size w7 u9 (seenF B k f) from own_below HFO.out HB7.out).ints (by omega))).mono ?_
                  rw [anyB_list, HCS.out]
                  rintro e wq ⟨rfl, hwq⟩; rw [hwq]; clear hwq wq
                  refine hK.out _ _ S7 (fun hHeld => ?_); clear hK K; (try simp only [List.getElem_toArray, List.getElem_cons_zero, List.getElem_cons_succ, Act.put, List.setIfInBounds_toArray, List.set_cons_zero, List.set_cons_succ])
                  (refine wpAnyH_take (i := 13) (v := ?_) rfl (by kernel_rfl) (by kernel_rfl) (by kernel_rfl) (fun _ _ _ h => h) (Or.inl ⟨by rfl, ?_⟩) (by assumption) ?_; rotate_left; (focus (intro w hSw; (try dsimp only at hSw); go_simp; (try with_reducible rfl))); (try simp only [List.getElem_toArray, List.getElem_cons_zero, List.getElem_cons_succ, Act.put, List.setIfInBounds_toArray, List.set_cons_zero, List.set_cons_succ])); (refine wpAnyH_take (i := 14) (v := ?_) rfl (by kernel_rfl) (by kernel_rfl) (by kernel_rfl) (fun _ _ _ h => h) (Or.inl ⟨by rfl, ?_⟩) (by assumption) ?_; rotate_left; (focus (intro w hSw; (try dsimp only at hSw); go_simp; (try with_reducible rfl))); (try simp only [List.getElem_toArray, List.getElem_cons_zero, List.getElem_cons_succ, Act.put, List.setIfInBounds_toArray, List.set_cons_zero, List.set_cons_succ]))
                  refine wpAnyH_done (by kernel_rfl) ?_ _; clear hHeld
                  clear Srd S7
                  have hown7 := own_below HFO.out HB7.out
                  have HB8 := Lib.hid (bel HB4.out HB7.out)
                  have hs8 := HB8.out.size
                  generalize hsq : seenF B k f = sq at *
                  go_wp2_with (at_builtin; refine wpList_append_own _ rfl _ _ 22 rfl wo.heap.size 3 i0 (.int .i64 0) 1 8 Try.underlying22 hi hz0 hz1 hz2 rfl (by decide) _ _ _ rfl (hown7.alloc _) ⟨w7.heap.size, 0, none⟩ 1 1 [.int .i64 (atL z m)] rfl rfl (cell_one_new _ _ _) (by simp [Value.oneCell']) (by unfold maxLen; omega) (by omega) (by simp; omega) ?_; intro v' w9 hown9 hgrow _)
                  go_roundw
                  case rel => exact ⟨f + 1, by omega, by go_num, by rw [HS1.out]; unfold Hid OwnI; rw [List.length_append, List.map_append]; exact hown9, (HB8.out.alloc hs8 _).grown hgrow (by simp; omega) (fun j e => (hown7.lt j e).1)⟩
                  case measure => simp [intOf]; omega
            · have hff : f = F := by omega
              subst hff
              have HS9 : Hid ((seenF B k f).length = 1 ↔ idleP B k = true) := HSI.out ▸ Iff.rfl
              clear HSI
              obtain ⟨a9, c9, rfl⟩ := own_form hos.out
              have hown5 := own_below ho.out HB4.out
              have hs34 := HB34.out.size
              have hsl5 := sel_len (idleP B) k
              cases hp : idleP B k with
              | true =>
                have HP : Hid (sel (idleP B) (k + 1) = sel (idleP B) k ++ [(k : Int)]) := sel_hit hp
                have hl1 : (((seenF B k f).length : Int) == 1) = true := by have := HS9.out.2 hp; simp; omega
                clear hp
                generalize sel (idleP B) k = li at *
                go_wp2_with (at_builtin; refine wpList_append_own _ rfl _ _ 22 rfl w2.heap.size 3 i0 (.int .i64 0) 1 8 Try.underlying22 hi hz0 hz1 hz2 rfl (by decide) _ _ _ rfl (hown5.alloc _) ⟨wr.heap.size, 0, none⟩ 1 1 [.int .i64 k] rfl rfl (cell_one_new _ _ _) (by simp [Value.oneCell']) (by unfold maxLen; omega) (by omega) (by simp; omega) ?_; intro v' w9 hown9 hgrow _)
                go_roundw
                case rel => exact ⟨k + 1, by omega, by go_num, by rw [HP.out]; unfold Hid OwnI; rw [List.length_append, List.map_append]; exact hown9, (HB34.out.alloc hs34 _).grown hgrow (by simp; omega) (fun j e => (hown5.lt j e).1)⟩
                case measure => simp [intOf]; omega
              | false =>
                have HP : Hid (sel (idleP B) (k + 1) = sel (idleP B) k) := sel_miss hp
                have hl1 : (((seenF B k f).length : Int) == 1) = false := by
                  rw [Bool.eq_false_iff]; intro e
                  have : (seenF B k f).length = 1 := by simp at e; omega
                  have := HS9.out.1 this
                  rw [hp] at this; cases this
                clear hp
                generalize sel (idleP B) k = li at *
                go_wp2
                go_roundw
                case rel => exact ⟨k + 1, by omega, by go_num, by rw [HP.out]; exact hown5, HB34⟩
                case measure => simp [intOf]; omega
      · have Hk : Hid (sel (idleP B) k = sel (idleP B) B.D.n) := by unfold Hid; rw [show k = B.D.n by omega]
        go_wp2
        go_ret2
        refine ⟨_, ?_, (show OwnI _ _ _ (eIdle B).1 by rw [HE.out, ← Hk.out]; exact own_mono ho.out (Nat.le_trans HB.out.size HB2.out.size)), fin HB.out HBx.out⟩
        rw [HE.out]; rfl

end Go.Proofs.Ytbieglmpkljjjaa

namespace Go.Proofs.Ytbieglmpkljjjaa
open Go.RowKit

def grpF (g : List Nat) (i : Nat) : Int := ((g.getD i 0 : Nat) : Int)
/-- u is the list of the sorts g -/
def GrpAt (w : World) (u : Value) (g : List Nat) : Prop := IntsAt w.heap.size w u g.length (grpF g)
theorem GrpAt.go {w w' : World} {u : Value} {g : List Nat} (h : GrpAt w u g) (k : Below w.heap.size w w') : GrpAt w' u g := IntsAt.mono h k k.size
theorem grp_of_own {N : Nat} {w : World} {u : Value} {g : List Nat} (h : OwnI N w u (ints g)) (hl : g.length ≤ 1000) : GrpAt w u g := by
  have h' := h.ints (by rw [ints_len]; omega)
  unfold GrpAt
  rw [ints_len] at h'
  refine ListAt.mono h' (Below.refl _ _) (Nat.le_refl _) fun i r hi e => ?_
  rw [e]
  simp [grpF, ints, List.getD, hi]

/-- those of g that have the value y of the mark m -/
def havL (B : KB) (g : List Nat) (m : Nat) (y : Int) : List Nat := g.filter fun s => decide (B.X s m = y)
theorem take_snoc {g : List Nat} {i : Nat} (hi : i < g.length) : g.take (i + 1) = g.take i ++ [g.getD i 0] := by
  rw [List.take_add_one, List.getElem?_eq_getElem hi]; simp [List.getD, hi]
theorem getD_mem {g : List Nat} {i : Nat} (hi : i < g.length) : g.getD i 0 ∈ g := by
  simp [List.getD, hi]
theorem havL_hit {B : KB} {g : List Nat} {m i : Nat} {y : Int} (hi : i < g.length) (h : B.X (g.getD i 0) m = y) : havL B (g.take (i + 1)) m y = havL B (g.take i) m y ++ [g.getD i 0] := by
  rw [take_snoc hi]; unfold havL; rw [List.filter_append]; simp only [List.filter_cons, List.filter_nil, decide_eq_true h, if_true]
theorem havL_miss {B : KB} {g : List Nat} {m i : Nat} {y : Int} (hi : i < g.length) (h : B.X (g.getD i 0) m ≠ y) : havL B (g.take (i + 1)) m y = havL B (g.take i) m y := by
  rw [take_snoc hi]; unfold havL; rw [List.filter_append]; simp only [List.filter_cons, List.filter_nil, decide_eq_false h]; simp
theorem havL_len (B : KB) (g : List Nat) (m : Nat) (y : Int) : (havL B g m y).length ≤ g.length := List.length_filter_le _ _

set_option maxRecDepth 100000 in
set_option maxHeartbeats 3200000 in
theorem having_any (N : Nat) (v u : Value) (B : KB) (g : List Nat) (m : Nat) (y : Int) (w : World) (h : BookAt N w v B) (hG : GoodB B) (hu : GrpAt w u g) (hg : ∀ s, s ∈ g → s < B.ns) (hm : m < B.nv) (hl : g.length ≤ 8) :
    Calls Try.prog 133 #[v, u, .int .i64 m, .int .i64 y] w (GivesI w.heap.size w (ints (havL B g m y))) := by
  obtain ⟨i0, hi, hz0, hz1, hz2⟩ := info_parts Try.infoInt
  obtain ⟨au, cu, rfl, _, _⟩ := id hu
  have h' := h
  obtain ⟨_, a1, z1, a2, z2, a3, z3, rfl, _⟩ := h'
  obtain ⟨ws, hws, HB, hsz, hblk⟩ := box1 w (.cells #[.slice a1 B.nv z1, .slice a2 B.ns z2, .slice a3 B.D.n z3] 26)
  have q0 := cell_blk hblk 0 rfl
  have q1 := cell_blk hblk 1 rfl
  have q2 := cell_blk hblk 2 rfl
  have HBK := Lib.hid (h.go HB.out)
  have HB0 : Hid (Below ws.heap.size ws ws) := Below.refl _ _
  have HNS : Hid (N ≤ ws.heap.size) := HBK.out.1
  have hlens := h.lens
  obtain ⟨hlv, hls, hln⟩ := hlens
  clear hblk h
  have HG := Lib.hid hG
  have HU := Lib.hid (hu.go HB.out)
  have HGS := Lib.hid hg
  clear hG hu hg
  go_enter Try.func133, Try.ntmps133
  go_wp2
  clear hws
  go_loopw [9, 10] (fun t i wr => ∃ k : Nat, k ≤ g.length ∧ i = .int .i64 k ∧ Hid (OwnI ws.heap.size wr t (ints (havL B (g.take k) m y))) ∧ Hid (Below ws.heap.size ws wr)) (fun _ i _ => g.length - (intOf i).toNat)
  case atStart => exact ⟨0, Nat.zero_le _, rfl, own_nil _ _, HB0⟩
  case round =>
    obtain ⟨k, hk, rfl, ho, HB1⟩ := hrel
    have c1 := (old_of HB1.out).1
    have hsz1 := Nat.lt_of_lt_of_le hsz HB1.out.size
    by_cases hkn : k < g.length
    · have hsn : g.getD k 0 < B.ns := HGS.out _ (getD_mem hkn)
      obtain ⟨bu, ou, rfl, hbu, hru⟩ := (HU.out.go HB1.out).cells (by omega)
      have hcu := hru k hkn
      obtain ⟨s, hs⟩ : ∃ s, g.getD k 0 = s := ⟨_, rfl⟩
      have HS := Lib.hid hs
      rw [show grpF g k = ((s : Nat) : Int) by unfold grpF; rw [hs]] at hcu
      rw [hs] at hsn
      obtain ⟨b2, off2, rfl, hb2, hr2⟩ := (HBK.out.go HB1.out).sorts.cells (by omega)
      obtain ⟨ai, ci, hcell2, hints⟩ := hr2 s hsn
      have hLs : B.L s = B.nv := (HG.out.X s hsn).n
      rw [hLs] at hcell2 hints
      obtain ⟨bs, os, rfl, hbs, hrs⟩ := hints.cells (by omega)
      have hcx := hrs m hm
      have hNr : N ≤ wr.heap.size := (HBK.out.go HB1.out).1
      have hbs' : bs < wr.heap.size := by omega
      have hb2' : b2 < wr.heap.size := by omega
      have hsi : (s : Int) < (B.ns : Int) := by omega
      have hmi : (m : Int) < (B.nv : Int) := by omega
      have hki : (k : Int) < (g.length : Int) := by omega
      have hvl := havL_len B (g.take k) m y
      have htl : (g.take k).length ≤ 8 := by rw [List.length_take]; omega
      have hil : (ints (havL B (g.take k) m y)).length ≤ 8 := by rw [ints_len]; omega
      have hown := ho.out
      clear hru hrs hr2 hs hints hLs hvl htl
      by_cases hx : B.X s m = y
      · have HP : Hid (ints (havL B (g.take (k + 1)) m y) = ints (havL B (g.take k) m y) ++ [(s : Int)]) := by unfold Hid; rw [havL_hit hkn (by rw [HS.out]; exact hx), HS.out, ints_snoc]
        have hxe : (B.X s m == y) = true := by simp [hx]
        clear hx
        generalize ints (havL B (g.take k) m y) = li at *
        go_wp2
        go_quiet (fail)
        have HBq : Hid (Below ws.heap.size ws (wr.drewN nq)) := below_drewN HB1.out nq
        have hown2 := own_below hown (below_drewN (Below.refl _ _) nq)
        have hsq := HBq.out.size
        have hs1 := HB1.out.size
        go_wp2_with (at_builtin; refine wpList_append_own _ rfl _ _ 22 rfl ws.heap.size 3 i0 (.int .i64 0) 1 8 Try.underlying22 hi hz0 hz1 hz2 rfl (by decide) _ _ _ rfl (hown2.alloc _) ⟨wr.heap.size, 0, none⟩ 1 1 [.int .i64 s] rfl rfl (cell_one_new _ _ _) (by simp [Value.oneCell']) (by unfold maxLen; omega) (by omega) (by simp; omega) ?_; intro v' w2 hown3 hgrow _)
        go_roundw
        case rel => exact ⟨k + 1, by omega, by go_num, by rw [HP.out]; unfold Hid OwnI; rw [List.length_append, List.map_append]; exact hown3, (HBq.out.alloc hsq _).grown hgrow (by simp; omega) (fun j e => (hown2.lt j e).1)⟩
        case measure => simp [intOf]; omega
      · have HP : Hid (ints (havL B (g.take (k + 1)) m y) = ints (havL B (g.take k) m y)) := by unfold Hid; rw [havL_miss hkn (by rw [HS.out]; exact hx)]
        have hxe : (B.X s m == y) = false := by simp [hx]
        clear hx
        generalize ints (havL B (g.take k) m y) = li at *
        go_wp2
        go_quiet (fail)
        have HBq : Hid (Below ws.heap.size ws (wr.drewN nq)) := below_drewN HB1.out nq
        have hown2 := own_below hown (below_drewN (Below.refl _ _) nq)
        go_wp2
        go_roundw
        case rel => exact ⟨k + 1, by omega, by go_num, by rw [HP.out]; exact hown2, HBq⟩
        case measure => simp [intOf]; omega
    · have HK : Hid (g.take k = g) := by unfold Hid; rw [show k = g.length by omega]; exact List.take_length
      go_wp2
      go_ret
      exact ⟨_, rfl, by rw [HK.out] at ho; exact own_mono ho.out HB.out.size, fin HB.out HB1.out⟩

end Go.Proofs.Ytbieglmpkljjjaa
