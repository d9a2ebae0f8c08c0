/-
  KComes: comes of package keys.
-/
import Derived.Test.YtbieglmpkljjjaaIdle
import Derived.RangeFuncKeeps
import Derived.RangeFuncBox
namespace Go.Proofs.Ytbieglmpkljjjaa
open Go.RowKit Go.Shelf

attribute [local go_sem] Oper.semAt_some

theorem wpListIn_append_own_at {F : Fence} {n : Nat} {P : Program} (w : World) {ops : Array Oper} {rest : List Oper} {o : Oper} {a : Act} {Q : Exit → Act → World → Prop}
    (hg : o.guard = none) (s x : Operand) (t : TypeId) (hop : o.op = Op.call { callee := Callee.builtin Builtin.append, args := #[s, x], argTypes := #[t, t] })
    (base : Nat) (e : TypeId) (i : TypeInfo) (z : Value) (size bytes : Nat) (h1 : P.underlying t = some (.slice e)) (h2 : P.info? e = some i) (h3 : i.zero = some z) (h4 : i.size = size) (h5 : i.bytes = bytes) (h6 : z.cells.size = size) (h7 : 0 < size)
    (v : Value) (k : Nat) (xs : List Value) (hs : a.eval s = v) (hown : w.ownsRow base e size v k xs) (ad : Addr) (m c : Nat) (news : List Value) (hx : a.eval x = .slice (some ad) m c) (hn : news.length = m * size)
    (hc : ∀ j u, news[j]? = some u → w.cell? (ad.add j) = some u) (h1c : ∀ u ∈ news, u.oneCell' = true) (b1 : k + m ≤ maxLen) (b2 : (k + m) * bytes ≤ 140737488355328) (b3 : base ≤ w.heap.size)
    (hK : ∀ v' w', w'.ownsRow base e size v' (k + m) (xs ++ news) → w.grownBy w' v.ownBlock → (v'.ownBlock = v.ownBlock ∨ v'.ownBlock = some w.heap.size) → wpListIn F n P ops Q rest (a.put o.dst v') w') :
    wpListIn F n P ops Q (o :: rest) a w := by
  refine wpListIn_plain hg fun K hK' => ?_
  obtain ⟨v', w', hrun, r1, r2, r3, r4⟩ := run_append_own_at (P := P) w base t o.type e i z size bytes h1 h2 h3 h4 h5 h6 h7 v k xs hown ad m c news hn hc h1c b1 b2 b3
  unfold Oper.wpIn
  refine ⟨?_, ?_⟩
  · simp [Oper.about, hop, resolve, Target.leads, Sem.run_pure]
  · rw [Oper.semAt_plain F _ _ (by rw [hop]; intro c hc'; cases hc')]
    simp [execOp, hop, resolve, invoke, builtin, hs, hx, hrun, Result.andThen]
    exact hK' _ _ (hK v' w' r1 r2 r4)

theorem own_formC {w : World} {lo : Nat} {e : TypeId} {size : Nat} {v : Value} {n : Nat} {xs : List Value} (h : w.ownsRow lo e size v n xs) : ∃ ao cap, v = .slice ao n cap := by
  obtain ⟨h1, ⟨rfl, rfl⟩ | ⟨g, cap, cur, rfl, _⟩⟩ := h
  · exact ⟨none, 0, rfl⟩
  · exact ⟨_, _, rfl⟩

/-- the marks of the loops that are over -/
def Marks (lo : Nat) (w : World) (Ds : List Nat) : Prop := Ds.Nodup ∧ ∀ D ∈ Ds, lo ≤ D ∧ w.heap[D]? = some (.deferred (some []))
def marksOf (Ds : List Nat) : List Deferred := Ds.map fun D => { target := .collected D, args := #[] }
/-- only records were shut -/
def Shut (lo : Nat) (w w' : World) : Prop := Below lo w w' ∧ ∀ (k : Nat) (o : Obj), w.heap[k]? = some o → o.isCells = true → w'.heap[k]? = some o
theorem Marks.keep {lo : Nat} {w w' : World} {Ds : List Nat} (h : Marks lo w Ds) (hk : ∀ (k : Nat) (o : Obj), w.heap[k]? = some o → o.isCells = false → w'.heap[k]? = some o) : Marks lo w' Ds :=
  ⟨h.1, fun D hD => ⟨(h.2 D hD).1, hk D _ (h.2 D hD).2 rfl⟩⟩
theorem leaves_marks {F : Fence} {n : Nat} {P : Program} {fn : Func} {tmps : Array Value} {R : Ending → World → Prop} {lo : Nat} : ∀ (Ds : List Nat) (w : World), Marks lo w Ds →
    (∀ w', Shut lo w w' → LeavesIn F n P fn tmps R [] .returning w') → LeavesInM F n P fn tmps R (marksOf Ds) .returning w := by
  intro Ds
  induction Ds with
  | nil => intro w _ h; exact h w ⟨Below.refl _ _, fun _ _ h _ => h⟩
  | cons D Ds ih =>
    intro w hm h
    obtain ⟨hD1, hD2⟩ := hm.2 D (by simp)
    have hnd := List.nodup_cons.1 hm.1
    refine ⟨by simp, .inl ⟨D, _, rfl, run_takeDeferred hD2, ih _ ⟨hnd.2, fun E hE => ⟨(hm.2 E (by simp [hE])).1, ?_⟩⟩ fun w' hw' => h w' ?_⟩⟩
    · exact (World.putObj_heap_other (fun e => hnd.1 (by rw [← e]; exact hE))).trans (hm.2 E (by simp [hE])).2
    · refine ⟨(below_putObj (.deferred none) hD2 hD1).trans hw'.1, fun k o hk ho => hw'.2 k o ((World.putObj_heap_other (fun e => ?_)).trans hk) ho⟩
      subst e
      rw [hD2] at hk
      cases hk
      cases ho

/-- what a list grows by when some nodes are gone through -/
def hits (y : Int) (k : Nat) (pre : List Nat) : List Int := (pre.filter fun j : Nat => decide ((j : Int) = y)).map fun _ => (k : Int)
theorem hits_snoc_hit {y : Int} {k : Nat} {pre : List Nat} {j : Nat} (h : (j : Int) = y) : hits y k (pre ++ [j]) = hits y k pre ++ [(k : Int)] := by simp [hits, h]
theorem hits_snoc_miss {y : Int} {k : Nat} {pre : List Nat} {j : Nat} (h : ¬ (j : Int) = y) : hits y k (pre ++ [j]) = hits y k pre := by simp [hits, h]
theorem hits_len (y : Int) (k : Nat) (pre : List Nat) : (hits y k pre).length ≤ pre.length := by simp [hits]; exact List.length_filter_le _ _

theorem wk_asc {nv : Nat} {V : Nat → Int} {ns : Nat} {D : Nd} {n : Nat} {x : Nat → Int} (hD : GoodN nv V ns D) (hx : GoodX nv V n x) : ∀ (f i : Nat), D.n - i ≤ f → i < D.n → (wk D x i).Pairwise (· < ·) ∧ ∀ j ∈ wk D x i, i ≤ j := by
  intro f
  induction f with
  | zero => intro i _ _; omega
  | succ f ih =>
    intro i hf hi
    by_cases hm : D.M i = -1
    · rw [wk_stop hD hi hm]; simp
    · obtain ⟨h1, h2, _⟩ := nxt_ok hD hx hi hm
      rw [wk_go hD hx hi hm]
      obtain ⟨a, b⟩ := ih (nxt D x i) (by omega) h2
      refine ⟨List.pairwise_cons.2 ⟨fun j hj => by have := b j hj; omega, a⟩, fun j hj => ?_⟩
      rcases List.mem_cons.1 hj with rfl | hj
      · exact Nat.le_refl _
      · have := b j hj; omega
theorem walk_asc {nv : Nat} {V : Nat → Int} {ns : Nat} {D : Nd} {n : Nat} {x : Nat → Int} (hD : GoodN nv V ns D) (hx : GoodX nv V n x) : (walk D x).Pairwise (· < ·) := by
  rw [walk_wk]; exact (wk_asc hD hx D.n 0 (by omega) hD.n1).1
theorem hits_asc (y : Int) (k : Nat) : ∀ l : List Nat, l.Pairwise (· < ·) → hits y k l = if l.any (fun j => decide ((j : Int) = y)) then [(k : Int)] else [] := by
  intro l
  induction l with
  | nil => intro _; rfl
  | cons j l ih =>
    intro h
    obtain ⟨h1, h2⟩ := List.pairwise_cons.1 h
    by_cases hj : (j : Int) = y
    · have hno : hits y k l = [] := by
        unfold hits
        rw [List.map_eq_nil_iff, List.filter_eq_nil_iff]
        intro i hi hh
        have := h1 i hi
        have := of_decide_eq_true hh
        omega
      have e : hits y k (j :: l) = (k : Int) :: hits y k l := by simp [hits, hj]
      rw [e, hno]; simp [hj]
    · have e : hits y k (j :: l) = hits y k l := by simp [hits, hj]
      rw [e, ih h2]; simp [hj]

/-- the list, and what else is known, in a round -/
def ComesI (ws wq : World) (gB lo c0 k : Nat) (y : Int) (l : List Int) (Ds : List Nat) (pre : List Nat) (W : World) : Prop :=
  ∃ v, W.heap[gB]? = some (.cells #[v] 22) ∧ OwnI lo W v (l ++ hits y k pre) ∧ (∀ g, v.ownBlock = some g → g < c0 ∨ wq.heap.size ≤ g) ∧ Below gB ws W ∧ Marks lo W Ds ∧ (∀ j, c0 ≤ j → j < wq.heap.size → W.heap[j]? = wq.heap[j]?) ∧ wq.heap.size ≤ W.heap.size

theorem OwnI.putObj {N : Nat} {W : World} {v : Value} {l : List Int} (h : OwnI N W v l) {j : Nat} {o : Obj} (o' : Obj) (hl : W.heap[j]? = some o) (ho : o.isCells = false) : OwnI N (W.putObj j o') v l := ownsRow_putObj h o' hl ho
theorem ComesI.rec' {ws wq : World} {gB lo c0 k : Nat} {y : Int} {l : List Int} {Ds : List Nat} (hB : gB < wq.heap.size) (hD : ∀ D ∈ Ds, D < wq.heap.size) (s : List Nat) : Rec wq.heap.size (ComesI ws wq gB lo c0 k y l Ds s) := fun A j o o' h hl hA ho => by
  obtain ⟨v, h1, h2, h3, h4, h5, h6, h7⟩ := h
  exact ⟨v, (World.putObj_heap_other (by omega)).trans h1, h2.putObj o' hA ho, h3, h4.trans (below_putObj o' hA (by omega)), ⟨h5.1, fun D hDm => ⟨(h5.2 D hDm).1, (World.putObj_heap_other (by have := hD D hDm; omega)).trans (h5.2 D hDm).2⟩⟩,
    fun i hi1 hi2 => (World.putObj_heap_other (by omega)).trans (h6 i hi1 hi2), by simpa [World.putObj] using h7⟩
theorem ComesI.new {ws wq : World} {gB lo c0 k : Nat} {y : Int} {l : List Int} {Ds : List Nat} {s : List Nat} {A B : World} (h : ComesI ws wq gB lo c0 k y l Ds s A) (hg : gB < wq.heap.size) (g : A.grownBy B none) : ComesI ws wq gB lo c0 k y l Ds s B := by
  obtain ⟨v, h1, h2, h3, h4, h5, h6, h7⟩ := h
  have hb := grown_below g
  have hs : ∀ (j : Nat) (o : Obj), A.heap[j]? = some o → B.heap[j]? = some o := fun j o hj => (hb.block j (heap_lt hj)).trans hj
  exact ⟨v, hs _ _ h1, own_below h2 hb, h3, h4.trans (hb.mono (by omega)), ⟨h5.1, fun D hD => ⟨(h5.2 D hD).1, hs _ _ (h5.2 D hD).2⟩⟩, fun i hi1 hi2 => (hb.block i (by omega)).trans (h6 i hi1 hi2), Nat.le_trans h7 hb.size⟩

/-- one round of the walk: the node is met -/
theorem comes_round {ws wq W W2 : World} {gB lo c0 k j : Nat} {y : Int} {l : List Int} {Ds pre : List Nat} {v v' : Value} {o : Obj}
    (h1 : W.heap[gB]? = some (.cells #[v] 22)) (h2 : OwnI lo W v (l ++ hits y k pre)) (h3 : ∀ g, v.ownBlock = some g → g < c0 ∨ wq.heap.size ≤ g) (h4 : Below gB ws W) (h5 : Marks lo W Ds) (h6 : ∀ j, c0 ≤ j → j < wq.heap.size → W.heap[j]? = wq.heap[j]?) (h7 : wq.heap.size ≤ W.heap.size)
    (hlo : gB < lo) (hc : c0 ≤ wq.heap.size) (hgc : gB < c0) (hj : (j : Int) = y) (hown : W2.ownsRow lo 3 1 v' ((l ++ hits y k pre).length + 1) ((l ++ hits y k pre).map (Value.int .i64) ++ [.int .i64 k])) (hgr : (W.alloc o).grownBy W2 v.ownBlock) (hat : v'.ownBlock = v.ownBlock ∨ v'.ownBlock = some (W.alloc o).heap.size) :
    KeepsFrom wq.heap.size W (W2.setCell ⟨gB, 0, none⟩ v') ∧ (∀ i, i < gB ∨ (c0 ≤ i ∧ i < wq.heap.size) → (W2.setCell ⟨gB, 0, none⟩ v').heap[i]? = W.heap[i]?) ∧ ComesI ws wq gB lo c0 k y l Ds (pre ++ [j]) (W2.setCell ⟨gB, 0, none⟩ v') := by
  have ha : ∀ (i : Nat) (q : Obj), W.heap[i]? = some q → (W.alloc o).heap[i]? = some q := fun i q hi => (Below.heap_alloc _ _ _ (heap_lt hi)).trans hi
  have hnb : ∀ g, v.ownBlock = some g → lo ≤ g := fun g hg => (h2.lt g hg).1
  have hbc : ∀ g, v.ownBlock = some g → ∃ cur, W.heap[g]? = some (.cells cur 3) := fun g hg => by
    obtain ⟨_, ⟨rfl, _⟩ | ⟨g', cap, cur', rfl, _, hh, _⟩⟩ := h2
    · cases hg
    · obtain rfl : g = g' := by simpa [Value.ownBlock] using hg.symm
      exact ⟨_, hh⟩
  have hstep : ∀ (i : Nat) (q : Obj), W.heap[i]? = some q → some i ≠ v.ownBlock → W2.heap[i]? = some q := fun i q hi hne => (hgr.block i (by have := heap_lt hi; simp; omega) hne).trans (ha i q hi)
  have hset : ∀ i, i ≠ gB → (W2.setCell ⟨gB, 0, none⟩ v').heap[i]? = W2.heap[i]? := fun i hi => Below.heap_setCell _ _ _ _ hi
  have hnon : ∀ (i : Nat) (q : Obj), W.heap[i]? = some q → q.isCells = false → (W2.setCell ⟨gB, 0, none⟩ v').heap[i]? = some q := fun i q hi hq => by
    have hne : i ≠ gB := by rintro rfl; rw [h1] at hi; cases hi; cases hq
    rw [hset i hne]
    refine hstep i q hi fun e => ?_
    obtain ⟨cur, hcur⟩ := hbc i e.symm
    rw [hcur] at hi; cases hi; cases hq
  have hszA : W.heap.size ≤ (W2.setCell ⟨gB, 0, none⟩ v').heap.size := by have := hgr.size; simp [World.setCell] at this ⊢; omega
  have hbox : ∀ i, i < gB ∨ (c0 ≤ i ∧ i < wq.heap.size) → (W2.setCell ⟨gB, 0, none⟩ v').heap[i]? = W.heap[i]? := fun i hi => by
    have hne : i ≠ gB := by omega
    have hlt : i < W.heap.size := by have := heap_lt h1; omega
    rw [hset i hne]
    obtain ⟨q, hq⟩ : ∃ q, W.heap[i]? = some q := ⟨_, Array.getElem?_eq_getElem hlt⟩
    rw [hq]
    refine hstep i q hq fun e => ?_
    have e1 := hnb i e.symm
    have e2 := h3 i e.symm
    omega
  have hgB2 : W2.heap[gB]? = some (.cells #[v] 22) := hstep gB _ h1 fun e => by have := hnb gB e.symm; omega
  refine ⟨⟨hszA, fun i q _ hi hq => hnon i q hi hq⟩, hbox, v', ?_, ?_, fun g hg => ?_, ?_, h5.keep hnon, fun i hi1 hi2 => (hbox i (.inr ⟨hi1, hi2⟩)).trans (h6 i hi1 hi2), Nat.le_trans h7 hszA⟩
  · simp [World.setCell, Array.getElem?_modify, hgB2]
  · rw [hits_snoc_hit hj, ← List.append_assoc]
    have hu : W2.ownsRow lo 3 1 v' (((l ++ hits y k pre) ++ [(k : Int)]).length) (((l ++ hits y k pre) ++ [(k : Int)]).map (Value.int .i64)) := by
      rw [List.length_append, List.map_append]; exact hown
    obtain ⟨a, b⟩ := hu
    refine ⟨a, ?_⟩
    rcases b with b | ⟨g, cap, cur, rfl, b1, b2, b3⟩
    · exact .inl b
    · exact .inr ⟨g, cap, cur, rfl, b1, (hset g (by omega)).trans b2, b3⟩
  · rcases hat with e | e
    · exact h3 g (e ▸ hg)
    · rw [e] at hg
      injection hg with hg
      simp at hg
      omega
  · refine (h4.trans ?_)
    refine ⟨hgr.os, hgr.tape, hgr.output, hszA, fun i hi => hbox i (.inl hi)⟩

set_option maxRecDepth 100000 in
set_option maxHeartbeats 8000000 in
theorem kcomes_any (N : Nat) (v : Value) (B : KB) (y : Int) (w : World) (h : BookAt N w v B) (hG : GoodB B) :
    Calls Try.prog 74 #[v, .int .i64 y] w fun e W' => ∃ v', e = .returned v' ∧ OwnI w.heap.size W' v' (sel (fun i => (walk B.D (B.X i)).any fun k => decide ((k : Int) = y)) B.ns) ∧ Below w.heap.size w W' := by
  obtain ⟨P, hP⟩ : ∃ P : Nat → Bool, (fun i => (walk B.D (B.X i)).any fun k => decide ((k : Int) = y)) = P := ⟨_, rfl⟩
  rw [hP]
  have HPP : Hid (∀ i, P i = (walk B.D (B.X i)).any fun k => decide ((k : Int) = y)) := fun i => by rw [← hP]
  clear hP
  obtain ⟨i0, hi, hz0, hz1, hz2⟩ := info_parts Try.infoInt
  obtain ⟨hN, a1, z1, a2, z2, a3, z3, rfl, _⟩ := id h
  have HB := Lib.hid h
  have HG := Lib.hid hG
  clear h hG
  refine (callsIn_wide (n := 3)).1 ?_
  refine callsIn_of_wp_marks Try.func74 rfl trivial ?_ rfl
  simp only [Try.ntmps74, List.size_toArray, List.length_cons, List.length_nil, Nat.reduceAdd, Nat.reduceSub, Array.replicate_succ, Array.replicate_zero, List.push_toArray, List.append_toArray, List.nil_append, List.cons_append]
  obtain ⟨ws, hws, HBs, hsz, k0, k1, k2⟩ := allocs3 w (.cells #[.slice a1 B.nv z1, .slice a2 B.ns z2, .slice a3 B.D.n z3] 26) (.cells #[.int .i64 y] 3) (.cells #[.slice none 0 0] 22)
  have HBK := Lib.hid (HB.out.go HBs.out)
  have q0 := cell_blk k0 0 rfl
  have q1 := cell_blk k0 1 rfl
  have q2 := cell_blk k0 2 rfl
  have K0 := Lib.hid k0
  have K1 := Lib.hid k1
  have K2 := Lib.hid k2
  clear k0 k1 k2
  gi_wp2
  clear hws q0 q1 q2
  have hns8 := HG.out.ns
  refine wpIn_loop (fun a W => ∃ (k : Nat) (Ds : List Nat) (vS u6 u7 u8 u13 u14 u15 u16 u17 u18 u19 u20 u21 u22 u23 u24 u25 u26 u27 u28 u29 : Value), a = { tmps := #[.agg #[.slice a1 B.nv z1, .slice a2 B.ns z2, .slice a3 B.D.n z3], .int .i64 y, .pointer (some ⟨w.heap.size, 0, none⟩), .pointer (some ⟨w.heap.size + 1, 0, none⟩), .slice none 0 0, .pointer (some ⟨w.heap.size + 1 + 1, 0, none⟩), u6, u7, u8, .pointer (some ⟨w.heap.size, 1, none⟩), .slice a2 B.ns z2, .int .i64 B.ns, .int .i64 k, u13, u14, u15, u16, u17, u18, u19, u20, u21, u22, u23, u24, u25, u26, u27, u28, u29], defers := marksOf Ds } ∧
      k ≤ B.ns ∧ Hid (W.heap[w.heap.size + 1 + 1]? = some (.cells #[vS] 22)) ∧ Hid (OwnI ws.heap.size W vS (sel P k)) ∧ Hid (Marks ws.heap.size W Ds) ∧ Hid (Below (w.heap.size + 1 + 1) ws W)) (fun a _ => B.ns - (intOf (a.tmps.getD 12 undef)).toNat) ?start ?round
  case start => exact ⟨0, [], .slice none 0 0, undef, undef, undef, undef, undef, undef, undef, undef, undef, undef, undef, undef, undef, undef, undef, undef, undef, undef, undef, undef, rfl, Nat.zero_le _, K2.out, own_nil _ _, ⟨List.nodup_nil, fun D hD => by cases hD⟩, Below.refl _ _⟩
  case round =>
    rintro a W ⟨k, Ds, vS, u6, u7, u8, u13, u14, u15, u16, u17, u18, u19, u20, u21, u22, u23, u24, u25, u26, u27, u28, u29, rfl, hk, HgB, HO, HM, HBw⟩
    have hgBlt := heap_lt HgB.out
    have hszW : ws.heap.size ≤ W.heap.size := HBw.out.size
    by_cases hkn : k < B.ns
    · have hkni : (k : Int) < (B.ns : Int) := by omega
      have hgo : BookAt N W (.agg #[.slice a1 B.nv z1, .slice a2 B.ns z2, .slice a3 B.D.n z3]) B := HBK.out.mono (HBw.out.mono (by omega)) (Nat.le_refl _) (by omega)
      obtain ⟨br, or, rfl, hbr, hrr⟩ := hgo.sorts.cells (by omega)
      obtain ⟨ai, ci, hcell, hints⟩ := hrr k hkn
      have c0 := (HBw.out.cell (p := ⟨w.heap.size, 0, none⟩) (show w.heap.size < _ by omega)).trans (cell_blk K0.out 0 rfl)
      have c1 := (HBw.out.cell (p := ⟨w.heap.size, 1, none⟩) (show w.heap.size < _ by omega)).trans (cell_blk K0.out 1 rfl)
      have c2 := (HBw.out.cell (p := ⟨w.heap.size, 2, none⟩) (show w.heap.size < _ by omega)).trans (cell_blk K0.out 2 rfl)
      have HX := Lib.hid (HG.out.X k hkn)
      obtain ⟨wq, hwq, HBq, hszq, m0, m1, m2⟩ := allocs3 W (.cells #[.int .i64 k] 3) (.cells #[.slice a1 B.nv z1, .slice (some ⟨br, or, none⟩) B.ns z2, .slice a3 B.D.n z3] 26) (.cells #[.slice ai (B.L k) ci] 22)
      have HIq := Lib.hid (hints.mono (HBq.out.mono hgo.1) (Nat.le_refl _))
      have HNq := Lib.hid ((hgo.go HBq.out).nodes)
      have HWN : Hid (N ≤ w.heap.size) := HB.out.1
      have HI := Lib.hid hints
      have M0 := Lib.hid m0
      have M1 := Lib.hid m1
      have M2 := Lib.hid m2
      have hbrW : br < W.heap.size := by have := HWN.out; omega
      have hw0 : w.heap.size < W.heap.size := by omega
      clear hrr hints hgo m0 m1 m2
      gi_wp2_with (refine ⟨trivial, ?_⟩; gi_at_call 70; refine (callsIn_wide.2 (kwalk_any _ _ _ _ _ _ _)).mono ?_; rintro e w' ⟨rfl, rfl⟩)
      have hgBq : w.heap.size + 1 + 1 < wq.heap.size := by omega
      have hDq : ∀ D ∈ Ds, D < wq.heap.size := fun D hD => by have := heap_lt (HM.out.2 D hD).2; omega
      have HDQ := Lib.hid hDq
      have hsl := sel_len P k
      have hseq := walk1_seq 2 (by omega) (W.heap.size + 1) (W.heap.size + 1 + 1) N B.D B.nv B.V B.ns (B.L k) (B.X k) (fun j => j < w.heap.size + 1 + 1 ∨ (W.heap.size ≤ j ∧ j < wq.heap.size)) (Kept fun j => j < w.heap.size + 1 + 1 ∨ (W.heap.size ≤ j ∧ j < wq.heap.size)) (fun _ _ h => h) wq (.slice a1 B.nv z1) (.slice (some ⟨br, or, none⟩) B.ns z2) a3 z3 ai ci
        (cell_blk M1.out 2 rfl) (cell_blk M2.out 0 rfl) HNq.out (fun h0 => by obtain ⟨bu, ou, e, h1, h2⟩ := HIq.out.cells h0; exact ⟨bu, ou, e, .inl (by have := HWN.out; omega), h2⟩)
        (fun j hj => .inl (by have := HWN.out; omega)) (.inr ⟨by omega, by omega⟩) (.inr ⟨by omega, by omega⟩) (fun j hj => by omega) HG.out.D HX.out
      have HSEQ := Lib.hid hseq
      have HI0 : Hid (ComesI ws wq (w.heap.size + 1 + 1) ws.heap.size W.heap.size k y (sel P k) Ds [] wq) := by
        have hold : ∀ (j : Nat) (o : Obj), W.heap[j]? = some o → wq.heap[j]? = some o := fun j o hj => (HBq.out.block j (heap_lt hj)).trans hj
        refine ⟨vS, hold _ _ HgB.out, ?_, fun g hg => .inl (HO.out.lt g hg).2, HBw.out.trans (HBq.out.mono (by omega)), HM.out.keep fun j o hj _ => hold j o hj, fun _ _ _ => rfl, Nat.le_refl _⟩
        have e : sel P k ++ hits y k [] = sel P k := by simp [hits]
        rw [e]; exact own_below HO.out HBq.out
      clear hseq hwq hDq c0 c1 c2 hcell
      refine rangeL (w := wq) rfl (by omega) (gf := 107) (lb := #[.pointer (some ⟨W.heap.size + 1, 0, none⟩), .pointer (some ⟨W.heap.size + 1 + 1, 0, none⟩)]) rfl trivial (enters_of Try.func107 (by kernel_rfl) rfl) HSEQ.out
        (fun h k => Kept.trans h k) (fun W' l o o' hl _ _ j hj => World.putObj_heap_other (by omega)) (Below.refl _ _) (fun _ => rfl) new_cells
        (ComesI ws wq (w.heap.size + 1 + 1) ws.heap.size W.heap.size k y (sel P k) Ds) (fun _ _ _ => False)
        (fun s => ComesI.rec' hgBq HDQ.out s) (fun _ _ _ _ _ _ h _ _ _ => h) (fun _ _ _ _ _ h _ _ _ => h)
        (fun W' s A C hW hs hk => hs.new hgBq hk) (fun _ _ _ _ _ _ h _ => h) (fun s A o hs => hs.new hgBq (World.grownBy_alloc _ _ _)) HI0.out (fun W' => Kept.refl _ W')
        (fun x => { tmps := #[.agg #[.slice a1 B.nv z1, .slice (some ⟨br, or, none⟩) B.ns z2, .slice a3 B.D.n z3], .int .i64 y, .pointer (some ⟨w.heap.size, 0, none⟩), .pointer (some ⟨w.heap.size + 1, 0, none⟩), .slice none 0 0, .pointer (some ⟨w.heap.size + 1 + 1, 0, none⟩), .pointer (some ⟨W.heap.size, 0, none⟩), .slice ai (B.L k) ci, .int .i64 (x : Nat), .pointer (some ⟨w.heap.size, 1, none⟩), .slice (some ⟨br, or, none⟩) B.ns z2, .int .i64 B.ns, .int .i64 k, .bool true, .int .i64 k, .pointer (some ⟨br, or + k, none⟩), .slice ai (B.L k) ci, .agg #[.slice a1 B.nv z1, .slice (some ⟨br, or, none⟩) B.ns z2, .slice a3 B.D.n z3], .slice ai (B.L k) ci, .func (.func 107) #[] #[.pointer (some ⟨W.heap.size + 1, 0, none⟩), .pointer (some ⟨W.heap.size + 1 + 1, 0, none⟩)], .int .i64 (x : Nat), u21, u22, u23, u24, u25, u26, u27, u28, u29], defers := [] }) ?assign ?body ?done ?stop
      case assign =>
        intro l x W' K hK
        gi_wp2
        simpa using hK
      case body =>
        intro l pre x W' hl hrec hs hx hpl
        obtain ⟨v', g1, g2, g3, g4, g5, g6, g7⟩ := hs
        have c5 := cell_blk g1 0 rfl
        have f5 := free_blk g1 0
        have cy := (g4.cell (p := ⟨w.heap.size + 1, 0, none⟩) (show w.heap.size + 1 < _ by omega)).trans (cell_blk K1.out 0 rfl)
        have hbx := (g6 W.heap.size (Nat.le_refl _) (by omega)).trans M0.out
        have ck := cell_blk hbx 0 rfl
        have HS : Hid (_ ∧ _ ∧ _ ∧ _ ∧ _ ∧ _ ∧ _) := Lib.hid ⟨g1, g2, g3, g4, g5, g6, g7⟩
        have hnn := HG.out.nn
        have hhl : (sel P k ++ hits y k pre).length ≤ 1000 := by have := hits_len y k pre; rw [List.length_append]; omega
        have hszl : wq.heap.size ≤ W'.heap.size := g7
        clear g1 g2 g3 g4 g5 g6 g7 hbx
        by_cases hxy : (x : Int) = y
        · have hb : ((x : Int) == y) = true := by simp [hxy]
          have HXY := Lib.hid hxy
          have hown0 := HS.out.2.1
          clear hxy
          gi_wp2_with (gi_at_builtin; refine wpListIn_append_own_at _ rfl _ _ 22 rfl ws.heap.size 3 i0 (.int .i64 0) 1 8 Try.underlying22 hi hz0 hz1 hz2 rfl (by decide) _ _ _ rfl (World.ownsRow.alloc hown0 _) ⟨W'.heap.size, 0, none⟩ 1 1 [.int .i64 k] rfl rfl (cell_one_new _ _ _) (by simp [Value.oneCell']) (by unfold maxLen; omega) (by omega) (by simp; omega) ?_; intro v2 w2 hown2 hgrow hat; obtain ⟨ao2, co2, rfl⟩ := own_formC hown2; obtain ⟨h1, h2, h3, h4, h5, h6, h7⟩ := HS.out; obtain ⟨r1, r2, r3⟩ := comes_round h1 h2 h3 h4 h5 h6 h7 (by omega) (by omega) (by omega) HXY.out hown2 hgrow hat; simp only [List.length_append] at r1 r2 r3; have R1 := Lib.hid r1; have R2 := Lib.hid r2; have R3 := Lib.hid r3; have z := (hgrow.block (w.heap.size + 1 + 1) (by simp; omega) (fun e => by have := (h2.lt _ e.symm).1; omega)).trans ((Below.heap_alloc _ _ _ (heap_lt h1)).trans h1); have z0 := cell_blk z 0 rfl; have zf := free_blk z 0; clear h1 h2 h3 h4 h5 h6 h7 r1 r2 r3 hown2 hgrow hat z)
          exact ⟨R1.out, fun j hj => R2.out j hj, R3.out⟩
        · have hb : ((x : Int) == y) = false := by simp [hxy]
          have HXY := Lib.hid hxy
          clear hxy
          gi_wp2
          refine ⟨KeepsFrom.refl _ _, Kept.refl _ _, ?_⟩
          obtain ⟨h1, h2, h3, h4, h5, h6, h7⟩ := HS.out
          exact ⟨_, h1, by rw [hits_snoc_miss HXY.out]; exact h2, h3, h4, h5, h6, h7⟩
      case done =>
        rintro D ys W' hD rfl hs hK
        obtain ⟨v', g1, g2, g3, g4, g5, g6, g7⟩ := hs
        rw [hits_asc y k _ (walk_asc HG.out.D HX.out)] at g2
        have hsel : sel P (k + 1) = sel P k ++ (if ((walk B.D (B.X k)).any fun j => decide ((j : Int) = y)) then [(k : Int)] else []) := by
          have e := HPP.out k
          rw [← e]
          cases hp : P k with
          | true => rw [sel_hit hp, if_pos rfl]
          | false => rw [sel_miss hp, if_neg (by simp)]; simp
        rw [← hsel] at g2
        have HH : Hid (_ ∧ _ ∧ _ ∧ _) := Lib.hid ⟨g1, g2, g4, (⟨by
          refine List.nodup_cons.2 ⟨fun hm => by have := HDQ.out D hm; omega, g5.1⟩, fun E hE => by
          rcases List.mem_cons.1 hE with rfl | hE
          · exact ⟨by omega, hK⟩
          · exact g5.2 E hE⟩ : Marks ws.heap.size W' (D :: Ds))⟩
        clear g1 g2 g3 g4 g5 g6 g7 hK hsel
        gi_wp2
        exact ⟨⟨k + 1, D :: Ds, v', _, _, _, _, _, _, _, _, _, _, _, _, _, _, _, _, _, _, _, _, rfl, by omega, HH.out.1, HH.out.2.1, HH.out.2.2.2, HH.out.2.2.1⟩, by simp [intOf]; omega⟩
      case stop =>
        rintro D c pre W' hD _ h _
        exact h.elim
    · have hkni : ¬ (k : Int) < (B.ns : Int) := by omega
      have hkk : k = B.ns := by omega
      subst hkk
      have c5 := cell_blk HgB.out 0 rfl
      gi_wp2
      refine leaves_marks Ds W HM.out fun w' hw' => ?_
      refine ⟨_, results_tmp rfl _ _ _, vS, rfl, ?_, (HBs.out.trans (HBw.out.mono (by omega))).trans (hw'.1.mono (by omega))⟩
      obtain ⟨b1, b2 | ⟨g, cap, cur, rfl, b3, b4, b5⟩⟩ := HO.out
      · exact ⟨b1, .inl b2⟩
      · exact ⟨b1, .inr ⟨g, cap, cur, rfl, by omega, hw'.2 _ _ b4 rfl, b5⟩⟩

end Go.Proofs.Ytbieglmpkljjjaa
