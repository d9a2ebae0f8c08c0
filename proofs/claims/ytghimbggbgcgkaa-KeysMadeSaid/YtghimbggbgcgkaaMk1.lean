/-
  Mk1: place of the maker.
-/
import Derived.Test.YtghimbggbgcgkaaMk0
namespace Go.Proofs.Ytghimbggbgcgkaa
open Go.RowKit Go.Maps

/-- all stands as it stood, but for a block that is not the maker's -/
theorem StR.kept {B : KB} {bk b pb Mb N base n n' : Nat} {w w' : World} {l : List NR} {rows : List Value} {ss : List Nat} (h : StR B bk b pb Mb N base n w l rows ss) {x : Option Nat} (hg : w.grownBy w' x)
    (h3 : some pb ≠ x) (h6 : ∀ r, r ∈ rows → r.ownBlock = none ∨ r.ownBlock ≠ x) (he : SEnv B bk b N w') (hf : FoundAt B false b n' w') : StR B bk b pb Mb N base n' w' l rows ss where
  env := he
  found := hf
  places := by
    obtain ⟨D, d1, d2, d3⟩ := h.places
    exact ⟨D, d1.kept hg h3, d2, d3⟩
  rlen := h.rlen
  slen := h.slen
  lists := fun i r row hr hrow => (h.lists i r row hr hrow).kept hg (h6 row (List.mem_of_getElem? hrow))
  apart := h.apart
  good := h.good
  ord := h.ord
  le := Nat.le_trans h.le hg.size
theorem SEnv.keep {B : KB} {bk b N : Nat} {w w' : World} (h : SEnv B bk b N w) {x : Option Nat} (k : w.grownBy w' x) (h1 : some bk ≠ x) (h2 : ∀ j, x = some j → N ≤ j) : SEnv B bk b N w' := by
  obtain ⟨⟨a1, z1, a2, z2, a3, z3, h3, h4⟩, h5, h6⟩ := h
  have hbl : Below N w w' := ⟨k.os, k.tape, k.output, k.size, fun i hi => k.block i (Nat.lt_of_lt_of_le hi h4.1) (fun e => by have := h2 i e.symm; omega)⟩
  exact ⟨⟨a1, z1, a2, z2, a3, z3, (k.block bk (heap_lt h3) h1).trans h3, h4.mono hbl (Nat.le_refl _) (Nat.le_trans h4.1 k.size)⟩, h5, h6⟩
theorem none_ne (u : Value) : u.ownBlock = none ∨ u.ownBlock ≠ none := by cases u.ownBlock with | none => exact .inl rfl | some g => exact .inr (by simp)
theorem grown_none {w w' : World} (hb : Below w.heap.size w w') : w.grownBy w' none := ⟨hb.os, hb.tape, hb.output, hb.size, fun k hk _ => hb.block k hk⟩
theorem StR.below {B : KB} {bk b pb Mb N base n : Nat} {w w' : World} {l : List NR} {rows : List Value} {ss : List Nat} (h : StR B bk b pb Mb N base n w l rows ss) (hb : Below w.heap.size w w') : StR B bk b pb Mb N base n w' l rows ss :=
  h.kept (grown_none hb) (by simp) (fun r _ => none_ne r) (h.env.go (grown_of_below hb)) (h.found.kept (grown_none hb) (by simp))
theorem St.below {B : KB} {bk b pb Mb N base n : Nat} {w w' : World} {v : Value} {l : List NR} {rows : List Value} {ss : List Nat} (h : St B bk b pb Mb N base n w v l rows ss) (hb : Below w.heap.size w w') : St B bk b pb Mb N base n w' v l rows ss :=
  ⟨(hb.block Mb (heap_lt h.box)).trans h.box, own_below h.nodes hb, h.rest.below hb⟩

/-- the world but the maker's blocks -/
structure Frm (Mb b pb : Nat) (v : Value) (w w' : World) : Prop where
  os : w'.os = w.os
  tape : w'.tape = w.tape
  output : w'.output = w.output
  size : w.heap.size ≤ w'.heap.size
  block : ∀ k, k < w.heap.size → k ≠ Mb → k ≠ b → k ≠ pb → v.ownBlock ≠ some k → w'.heap[k]? = w.heap[k]?
theorem Frm.refl (Mb b pb : Nat) (v : Value) (w : World) : Frm Mb b pb v w w := ⟨rfl, rfl, rfl, Nat.le_refl _, fun _ _ _ _ _ _ => rfl⟩
/-- the nodes lie where they lay, or in new memory -/
def Newer (w : World) (v v' : Value) : Prop := v'.ownBlock = v.ownBlock ∨ ∀ j, v'.ownBlock = some j → w.heap.size ≤ j
theorem Newer.refl (w : World) (v : Value) : Newer w v v := .inl rfl
theorem Newer.trans {w w' : World} {v v' v'' : Value} (h : Newer w v v') (k : Newer w' v' v'') (hs : w.heap.size ≤ w'.heap.size) : Newer w v v'' := by
  rcases k with k | k
  · rcases h with h | h
    · exact .inl (k.trans h)
    · exact .inr fun j hj => h j (by rw [← k]; exact hj)
  · exact .inr fun j hj => Nat.le_trans hs (k j hj)
theorem Newer.block {w : World} {v v' : Value} (h : Newer w v v') {k : Nat} (hk : k < w.heap.size) (hv : v.ownBlock ≠ some k) : v'.ownBlock ≠ some k := by
  rcases h with h | h
  · rw [h]; exact hv
  · intro e; have := h k e; omega
theorem Frm.trans {Mb b pb : Nat} {v v' : Value} {w w' w'' : World} (h : Frm Mb b pb v w w') (k : Frm Mb b pb v' w' w'') (hn : Newer w v v') : Frm Mb b pb v w w'' :=
  ⟨k.os.trans h.os, k.tape.trans h.tape, k.output.trans h.output, Nat.le_trans h.size k.size, fun i h1 h2 h3 h4 h5 => (k.block i (Nat.lt_of_lt_of_le h1 h.size) h2 h3 h4 (hn.block h1 h5)).trans (h.block i h1 h2 h3 h4 h5)⟩
theorem Frm.of_below {Mb b pb : Nat} {v : Value} {w w' : World} (h : Below w.heap.size w w') : Frm Mb b pb v w w' := ⟨h.os, h.tape, h.output, h.size, fun k hk _ _ _ _ => h.block k hk⟩
theorem Frm.of_grown {Mb b pb : Nat} {v : Value} {w w' : World} {x : Option Nat} (h : w.grownBy w' x) (hx : ∀ k, x = some k → k = Mb ∨ k = b ∨ k = pb ∨ v.ownBlock = some k ∨ w.heap.size ≤ k) : Frm Mb b pb v w w' :=
  ⟨h.os, h.tape, h.output, h.size, fun k hk h1 h2 h3 h4 => h.block k hk (fun e => by
    rcases hx k e.symm with h | h | h | h | h
    · exact h1 h
    · exact h2 h
    · exact h3 h
    · exact h4 h
    · omega)⟩

def K9 : Nat := 4294967296
/-- what stands behind place -/
structure Aft (B : KB) (bk b pb Mb N base s n : Nat) (w w' : World) (v : Value) (l : List NR) (rows : List Value) (ss : List Nat) (i n' : Nat) (v' : Value) (l' : List NR) (rows' : List Value) (ss' : List Nat) : Prop where
  st : St B bk b pb Mb N base n' w' v' (l ++ l') (rows ++ rows') (ss ++ ss')
  cnt : n' ≤ n + l'.length * K9
  newer : Newer w v v'
  here : (ss ++ ss')[i]? = some s
  few : l'.length ≤ cB (mems s).length
  fresh : ∀ r g, r ∈ rows' → r.ownBlock = some g → w.heap.size ≤ g
  frame : Frm Mb b pb v w w'
  top : ss = [] → i + 1 = l'.length

def SaysP (B : KB) (bk b pb Mb N base f : Nat) : Prop := ∀ (s n : Nat) (w : World) (v : Value) (l : List NR) (rows : List Value) (ss : List Nat), SetOk B s → (mems s).length ≤ f → St B bk b pb Mb N base n w v l rows ss →
    l.length + cB (mems s).length ≤ 40 → n + cB (mems s).length * K9 ≤ 1000000000000 →
    Calls Try.prog 125 #[.pointer (some ⟨Mb, 0, none⟩), .int .u64 s] w fun e w' => ∃ (i n' : Nat) (v' : Value) (l' : List NR) (rows' : List Value) (ss' : List Nat), e = .returned (.int .i64 i) ∧ Aft B bk b pb Mb N base s n w w' v l rows ss i n' v' l' rows' ss'

/-- what stands behind node: the nodes that it asks for, and the node itself, which is not among them yet -/
structure AftN (B : KB) (bk b pb Mb N base s n : Nat) (w w' : World) (v : Value) (l : List NR) (rows : List Value) (ss : List Nat) (r : NR) (row : Value) (n' : Nat) (v' : Value) (l' : List NR) (rows' : List Value) (ss' : List Nat) : Prop where
  st : St B bk b pb Mb N base n' w' v' (l ++ l') (rows ++ rows') (ss ++ ss')
  cnt : n' ≤ n + (l'.length + 1) * K9
  newer : Newer w v v'
  few : l'.length + 1 ≤ cB (mems s).length
  fresh : ∀ r g, r ∈ rows' → r.ownBlock = some g → w.heap.size ≤ g
  frame : Frm Mb b pb v w w'
  own : OwnI w.heap.size w' row (ints r.nx)
  alone : ∀ u g, u ∈ rows' → u.ownBlock = some g → row.ownBlock ≠ some g
  ok : NodeOk B (ss ++ ss') (l ++ l').length s r

def SaysN (B : KB) (bk b pb Mb N base f : Nat) : Prop := ∀ (s n : Nat) (w : World) (v : Value) (l : List NR) (rows : List Value) (ss : List Nat), SetOk B s → (mems s).length ≤ f → St B bk b pb Mb N base n w v l rows ss →
    l.length + cB (mems s).length ≤ 40 → n + cB (mems s).length * K9 ≤ 1000000000000 →
    Calls Try.prog 145 #[.pointer (some ⟨Mb, 0, none⟩), .int .u64 s] w fun e w' => ∃ (r : NR) (row : Value) (n' : Nat) (v' : Value) (l' : List NR) (rows' : List Value) (ss' : List Nat), e = .returned (.agg #[.int .i64 r.ma, .int .i64 r.so, row]) ∧ AftN B bk b pb Mb N base s n w w' v l rows ss r row n' v' l' rows' ss'

set_option maxRecDepth 100000 in
set_option maxHeartbeats 3200000 in
theorem place_hit (B : KB) (bk b pb Mb N base s n : Nat) (w : World) (v : Value) (l : List NR) (rows : List Value) (ss : List Nat) (hs : SetOk B s) (h : St B bk b pb Mb N base n w v l rows ss)
    (D : DataW Unit) (d1 : w.ownsMap Try.prog 104 (plainElem Try.prog 3) pb l.length D) (i : Nat) (hh : has D (setKey s) = true) (hi : ss[i]? = some s) (hat : D.atKey (setKey s) (.lit (.int .i64 0)) = .lit (.int .i64 i)) :
    Calls Try.prog 125 #[.pointer (some ⟨Mb, 0, none⟩), .int .u64 s] w fun e w' => e = .returned (.int .i64 i) ∧ w' = w := by
  have hkey := setKey_of hs.lt
  have m6 : w.cell? ⟨Mb, 6, none⟩ = some (.map (some pb)) := cell_blk h.box 6 rfl
  go_enter Try.func125, Try.ntmps125
  go_wp2_with (at_lookup; refine wpList_lookup_own_ok_int _ rfl _ _ 99 rfl 104 3 .i64 lawSet Try.underlying99 Try.underlying3 (zeroInt _) pb l.length D rfl d1 _ _ rfl hkey ?_; intro x hx hwx; rw [hh])
  go_ret
  refine ⟨?_, rfl⟩
  have h9 := hat.symm.trans hx
  injection h9 with h9
  injection h9 with _ h9
  rw [h9]; rfl

theorem box_put {W : World} {g : Nat} {nv bk b pb : Nat} {v u : Value} {T : TypeId} (h : W.heap[g]? = some (Obj.cells (makA nv bk b pb v) T (0, 0))) : (W.setCell ⟨g, 5, none⟩ u).heap[g]? = some (Obj.cells (makA nv bk b pb u) T (0, 0)) := by
  simp [World.setCell, Array.getElem?_modify, h, makA]

theorem rows_ne {B : KB} {bk b pb Mb N base n : Nat} {w : World} {v : Value} {l : List NR} {rows : List Value} {ss : List Nat} (h : St B bk b pb Mb N base n w v l rows ss) {r : Value} (hr : r ∈ rows) : r.ownBlock = none ∨ r.ownBlock ≠ v.ownBlock := by
  obtain ⟨i, hi, e⟩ := List.getElem_of_mem hr
  have hl : i < l.length := by rw [← h.rest.rlen]; exact hi
  have ho := h.rest.lists i l[i] r (List.getElem?_eq_getElem hl) (by rw [List.getElem?_eq_getElem hi, e])
  obtain ⟨_, ⟨e1, _⟩ | ⟨g, cap, cur, e1, _, h4, _⟩⟩ := ho
  · left; rw [e1]; rfl
  · right
    intro e2
    obtain ⟨_, ⟨e3, _⟩ | ⟨g', cap', cur', e3, _, h4', _⟩⟩ := h.nodes
    · rw [e1, e3] at e2; cases e2
    · rw [e1, e3] at e2
      have : g = g' := by simpa [Value.ownBlock] using e2
      rw [this, h4'] at h4
      injection h4 with h4
      injection h4 with _ h5
      cases h5
theorem wp_append_at {o : Oper} {a : Act} {K : Act → World → Prop} {Q : Exit → Act → World → Prop} {P : Program} (w : World) (s x : Operand) (t : TypeId)
    (ho : o.op = .call { callee := .builtin .append, args := #[s, x], argTypes := #[t, t] })
    (base : Nat) (e : TypeId) (i : TypeInfo) (z : Value) (size bytes : Nat) (ht : P.underlying t = some (.slice e)) (hi : P.info? e = some i) (hz : i.zero = some z)
    (hsize : i.size = size) (hby : i.bytes = bytes) (hzs : z.cells.size = size) (hsz : 0 < size)
    (v : Value) (n : Nat) (xs : List Value) (hs : a.eval s = v) (hown : w.ownsRow base e size v n xs)
    (ad : Addr) (m c : Nat) (news : List Value) (hx : a.eval x = .slice (some ad) m c) (hl : news.length = m * size) (hnews : ∀ j u, news[j]? = some u → w.cell? (ad.add j) = some u) (h1 : ∀ u ∈ news, u.oneCell' = true)
    (h63 : n + m ≤ maxLen) (hbytes : (n + m) * bytes ≤ 140737488355328) (hbase : base ≤ w.heap.size)
    (h : ∀ v' w', w'.ownsRow base e size v' (n + m) (xs ++ news) → w.grownBy w' v.ownBlock → (v'.ownBlock = v.ownBlock ∨ v'.ownBlock = some w.heap.size) → K (a.put o.dst v') w') : o.wp P a w K Q := by
  obtain ⟨v', w', hr, h2, h3, _, h5⟩ := run_append_own_at (P := P) w base t o.type e i z size bytes ht hi hz hsize hby hzs hsz v n xs hown ad m c news hl hnews h1 h63 hbytes hbase
  unfold Oper.wp execOp
  simp only [ho, resolve, invoke, builtin, Sem.run_bind, Sem.run_pure, Result.andThen_ok, List.map_toArray, List.map_cons, List.map_nil, hs, hx, hr]
  exact h v' w' h2 h3 h5

theorem FoundAt.keep {B : KB} {b n : Nat} {w w' : World} (h : FoundAt B false b n w) {x : Option Nat} (hg : w.grownBy w' x) (hne : some b ≠ x) : FoundAt B false b n w' := h.kept hg hne
theorem getElem_last {α : Type} {a c : List α} {x : α} {L : Nat} (h : (a ++ c).length = L) : (a ++ (c ++ [x]))[L]? = some x := by
  rw [← List.append_assoc, List.getElem?_append_right (by omega), h]; simp
theorem getElem_more {α : Type} {a c : List α} {x y : α} {i : Nat} (h : (a ++ (c ++ [x]))[i]? = some y) : (i < (a ++ c).length ∧ (a ++ c)[i]? = some y) ∨ (i = (a ++ c).length ∧ y = x) := by
  rw [← List.append_assoc] at h
  by_cases hi : i < (a ++ c).length
  · rw [List.getElem?_append_left hi] at h; exact .inl ⟨hi, h⟩
  · rw [List.getElem?_append_right (by omega)] at h
    have h1 := (List.getElem?_eq_some_iff.1 h).1
    simp only [List.length_singleton] at h1
    have e : i = (a ++ c).length := by omega
    subst e
    rw [Nat.sub_self] at h
    exact .inr ⟨rfl, by simpa using h.symm⟩
theorem getElem_keep {α : Type} {a c : List α} {x y : α} {i : Nat} (h : (a ++ c)[i]? = some y) : (a ++ (c ++ [x]))[i]? = some y := by
  rw [← List.append_assoc, List.getElem?_append_left (List.getElem?_eq_some_iff.1 h).1]; exact h

theorem place_end {B : KB} {bk b pb Mb N base s n : Nat} {w w1 w3 w4 w6 : World} {v v1 v4 : Value} {l l1 : List NR} {rows rows1 : List Value} {ss ss1 : List Nat} {r : NR} {row : Value} {n1 L1 : Nat} {D1 : DataW Unit}
    (HA : AftN B bk b pb Mb N base s n w w1 v l rows ss r row n1 v1 l1 rows1 ss1) (hw : base ≤ w.heap.size) (hsl : ss.length = l.length) (hrw : ∀ u, u ∈ rows → ∀ g, u.ownBlock = some g → g < w.heap.size) (hL : (l ++ l1).length = L1) (hs : SetOk B s) (hB : Below w1.heap.size w1 w3)
    (ho4 : w4.ownsRow base 41 3 v4 (L1 + 1) (flatN (l ++ l1) (rows ++ rows1) ++ nodeCells r row)) (hg4 : w3.grownBy w4 v1.ownBlock) (hb4 : v4.ownBlock = v1.ownBlock ∨ v4.ownBlock = some w3.heap.size)
    (hd2 : ∀ t, t < 256 → has D1 (setKey t) = true → ∃ i : Nat, (ss ++ ss1)[i]? = some t ∧ D1.atKey (setKey t) (.lit (.int .i64 0)) = .lit (.int .i64 i)) (hd3 : ∀ (i t : Nat), (ss ++ ss1)[i]? = some t → has D1 (setKey t) = true) (hdm : IsMap D1)
    (ho6 : w6.ownsMap Try.prog 104 (plainElem Try.prog 3) pb (L1 + 1) (D1.put (setKey s) (.lit (.int .i64 L1)))) (hg6 : (w4.setCell ⟨Mb, 5, none⟩ v4).grownBy w6 (some pb)) :
    Aft B bk b pb Mb N base s n w w6 v l rows ss L1 n1 v4 (l1 ++ [r]) (rows1 ++ [row]) (ss1 ++ [s]) := by
  have hst := HA.st
  obtain ⟨o1, o2, o3, o4, o5, o6, o7, o8, o9, o10, o11⟩ := hst.rest.ord
  have hnb := hst.nodes.lt
  have hg13 := grown_none hB
  have hg45 : w4.grownBy (w4.setCell ⟨Mb, 5, none⟩ v4) (some Mb) := grown_setCell _ _ _ _
  have hMb1 := heap_lt hst.box
  have hMbv : some Mb ≠ v1.ownBlock := fun e => by have := (hnb Mb e.symm).1; omega
  have hbv : some b ≠ v1.ownBlock := fun e => by have := (hnb b e.symm).1; omega
  have hbkv : some bk ≠ v1.ownBlock := fun e => by have := (hnb bk e.symm).1; omega
  have hbox4 : w4.heap[Mb]? = some (.cells (makA B.nv bk b pb v1) 144 (0, 0)) := (hg4.block Mb (Nat.lt_of_lt_of_le hMb1 hB.size) hMbv).trans ((hB.block Mb hMb1).trans hst.box)
  have hbox5 := box_put (u := v4) hbox4
  have hbox6 := (hg6.block Mb (heap_lt hbox5) (by intro e; injection e with e; omega)).trans hbox5
  have hs13 : w1.heap.size ≤ w3.heap.size := hB.size
  have hs34 : w3.heap.size ≤ w4.heap.size := hg4.size
  have hs45 := hg45.size
  have hs56 := hg6.size
  -- lists that lie in memory of the call's own
  have keepI : ∀ (u : Value) (L : List Int), OwnI base w1 u L → (u.ownBlock = none ∨ u.ownBlock ≠ v1.ownBlock) → OwnI base w6 u L := fun u L hu hne => by
    have k1 : OwnI base w3 u L := own_below hu hB
    have k2 : OwnI base w4 u L := World.ownsRow.kept k1 hg4 hne
    have hlt := hu.lt
    have k3 : OwnI base (w4.setCell ⟨Mb, 5, none⟩ v4) u L := World.ownsRow.kept k2 hg45 (by
      cases e : u.ownBlock with
      | none => exact .inl rfl
      | some g => right; intro e2; injection e2 with e2; have := (hlt g e).1; omega)
    exact World.ownsRow.kept k3 hg6 (by
      cases e : u.ownBlock with
      | none => exact .inl rfl
      | some g => right; intro e2; injection e2 with e2; have := (hlt g e).1; omega)
  have hrow0 : row.ownBlock = none ∨ row.ownBlock ≠ v1.ownBlock := by
    obtain ⟨_, ⟨e1, _⟩ | ⟨g, cap, cur, e1, _, h4, _⟩⟩ := HA.own
    · left; rw [e1]; rfl
    · right
      intro e2
      obtain ⟨_, ⟨e3, _⟩ | ⟨g', cap', cur', e3, _, h4', _⟩⟩ := hst.nodes
      · rw [e1, e3] at e2; cases e2
      · rw [e1, e3] at e2
        have : g = g' := by simpa [Value.ownBlock] using e2
        rw [this, h4'] at h4
        injection h4 with h4
        injection h4 with _ h5
        cases h5
  have hrl := hst.rest.rlen
  have hsl1 := hst.rest.slen
  refine ⟨⟨hbox6, ?_, ?_⟩, ?_, ?_, ?_, ?_, ?_, ?_, ?_⟩
  · -- nodes
    have e1 : flatN (l ++ (l1 ++ [r])) (rows ++ (rows1 ++ [row])) = flatN (l ++ l1) (rows ++ rows1) ++ nodeCells r row := by
      rw [← List.append_assoc, ← List.append_assoc, flatN_append _ _ _ _ hrl.symm]; simp [flatN]
    have e2 : (l ++ (l1 ++ [r])).length = L1 + 1 := by rw [← List.append_assoc, List.length_append, hL]; rfl
    rw [e1, e2]
    have h5 : (w4.setCell ⟨Mb, 5, none⟩ v4).ownsRow base 41 3 v4 (L1 + 1) (flatN (l ++ l1) (rows ++ rows1) ++ nodeCells r row) := own_setM ho4 o2 v4
    exact h5.kept hg6 (by
      cases e : v4.ownBlock with
      | none => exact .inl rfl
      | some g => right; intro e2; injection e2 with e2; have := (ho4.lt g e).1; omega)
  · -- the rest
    refine ⟨?_, ?_, ⟨D1.put (setKey s) (.lit (.int .i64 L1)), ?_, ?_, ?_⟩, ?_, ?_, ?_, ?_, ?_, hst.rest.ord, by have := hst.rest.le; omega⟩
    · exact (((hst.rest.env.keep hg13 (by simp) (by simp)).keep hg4 hbkv (fun j e => by have := (hnb j e).1; omega)).keep hg45 (by intro e; injection e with e; omega) (fun j e => by injection e with e; omega)).keep hg6 (by intro e; injection e with e; omega) (fun j e => by injection e with e; omega)
    · exact (((hst.rest.found.keep hg13 (by simp)).keep hg4 hbv).keep hg45 (by intro e; injection e with e; omega)).keep hg6 (by intro e; injection e with e; omega)
    · have e2 : (l ++ (l1 ++ [r])).length = L1 + 1 := by rw [← List.append_assoc, List.length_append, hL]; rfl
      rw [e2]; exact ho6
    · intro t ht hh
      by_cases e : t = s
      · subst e
        exact ⟨L1, getElem_last (by rw [hsl1]; exact hL), atKey_put_same hdm (by simp [setKey, WideAt.IsKeyLit]) _ _⟩
      · have hne : setKey t ≠ setKey s := by intro h9; injection h9 with _ h9; exact e (by omega)
        rw [has_put_other hne] at hh
        obtain ⟨i, h1, h2⟩ := hd2 t ht hh
        exact ⟨i, getElem_keep h1, by rw [atKey_put_other hne]; exact h2⟩
    · intro i t h
      rcases getElem_more h with ⟨_, h1⟩ | ⟨_, rfl⟩
      · by_cases e : t = s
        · subst e; exact has_put_same hdm (by simp [setKey, WideAt.IsKeyLit]) _
        · have hne : setKey t ≠ setKey s := by intro h9; injection h9 with _ h9; exact e (by omega)
          rw [has_put_other hne]; exact hd3 i t h1
      · exact has_put_same hdm (by simp [setKey, WideAt.IsKeyLit]) _
    · simp only [List.length_append, List.length_singleton] at hrl ⊢; omega
    · simp only [List.length_append, List.length_singleton] at hsl1 ⊢; omega
    · intro i q u hq hu
      rcases getElem_more hq with ⟨hi, hq⟩ | ⟨hi, rfl⟩
      · rcases getElem_more hu with ⟨_, hu⟩ | ⟨h9, _⟩
        · exact keepI u _ (hst.rest.lists i q u hq hu) (rows_ne hst (List.mem_of_getElem? hu))
        · omega
      · rcases getElem_more hu with ⟨h9, _⟩ | ⟨_, e9⟩
        · omega
        · rw [e9]; exact keepI row _ (own_mono HA.own hw) hrow0
    · intro i j a c g hij ha hc hg
      rcases getElem_more hc with ⟨hj, hc⟩ | ⟨hj, rfl⟩
      · rcases getElem_more ha with ⟨_, ha⟩ | ⟨h9, _⟩
        · exact hst.rest.apart i j a c g hij ha hc hg
        · omega
      · rcases getElem_more ha with ⟨_, ha⟩ | ⟨h9, _⟩
        · rcases List.mem_append.1 (List.mem_of_getElem? ha) with hm | hm
          · intro e
            have h1 := hrw a hm g hg
            have h2 := (HA.own.lt g e).1
            omega
          · exact HA.alone a g hm hg
        · omega
    · intro i t q ht hq
      rcases getElem_more hq with ⟨hi, hq⟩ | ⟨hi, rfl⟩
      · rcases getElem_more ht with ⟨_, ht⟩ | ⟨h9, _⟩
        · obtain ⟨g1, g2⟩ := hst.rest.good i t q ht hq
          have := g2.more [s] (by omega)
          rw [List.append_assoc] at this
          exact ⟨g1, this⟩
        · omega
      · rcases getElem_more ht with ⟨h9, _⟩ | ⟨_, rfl⟩
        · omega
        · have := HA.ok.more [t] (by omega)
          rw [List.append_assoc] at this
          rw [hi]
          exact ⟨hs, this⟩
  · have := HA.cnt; simp only [List.length_append, List.length_singleton]; exact this
  · -- newer
    rcases hb4 with e | e
    · rcases HA.newer with h | h
      · exact .inl (e.trans h)
      · exact .inr fun j hj => h j (by rw [← e]; exact hj)
    · exact .inr fun j hj => by
        rw [e] at hj; injection hj with hj
        have := HA.frame.size; omega
  · exact getElem_last (by rw [hsl1]; exact hL)
  · have := HA.few; simp only [List.length_append, List.length_singleton]; exact this
  · intro u g hu hg
    rcases List.mem_append.1 hu with h | h
    · exact HA.fresh u g h hg
    · rw [List.mem_singleton.1 h] at hg; exact (HA.own.lt g hg).1
  · -- frame
    have f1 : Frm Mb b pb v1 w1 w6 := by
      have a1 : Frm Mb b pb v1 w1 w3 := Frm.of_below hB
      have a2 : Frm Mb b pb v1 w3 w4 := Frm.of_grown hg4 (fun k e => .inr (.inr (.inr (.inl e))))
      have n34 : Newer w3 v1 v4 := by rcases hb4 with e | e; exact .inl e; exact .inr fun j hj => by rw [e] at hj; injection hj with hj; omega
      have a3 : Frm Mb b pb v4 w4 (w4.setCell ⟨Mb, 5, none⟩ v4) := Frm.of_grown hg45 (fun k e => by injection e with e; exact .inl e.symm)
      have a4 : Frm Mb b pb v4 (w4.setCell ⟨Mb, 5, none⟩ v4) w6 := Frm.of_grown hg6 (fun k e => by injection e with e; exact .inr (.inr (.inl e.symm)))
      exact (a1.trans a2 (Newer.refl _ _)).trans (a3.trans a4 (Newer.refl _ _)) ((Newer.refl w1 v1).trans n34 hs13)
    exact HA.frame.trans f1 HA.newer
  · intro e
    have : l = [] := by rw [e] at hsl; exact List.length_eq_zero_iff.1 hsl.symm
    rw [this] at hL
    simp only [List.nil_append] at hL
    simp only [List.length_append, List.length_singleton]
    omega

set_option maxRecDepth 100000 in
set_option maxHeartbeats 6400000 in
theorem place_miss (B : KB) (bk b pb Mb N base f : Nat) (hN : SaysN B bk b pb Mb N base f) (s n : Nat) (w : World) (v : Value) (l : List NR) (rows : List Value) (ss : List Nat) (hs : SetOk B s) (hsf : (mems s).length ≤ f) (h : St B bk b pb Mb N base n w v l rows ss)
    (h40 : l.length + cB (mems s).length ≤ 40) (hn : n + cB (mems s).length * K9 ≤ 1000000000000)
    (D : DataW Unit) (d1 : w.ownsMap Try.prog 104 (plainElem Try.prog 3) pb l.length D) (hh : has D (setKey s) = false) :
    Calls Try.prog 125 #[.pointer (some ⟨Mb, 0, none⟩), .int .u64 s] w fun e w' => ∃ (i n' : Nat) (v' : Value) (l' : List NR) (rows' : List Value) (ss' : List Nat), e = .returned (.int .i64 i) ∧ Aft B bk b pb Mb N base s n w w' v l rows ss i n' v' l' rows' ss' := by
  have hkey := setKey_of hs.lt
  obtain ⟨i1, hi1, hz1, hz2, hz3⟩ := info_parts Try.infoNode
  have m6 : w.cell? ⟨Mb, 6, none⟩ = some (.map (some pb)) := cell_blk h.box 6 rfl
  have HN := Lib.hid (hN s n w v l rows ss hs hsf h h40 hn)
  have HS := Lib.hid hs
  have H40 := Lib.hid h40
  have HORD := Lib.hid h.rest.ord
  have HBW := Lib.hid h.rest.le
  have HSLN := Lib.hid h.rest.slen
  have HRW : Hid (∀ u, u ∈ rows → ∀ g, u.ownBlock = some g → g < w.heap.size) := fun u hu g hg => by
    obtain ⟨i, hi, e⟩ := List.getElem_of_mem hu
    have hl : i < l.length := by rw [← h.rest.rlen]; exact hi
    exact ((h.rest.lists i l[i] u (List.getElem?_eq_getElem hl) (by rw [List.getElem?_eq_getElem hi, e])).lt g hg).2
  clear hN h
  go_enter Try.func125, Try.ntmps125
  go_upto_region 5 with (first
    | (at_lookup; refine wpList_lookup_own_ok_int _ rfl _ _ 99 rfl 104 3 .i64 lawSet Try.underlying99 Try.underlying3 (zeroInt _) pb l.length D rfl d1 _ _ rfl hkey ?_; intro x hx hwx; rw [hh])
    | (go_at_call 145; refine HN.out.mono ?_; rintro e w1 ⟨r, row, n1, v1, l1, rows1, ss1, rfl, ha⟩; have HA := Lib.hid ha; obtain ⟨av1, cv1, hv1⟩ := own_formG ha.st.nodes; obtain ⟨L1, hL1⟩ : ∃ L, (l ++ l1).length = L := ⟨_, rfl⟩; rw [hL1] at hv1; subst hv1; have HL1 := Lib.hid hL1; have HLE : Hid (L1 + 1 ≤ 40) := (by have := ha.few; have := H40.out; rw [List.length_append] at hL1; unfold Hid; omega); have HWL : Hid ((Lit.int .i64 (L1 : Int)).wf = true) := wf_small (by omega) (by have := HLE.out; omega); clear hL1; have m5 : w1.cell? ⟨Mb, 5, none⟩ = some (.slice av1 L1 cv1) := cell_blk ha.st.box 5 rfl; obtain ⟨ar1, cr1, hr1⟩ := own_form ha.own; subst hr1; have hMb1 : Mb < w1.heap.size := heap_lt ha.st.box; clear ha m6))
  obtain ⟨w2, hw2, HB12, hsz2, hblk2⟩ := box1 w1 (.cells #[.int .i64 r.ma, .int .i64 r.so, .slice ar1 (ints r.nx).length cr1] 41)
  rw [hw2]
  clear hw2
  have n0 := cell_blk hblk2 0 rfl
  have n1' := cell_blk hblk2 1 rfl
  have n2 := cell_blk hblk2 2 rfl
  have HB12d : Hid (Below w1.heap.size w1 w2.drew) := Lib.hid HB12.out.drew
  have hSd : ∀ o, w2.drew.cell? ⟨w1.heap.size, o, none⟩ = w2.cell? ⟨w1.heap.size, o, none⟩ := fun _ => rfl
  have hsd : w1.heap.size < w2.drew.heap.size := hsz2
  obtain ⟨wd, hwd⟩ : ∃ wd, w2.drew = wd := ⟨_, rfl⟩
  refine wp_region_held_drew (S := fun w' => ∀ o, w'.cell? ⟨w1.heap.size, o, none⟩ = w2.cell? ⟨w1.heap.size, o, none⟩) (by kernel_rfl) hSd (fun hHeld => ?_)
  rw [hwd] at hSd hsd HB12d hHeld ⊢
  clear hwd
  (refine wpAnyH_take (i := 0) (v := ?_) rfl (by kernel_rfl) (by kernel_rfl) (by kernel_rfl) (fun _ _ _ h => h) (Or.inl ⟨by rfl, ?_⟩) (by assumption) ?_; rotate_left; (focus (intro w hSw; (try dsimp only at hSw); go_simp; (try with_reducible rfl))); (try simp only [List.getElem_toArray, List.getElem_cons_zero, List.getElem_cons_succ, Act.put, List.setIfInBounds_toArray, List.set_cons_zero, List.set_cons_succ])); (refine wpAnyH_take (i := 1) (v := ?_) rfl (by kernel_rfl) (by kernel_rfl) (by kernel_rfl) (fun _ _ _ h => h) (Or.inl ⟨by rfl, ?_⟩) (by assumption) ?_; rotate_left; (focus (intro w hSw; (try dsimp only at hSw); go_simp; (try with_reducible rfl))); (try simp only [List.getElem_toArray, List.getElem_cons_zero, List.getElem_cons_succ, Act.put, List.setIfInBounds_toArray, List.set_cons_zero, List.set_cons_succ])); (refine wpAnyH_take (i := 2) (v := ?_) rfl (by kernel_rfl) (by kernel_rfl) (by kernel_rfl) (fun _ _ _ h => h) (Or.inl ⟨by rfl, ?_⟩) (by assumption) ?_; rotate_left; (focus (intro w hSw; (try dsimp only at hSw); go_simp; (try with_reducible rfl))); (try simp only [List.getElem_toArray, List.getElem_cons_zero, List.getElem_cons_succ, Act.put, List.setIfInBounds_toArray, List.set_cons_zero, List.set_cons_succ])); (refine wpAnyH_take (i := 3) (v := ?_) rfl (by kernel_rfl) (by kernel_rfl) (by kernel_rfl) (fun _ _ _ h => h) (Or.inl ⟨by rfl, ?_⟩) (by assumption) ?_; rotate_left; (focus (intro w hSw; (try dsimp only at hSw); go_simp; (try with_reducible rfl))); (try simp only [List.getElem_toArray, List.getElem_cons_zero, List.getElem_cons_succ, Act.put, List.setIfInBounds_toArray, List.set_cons_zero, List.set_cons_succ]))
  (refine wpAnyH_take (i := 5) (v := ?_) rfl (by kernel_rfl) (by kernel_rfl) (by kernel_rfl) (fun _ _ _ h => h) (Or.inl ⟨by rfl, ?_⟩) (by assumption) ?_; rotate_left; (focus (intro w hSw; (try dsimp only at hSw); go_simp; (try with_reducible rfl))); (try simp only [List.getElem_toArray, List.getElem_cons_zero, List.getElem_cons_succ, Act.put, List.setIfInBounds_toArray, List.set_cons_zero, List.set_cons_succ]))
  refine wpAnyH_ready (rs := [4, 6]) (by kernel_rfl) (by simp) ?_; refine AllReadyH.cons rfl (fun K hK => ?_) (AllReadyH.cons rfl (fun K hK => ?_) AllReadyH.nil)
  · have m5d := (HB12d.out.cell (p := ⟨Mb, 5, none⟩) hMb1).trans m5
    go_simp
    refine hK.out _ _ (hSd) (fun hHeld => ?_); clear hK K; (try simp only [List.getElem_toArray, List.getElem_cons_zero, List.getElem_cons_succ, Act.put, List.setIfInBounds_toArray, List.set_cons_zero, List.set_cons_succ])
    clear m5d
    refine wpAnyH_ready (rs := [6]) (by kernel_rfl) (by simp) ?_; refine AllReadyH.cons rfl (fun K hK => ?_) AllReadyH.nil; go_simp
    obtain ⟨w3, hw3, HB3, hsz3, hblk3⟩ := box1 wd (.cells #[.int .i64 r.ma, .int .i64 r.so, .slice ar1 (ints r.nx).length cr1] 41)
    rw [hw3]
    clear hw3
    have HB13 : Hid (Below w1.heap.size w1 w3) := Lib.hid (bel HB12d.out HB3.out)
    have hS3 : ∀ o, w3.cell? ⟨w1.heap.size, o, none⟩ = w2.cell? ⟨w1.heap.size, o, none⟩ := fun o => (HB3.out.cell (p := ⟨w1.heap.size, o, none⟩) hsd).trans (hSd o)
    refine hK.out _ _ (hS3) (fun hHeld => ?_); clear hK K; (try simp only [List.getElem_toArray, List.getElem_cons_zero, List.getElem_cons_succ, Act.put, List.setIfInBounds_toArray, List.set_cons_zero, List.set_cons_succ])
    refine wpAnyH_ready (rs := [7]) (by kernel_rfl) (by simp) ?_
    refine (AllReadyH.cons rfl (fun K hK => ?_) AllReadyH.nil)
    rw [if_pos (by rfl)]
    have hown3 := own_below HA.out.st.nodes HB13.out
    rw [HL1.out] at hown3
    have hbase3 : base ≤ w3.heap.size := by have := HA.out.st.rest.le; have := HB13.out.size; omega
    refine wp_append_at _ (.tmp 31) (.tmp 33) 24 rfl base 41 i1 (.agg #[.int .i64 0, .int .i64 0, .slice none 0 0]) 3 40 Try.underlying24 hi1 hz1 hz2 hz3 rfl (by decide) _ _ _ rfl hown3 ⟨wd.heap.size, 0, none⟩ 1 1 (nodeCells r (.slice ar1 (ints r.nx).length cr1)) rfl rfl (fun j u h => by rw [addrAdd, Nat.zero_add]; exact cell_blk hblk3 j (by simpa [nodeCells] using h)) (by simp [nodeCells, Value.oneCell']) (by unfold maxLen; have := HLE.out; omega) (by have := HLE.out; omega) hbase3 ?_
    intro v4 w4 ho4 hg4 hb4
    obtain ⟨av4, cv4, rfl⟩ := own_formG ho4
    have HO4 := Lib.hid ho4
    have HG4 := Lib.hid hg4
    have HB4 := Lib.hid hb4
    have hnv1 : ∀ j, (Value.slice av1 L1 cv1).ownBlock = some j → base ≤ j ∧ j < w1.heap.size := HA.out.st.nodes.lt
    have hS4 : ∀ o, w4.cell? ⟨w1.heap.size, o, none⟩ = w2.cell? ⟨w1.heap.size, o, none⟩ := fun o => (World.cell?_of_block (a := ⟨w1.heap.size, o, none⟩) (hg4.block _ (Nat.lt_of_lt_of_le hsd HB3.out.size) (fun e => absurd (hnv1 _ e.symm).2 (Nat.lt_irrefl _)))).trans (hS3 o)
    have hbx4 : w4.heap[Mb]? = some (.cells (makA B.nv bk b pb (.slice av1 L1 cv1)) 144 (0, 0)) := (hg4.block Mb (Nat.lt_of_lt_of_le hMb1 HB13.out.size) (fun e => by have := (hnv1 _ e.symm).1; have := HORD.out.2.1; omega)).trans ((HB13.out.block Mb hMb1).trans HA.out.st.box)
    clear ho4 hg4 hb4 hnv1
    refine hK.out _ _ (hS4) (fun hHeld => ?_); clear hK K; (try simp only [List.getElem_toArray, List.getElem_cons_zero, List.getElem_cons_succ, Act.put, List.setIfInBounds_toArray, List.set_cons_zero, List.set_cons_succ])
    (refine wpAnyH_take (i := 8) (v := ?_) rfl (by kernel_rfl) (by kernel_rfl) (by kernel_rfl) (fun _ _ _ h => h) (Or.inl ⟨by rfl, ?_⟩) (by assumption) ?_; rotate_left; (focus (intro w hSw; (try dsimp only at hSw); go_simp; (try with_reducible rfl))); (try simp only [List.getElem_toArray, List.getElem_cons_zero, List.getElem_cons_succ, Act.put, List.setIfInBounds_toArray, List.set_cons_zero, List.set_cons_succ])); (refine wpAnyH_take (i := 9) (v := ?_) rfl (by kernel_rfl) (by kernel_rfl) (by kernel_rfl) (fun _ _ _ h => h) (Or.inl ⟨by rfl, ?_⟩) (by assumption) ?_; rotate_left; (focus (intro w hSw; (try dsimp only at hSw); go_simp; (try with_reducible rfl))); (try simp only [List.getElem_toArray, List.getElem_cons_zero, List.getElem_cons_succ, Act.put, List.setIfInBounds_toArray, List.set_cons_zero, List.set_cons_succ]))
    refine wpAnyH_ready (rs := [10]) (by kernel_rfl) (by simp) ?_
    refine (AllReadyH.cons rfl (fun K hK => ?_) AllReadyH.nil)
    have zc5 : w4.cell? ⟨Mb, 5, none⟩ = some (.slice av1 L1 cv1) := cell_blk hbx4 5 rfl
    have yf := frozen_blk hbx4
    go_simp
    have hbx5 := box_put (u := .slice av4 (L1 + 1) cv4) hbx4
    have hS5 : ∀ o, (w4.setCell ⟨Mb, 5, none⟩ (.slice av4 (L1 + 1) cv4)).cell? ⟨w1.heap.size, o, none⟩ = w2.cell? ⟨w1.heap.size, o, none⟩ := fun o => (World.cell?_setCell_far _ _ _ _ (by show Mb ≠ w1.heap.size; omega)).trans (hS4 o)
    obtain ⟨w5, hw5⟩ : ∃ w5, w4.setCell ⟨Mb, 5, none⟩ (.slice av4 (L1 + 1) cv4) = w5 := ⟨_, rfl⟩
    rw [hw5] at hbx5 hS5 ⊢
    have HW5 := Lib.hid hw5
    clear hw5 zc5 yf
    refine hK.out _ _ (hS5) (fun hHeld => ?_); clear hK K; (try simp only [List.getElem_toArray, List.getElem_cons_zero, List.getElem_cons_succ, Act.put, List.setIfInBounds_toArray, List.set_cons_zero, List.set_cons_succ])
    refine wpAnyH_done (by kernel_rfl) ?_ _; clear hHeld
    have x6 : w5.cell? ⟨Mb, 6, none⟩ = some (.map (some pb)) := cell_blk hbx5 6 rfl
    obtain ⟨D1, hd1, hd2, hd3⟩ := HA.out.st.rest.places
    have HD2 := Lib.hid hd2
    have HD3 := Lib.hid hd3
    have hdm := hd1.isMap
    have hd5 : w5.ownsMap Try.prog 104 (plainElem Try.prog 3) pb L1 D1 := by
      have hlt := hd1.lt
      have k1 := (hd1.kept (grown_none HB13.out) (by simp)).kept HG4.out (fun e => by have := (HA.out.st.nodes.lt pb e.symm).1; have := HORD.out.2.2.2.1; omega)
      rw [HL1.out] at k1
      rw [← HW5.out]
      exact k1.kept (grown_setCell _ _ _ _) (by intro e; injection e with e; have := HORD.out.2.2.2.2.2.2.2.2.1; omega)
    clear hd1 hd2 hd3 hHeld hSd hS3 hS4 hS5 m5 n0 n1' n2
    go_wp2_with (at_mapUpdate; go_must (refine wpList_mapUpdate_in _ rfl _ _ _ 99 rfl 104 3 lawSet Try.underlying99 _ pb _ D1 rfl hd5 (by unfold maxLen; have := HLE.out; omega) _ _ _ rfl rfl hkey _ [] (plainElem_int Try.underlying3 HWL.out) ?_; intro w6 hown6 hturn))
    go_ret
    refine ⟨L1, n1, _, _, _, _, rfl, place_end HA.out HBW.out HSLN.out HRW.out HL1.out HS.out HB13.out ?_ HG4.out HB4.out HD2.out HD3.out hdm hown6 ?_⟩
    · exact HO4.out
    · rw [HW5.out]; exact hturn.grown
  · go_simp
    obtain ⟨w3, hw3, HB3, hsz3, hblk3⟩ := box1 wd (.cells #[.int .i64 r.ma, .int .i64 r.so, .slice ar1 (ints r.nx).length cr1] 41)
    rw [hw3]
    clear hw3
    have HB13 : Hid (Below w1.heap.size w1 w3) := Lib.hid (bel HB12d.out HB3.out)
    have hS3 : ∀ o, w3.cell? ⟨w1.heap.size, o, none⟩ = w2.cell? ⟨w1.heap.size, o, none⟩ := fun o => (HB3.out.cell (p := ⟨w1.heap.size, o, none⟩) hsd).trans (hSd o)
    refine hK.out _ _ (hS3) (fun hHeld => ?_); clear hK K; (try simp only [List.getElem_toArray, List.getElem_cons_zero, List.getElem_cons_succ, Act.put, List.setIfInBounds_toArray, List.set_cons_zero, List.set_cons_succ])
    refine wpAnyH_ready (rs := [4]) (by kernel_rfl) (by simp) ?_
    refine (AllReadyH.cons rfl (fun K hK => ?_) AllReadyH.nil)
    have m5d := (HB13.out.cell (p := ⟨Mb, 5, none⟩) hMb1).trans m5
    go_simp
    refine hK.out _ _ (hS3) (fun hHeld => ?_); clear hK K; (try simp only [List.getElem_toArray, List.getElem_cons_zero, List.getElem_cons_succ, Act.put, List.setIfInBounds_toArray, List.set_cons_zero, List.set_cons_succ])
    clear m5d
    refine wpAnyH_ready (rs := [7]) (by kernel_rfl) (by simp) ?_
    refine (AllReadyH.cons rfl (fun K hK => ?_) AllReadyH.nil)
    rw [if_pos (by rfl)]
    have hown3 := own_below HA.out.st.nodes HB13.out
    rw [HL1.out] at hown3
    have hbase3 : base ≤ w3.heap.size := by have := HA.out.st.rest.le; have := HB13.out.size; omega
    refine wp_append_at _ (.tmp 31) (.tmp 33) 24 rfl base 41 i1 (.agg #[.int .i64 0, .int .i64 0, .slice none 0 0]) 3 40 Try.underlying24 hi1 hz1 hz2 hz3 rfl (by decide) _ _ _ rfl hown3 ⟨wd.heap.size, 0, none⟩ 1 1 (nodeCells r (.slice ar1 (ints r.nx).length cr1)) rfl rfl (fun j u h => by rw [addrAdd, Nat.zero_add]; exact cell_blk hblk3 j (by simpa [nodeCells] using h)) (by simp [nodeCells, Value.oneCell']) (by unfold maxLen; have := HLE.out; omega) (by have := HLE.out; omega) hbase3 ?_
    intro v4 w4 ho4 hg4 hb4
    obtain ⟨av4, cv4, rfl⟩ := own_formG ho4
    have HO4 := Lib.hid ho4
    have HG4 := Lib.hid hg4
    have HB4 := Lib.hid hb4
    have hnv1 : ∀ j, (Value.slice av1 L1 cv1).ownBlock = some j → base ≤ j ∧ j < w1.heap.size := HA.out.st.nodes.lt
    have hS4 : ∀ o, w4.cell? ⟨w1.heap.size, o, none⟩ = w2.cell? ⟨w1.heap.size, o, none⟩ := fun o => (World.cell?_of_block (a := ⟨w1.heap.size, o, none⟩) (hg4.block _ (Nat.lt_of_lt_of_le hsd HB3.out.size) (fun e => absurd (hnv1 _ e.symm).2 (Nat.lt_irrefl _)))).trans (hS3 o)
    have hbx4 : w4.heap[Mb]? = some (.cells (makA B.nv bk b pb (.slice av1 L1 cv1)) 144 (0, 0)) := (hg4.block Mb (Nat.lt_of_lt_of_le hMb1 HB13.out.size) (fun e => by have := (hnv1 _ e.symm).1; have := HORD.out.2.1; omega)).trans ((HB13.out.block Mb hMb1).trans HA.out.st.box)
    clear ho4 hg4 hb4 hnv1
    refine hK.out _ _ (hS4) (fun hHeld => ?_); clear hK K; (try simp only [List.getElem_toArray, List.getElem_cons_zero, List.getElem_cons_succ, Act.put, List.setIfInBounds_toArray, List.set_cons_zero, List.set_cons_succ])
    (refine wpAnyH_take (i := 8) (v := ?_) rfl (by kernel_rfl) (by kernel_rfl) (by kernel_rfl) (fun _ _ _ h => h) (Or.inl ⟨by rfl, ?_⟩) (by assumption) ?_; rotate_left; (focus (intro w hSw; (try dsimp only at hSw); go_simp; (try with_reducible rfl))); (try simp only [List.getElem_toArray, List.getElem_cons_zero, List.getElem_cons_succ, Act.put, List.setIfInBounds_toArray, List.set_cons_zero, List.set_cons_succ])); (refine wpAnyH_take (i := 9) (v := ?_) rfl (by kernel_rfl) (by kernel_rfl) (by kernel_rfl) (fun _ _ _ h => h) (Or.inl ⟨by rfl, ?_⟩) (by assumption) ?_; rotate_left; (focus (intro w hSw; (try dsimp only at hSw); go_simp; (try with_reducible rfl))); (try simp only [List.getElem_toArray, List.getElem_cons_zero, List.getElem_cons_succ, Act.put, List.setIfInBounds_toArray, List.set_cons_zero, List.set_cons_succ]))
    refine wpAnyH_ready (rs := [10]) (by kernel_rfl) (by simp) ?_
    refine (AllReadyH.cons rfl (fun K hK => ?_) AllReadyH.nil)
    have zc5 : w4.cell? ⟨Mb, 5, none⟩ = some (.slice av1 L1 cv1) := cell_blk hbx4 5 rfl
    have yf := frozen_blk hbx4
    go_simp
    have hbx5 := box_put (u := .slice av4 (L1 + 1) cv4) hbx4
    have hS5 : ∀ o, (w4.setCell ⟨Mb, 5, none⟩ (.slice av4 (L1 + 1) cv4)).cell? ⟨w1.heap.size, o, none⟩ = w2.cell? ⟨w1.heap.size, o, none⟩ := fun o => (World.cell?_setCell_far _ _ _ _ (by show Mb ≠ w1.heap.size; omega)).trans (hS4 o)
    obtain ⟨w5, hw5⟩ : ∃ w5, w4.setCell ⟨Mb, 5, none⟩ (.slice av4 (L1 + 1) cv4) = w5 := ⟨_, rfl⟩
    rw [hw5] at hbx5 hS5 ⊢
    have HW5 := Lib.hid hw5
    clear hw5 zc5 yf
    refine hK.out _ _ (hS5) (fun hHeld => ?_); clear hK K; (try simp only [List.getElem_toArray, List.getElem_cons_zero, List.getElem_cons_succ, Act.put, List.setIfInBounds_toArray, List.set_cons_zero, List.set_cons_succ])
    refine wpAnyH_done (by kernel_rfl) ?_ _; clear hHeld
    have x6 : w5.cell? ⟨Mb, 6, none⟩ = some (.map (some pb)) := cell_blk hbx5 6 rfl
    obtain ⟨D1, hd1, hd2, hd3⟩ := HA.out.st.rest.places
    have HD2 := Lib.hid hd2
    have HD3 := Lib.hid hd3
    have hdm := hd1.isMap
    have hd5 : w5.ownsMap Try.prog 104 (plainElem Try.prog 3) pb L1 D1 := by
      have hlt := hd1.lt
      have k1 := (hd1.kept (grown_none HB13.out) (by simp)).kept HG4.out (fun e => by have := (HA.out.st.nodes.lt pb e.symm).1; have := HORD.out.2.2.2.1; omega)
      rw [HL1.out] at k1
      rw [← HW5.out]
      exact k1.kept (grown_setCell _ _ _ _) (by intro e; injection e with e; have := HORD.out.2.2.2.2.2.2.2.2.1; omega)
    clear hd1 hd2 hd3 hHeld hSd hS3 hS4 hS5 m5 n0 n1' n2
    go_wp2_with (at_mapUpdate; go_must (refine wpList_mapUpdate_in _ rfl _ _ _ 99 rfl 104 3 lawSet Try.underlying99 _ pb _ D1 rfl hd5 (by unfold maxLen; have := HLE.out; omega) _ _ _ rfl rfl hkey _ [] (plainElem_int Try.underlying3 HWL.out) ?_; intro w6 hown6 hturn))
    go_ret
    refine ⟨L1, n1, _, _, _, _, rfl, place_end HA.out HBW.out HSLN.out HRW.out HL1.out HS.out HB13.out ?_ HG4.out HB4.out HD2.out HD3.out hdm hown6 ?_⟩
    · exact HO4.out
    · rw [HW5.out]; exact hturn.grown

end Go.Proofs.Ytghimbggbgcgkaa
