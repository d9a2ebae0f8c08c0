/-
  Mk3: the node of a set of several sorts.
-/
import Derived.Test.YtghimbggbgcgkaaMk2
namespace Go.Proofs.Ytghimbggbgcgkaa
open Go.RowKit Go.Maps

/-- while a node is built: y of its parts have been placed -/
structure LoopN (B : KB) (bk b pb Mb N base s n m tb : Nat) (w0 w4 : World) (y : Nat) (wr : World) (v : Value) (l : List NR) (rows : List Value) (ss : List Nat) (ny : Nat) (vy : Value) (ly : List NR) (rowsy : List Value) (ssy : List Nat) (nx : List Nat) (rowv : Value) : Prop where
  st : St B bk b pb Mb N base ny wr vy (l ++ ly) (rows ++ rowsy) (ss ++ ssy)
  cnt : ny ≤ n + K9 + ly.length * K9
  newer : Newer w4 v vy
  few : ly.length ≤ sumB B s m y
  fresh : ∀ r g, r ∈ rowsy → r.ownBlock = some g → w4.heap.size ≤ g
  frame : Frm Mb b pb v w0 wr
  tbc : wr.heap[tb]? = some (.cells #[.int .i64 m, .int .i64 (-1), rowv] 41 (0, 0))
  own : OwnI w4.heap.size wr rowv (ints nx)
  alone : ∀ u g, u ∈ rowsy → u.ownBlock = some g → rowv.ownBlock ≠ some g
  len : nx.length = y
  here : ∀ j, j < y → ∃ i, nx[j]? = some i ∧ i < (l ++ ly).length ∧ (ss ++ ssy)[i]? = some (partF B s m j)

theorem Newer.older {w w' : World} {v v' : Value} (h : Newer w' v v') (hs : w.heap.size ≤ w'.heap.size) : Newer w v v' := by
  rcases h with h | h
  · exact .inl h
  · exact .inr fun j hj => Nat.le_trans hs (h j hj)
theorem two_end {W : World} {g : Nat} {a b c x : Value} {T : TypeId} (h : W.heap[g]? = some (Obj.cells #[a, b, c] T (0, 0))) : (W.setCell ⟨g, 2, none⟩ x).heap[g]? = some (Obj.cells #[a, b, x] T (0, 0)) := by
  simp [World.setCell, Array.getElem?_modify, h]

theorem own_ne {W : World} {base N : Nat} {v row : Value} {l : Nat} {xs : List Value} {L : List Int} (h : W.ownsRow base 41 3 v l xs) (ho : OwnI N W row L) : row.ownBlock = none ∨ v.ownBlock ≠ row.ownBlock := by
  obtain ⟨_, ⟨e1, _⟩ | ⟨g, cap, cur, e1, _, h4, _⟩⟩ := ho
  · left; rw [e1]; rfl
  · right
    intro e2
    obtain ⟨_, ⟨e3, _⟩ | ⟨g', cap', cur', e3, _, h4', _⟩⟩ := h
    · rw [e1, e3] at e2; cases e2
    · rw [e1, e3] at e2
      have : g' = g := by simpa [Value.ownBlock] using e2
      rw [← this, h4'] at h4
      injection h4 with h4
      injection h4 with _ h5
      cases h5

theorem loop_mid {B : KB} {bk b pb Mb N base s n m tb y : Nat} {w0 w4 wr w5 : World} {v : Value} {l : List NR} {rows : List Value} {ss : List Nat} {ny : Nat} {vy : Value} {ly : List NR} {rowsy : List Value} {ssy : List Nat} {nx : List Nat} {rowv : Value}
    {s' i n5 : Nat} {v5 : Value} {l5 : List NR} {rows5 : List Value} {ss5 : List Nat} (H : LoopN B bk b pb Mb N base s n m tb w0 w4 y wr v l rows ss ny vy ly rowsy ssy nx rowv)
    (A : Aft B bk b pb Mb N base s' ny wr w5 vy (l ++ ly) (rows ++ rowsy) (ss ++ ssy) i n5 v5 l5 rows5 ss5)
    (htb : base ≤ tb) (htb4 : tb < w4.heap.size) (hs4r : w4.heap.size ≤ wr.heap.size) (hvb : ∀ g, v.ownBlock = some g → g < tb) :
    OwnI w4.heap.size w5 rowv (ints nx) ∧ w5.heap[tb]? = some (.cells #[.int .i64 m, .int .i64 (-1), rowv] 41 (0, 0)) := by
  obtain ⟨o1, o2, o3, o4, o5, o6, o7, o8, o9, o10, o11⟩ := H.st.rest.ord
  refine ⟨?_, ?_⟩
  · obtain ⟨h1, h2 | ⟨g, cap, cur, e1, h3, h4, h5⟩⟩ := id H.own
    · exact ⟨h1, .inl h2⟩
    · refine ⟨h1, .inr ⟨g, cap, cur, e1, h3, ?_, h5⟩⟩
      rw [A.frame.block g (heap_lt h4) (by omega) (by omega) (by omega) (fun e => by
        rcases own_ne H.st.nodes H.own with e9 | e9
        · rw [e1] at e9; cases e9
        · exact e9 (by rw [e, e1]; rfl))]
      exact h4
  · exact (A.frame.block tb (by omega) (by omega) (by omega) (by omega) (by
      rcases H.newer with e | e
      · rw [e]; intro e2; have := hvb tb e2; omega
      · intro e2; have := e tb e2; omega)).trans H.tbc

/-- one more part has been placed, and its place written down -/
theorem loop_step {B : KB} {bk b pb Mb N base s n m tb y : Nat} {w0 w4 wr w5 w6 w7 : World} {v : Value} {l : List NR} {rows : List Value} {ss : List Nat} {ny : Nat} {vy : Value} {ly : List NR} {rowsy : List Value} {ssy : List Nat} {nx : List Nat} {rowv row7 : Value}
    {i n5 : Nat} {v5 : Value} {l5 : List NR} {rows5 : List Value} {ss5 : List Nat} (H : LoopN B bk b pb Mb N base s n m tb w0 w4 y wr v l rows ss ny vy ly rowsy ssy nx rowv)
    (A : Aft B bk b pb Mb N base (partF B s m y) ny wr w5 vy (l ++ ly) (rows ++ rowsy) (ss ++ ssy) i n5 v5 l5 rows5 ss5)
    (htb : base ≤ tb) (h0tb : w0.heap.size ≤ tb) (htb4 : tb < w4.heap.size) (hs4r : w4.heap.size ≤ wr.heap.size) (hrw : ∀ u, u ∈ rows → ∀ g, u.ownBlock = some g → g < tb) (hvb : ∀ g, v.ownBlock = some g → g < tb)
    (hB : Below w5.heap.size w5 w6) (h7 : OwnI w4.heap.size w7 row7 (ints (nx ++ [i]))) (hg7 : w6.grownBy w7 rowv.ownBlock) (hb7 : row7.ownBlock = rowv.ownBlock ∨ row7.ownBlock = some w6.heap.size) :
    LoopN B bk b pb Mb N base s n m tb w0 w4 (y + 1) (w7.setCell ⟨tb, 2, none⟩ row7) v l rows ss n5 v5 (ly ++ l5) (rowsy ++ rows5) (ssy ++ ss5) (nx ++ [i]) row7 := by
  obtain ⟨o1, o2, o3, o4, o5, o6, o7, o8, o9, o10, o11⟩ := H.st.rest.ord
  have hsr5 := A.frame.size
  have hs56 := hB.size
  have hs67 := hg7.size
  have hg78 : w7.grownBy (w7.setCell ⟨tb, 2, none⟩ row7) (some tb) := grown_setCell _ _ _ _
  have hs78 := hg78.size
  have hrl := H.own.lt
  -- the pending list outlives the call
  have hrowk : OwnI w4.heap.size w5 rowv (ints nx) := by
    obtain ⟨h1, h2 | ⟨g, cap, cur, e1, h3, h4, h5⟩⟩ := id H.own
    · exact ⟨h1, .inl h2⟩
    · refine ⟨h1, .inr ⟨g, cap, cur, e1, h3, ?_, h5⟩⟩
      rw [A.frame.block g (heap_lt h4) (by omega) (by omega) (by omega) (fun e => by
        rcases own_ne H.st.nodes H.own with e9 | e9
        · rw [e1] at e9; cases e9
        · exact e9 (by rw [e, e1]; rfl))]
      exact h4
  have hvt : vy.ownBlock ≠ some tb := by
    rcases H.newer with e | e
    · rw [e]; intro e2; have := hvb tb e2; omega
    · intro e2; have := e tb e2; omega
  have hv5t : v5.ownBlock ≠ some tb := A.newer.block (by omega) hvt
  have htb5 : w5.heap[tb]? = some (.cells #[.int .i64 m, .int .i64 (-1), rowv] 41 (0, 0)) :=
    (A.frame.block tb (by omega) (by omega) (by omega) (by omega) hvt).trans H.tbc
  have htr : some tb ≠ rowv.ownBlock := fun e => by have := (hrl tb e.symm).1; omega
  have htb7 := (hg7.block tb (by omega) htr).trans ((hB.block tb (by omega)).trans htb5)
  -- what the maker holds
  have st6 := A.st.below hB
  have hrow6 : OwnI w4.heap.size w6 rowv (ints nx) := own_below hrowk hB
  have hfr : ∀ u, u ∈ (rows ++ rowsy) ++ rows5 → u.ownBlock = none ∨ u.ownBlock ≠ rowv.ownBlock := fun u hu => by
    cases eu : u.ownBlock with
    | none => exact .inl rfl
    | some g =>
      right
      intro e
      have hg4 := (hrl g e.symm)
      rcases List.mem_append.1 hu with h | h
      · rcases List.mem_append.1 h with h | h
        · have := hrw u h g eu; omega
        · exact H.alone u g h eu e.symm
      · have := A.fresh u g h eu; omega
  have hft : ∀ u, u ∈ (rows ++ rowsy) ++ rows5 → u.ownBlock = none ∨ u.ownBlock ≠ some tb := fun u hu => by
    cases eu : u.ownBlock with
    | none => exact .inl rfl
    | some g =>
      right
      intro e
      injection e with e
      rcases List.mem_append.1 hu with h | h
      · rcases List.mem_append.1 h with h | h
        · have := hrw u h g eu; omega
        · have := H.fresh u g h eu; omega
      · have := A.fresh u g h eu; omega
  have st7 : St B bk b pb Mb N base n5 w7 v5 ((l ++ ly) ++ l5) ((rows ++ rowsy) ++ rows5) ((ss ++ ssy) ++ ss5) :=
    ⟨(hg7.block Mb (heap_lt st6.box) (fun e => by have := (hrl Mb e.symm).1; omega)).trans st6.box,
      st6.nodes.kept hg7 (by
        rcases own_ne st6.nodes hrow6 with e | e
        · cases ev : v5.ownBlock with
          | none => exact .inl rfl
          | some g => right; rw [e]; simp
        · exact .inr e),
      st6.rest.kept hg7 (fun e => by have := (hrl pb e.symm).1; omega) hfr (st6.rest.env.keep hg7 (fun e => by have := (hrl bk e.symm).1; omega) (fun j e => by have := (hrl j e).1; omega)) (st6.rest.found.kept hg7 (fun e => by have := (hrl b e.symm).1; omega))⟩
  have st8 : St B bk b pb Mb N base n5 (w7.setCell ⟨tb, 2, none⟩ row7) v5 ((l ++ ly) ++ l5) ((rows ++ rowsy) ++ rows5) ((ss ++ ssy) ++ ss5) :=
    ⟨(hg78.block Mb (heap_lt st7.box) (by intro e; injection e with e; omega)).trans st7.box, st7.nodes.kept hg78 (.inr hv5t),
      st7.rest.kept hg78 (by intro e; injection e with e; omega) hft (st7.rest.env.keep hg78 (by intro e; injection e with e; omega) (fun j e => by injection e with e; omega)) (st7.rest.found.kept hg78 (by intro e; injection e with e; omega))⟩
  have hlast : (nx ++ [i])[y]? = some i := by rw [List.getElem?_append_right (by rw [H.len]; exact Nat.le_refl _), H.len, Nat.sub_self]; rfl
  have h7t : row7.ownBlock = none ∨ row7.ownBlock ≠ some tb := by
    cases e : row7.ownBlock with
    | none => exact .inl rfl
    | some g => right; intro e2; injection e2 with e2; have := (h7.lt g e).1; omega
  refine { st := by simpa only [List.append_assoc] using st8, cnt := ?_, newer := H.newer.trans A.newer hs4r, few := ?_, fresh := ?_, frame := ?_, tbc := two_end htb7, own := World.ownsRow.kept h7 hg78 h7t, alone := ?_, len := by rw [List.length_append, H.len]; rfl, here := ?_ }
  · have h1 := A.cnt
    have h2 := H.cnt
    rw [List.length_append, Nat.add_mul]; omega
  · have h1 := A.few
    have h2 := H.few
    rw [List.length_append]
    simp only [sumB]; omega
  · intro u g hu hg
    rcases List.mem_append.1 hu with h | h
    · exact H.fresh u g h hg
    · have := A.fresh u g h hg; omega
  · have F := H.frame.trans A.frame (Newer.older H.newer (by omega))
    refine ⟨hg78.os.trans (hg7.os.trans (hB.os.trans F.os)), hg78.tape.trans (hg7.tape.trans (hB.tape.trans F.tape)), hg78.output.trans (hg7.output.trans (hB.output.trans F.output)), by have := F.size; omega, fun k hk k1 k2 k3 k4 => ?_⟩
    have hF := F.size
    exact (hg78.block k (by omega) (by intro e; injection e with e; omega)).trans ((hg7.block k (by omega) (fun e => by have := (hrl k e.symm).1; omega)).trans ((hB.block k (by omega)).trans (F.block k hk k1 k2 k3 k4)))
  · intro u g hu hg e
    rcases hb7 with e7 | e7
    · rw [e7] at e
      have hg4 := (hrl g e)
      rcases List.mem_append.1 hu with h | h
      · exact H.alone u g h hg e
      · have := A.fresh u g h hg; omega
    · rw [e7] at e
      injection e with e
      have hm : u ∈ (rows ++ rowsy) ++ rows5 := by rw [List.append_assoc]; exact List.mem_append.2 (.inr hu)
      obtain ⟨k, hk, ek⟩ := List.getElem_of_mem hm
      have hkl : k < ((l ++ ly) ++ l5).length := by rw [← st6.rest.rlen]; exact hk
      have := ((st6.rest.lists k _ u (List.getElem?_eq_getElem hkl) (by rw [List.getElem?_eq_getElem hk, ek])).lt g hg).2
      omega
  · intro j hj
    by_cases ej : j = y
    · subst ej
      refine ⟨i, hlast, ?_, ?_⟩
      · have := (List.getElem?_eq_some_iff.1 A.here).1
        have e := A.st.rest.slen
        rw [e] at this
        simpa only [List.append_assoc] using this
      · simpa only [List.append_assoc] using A.here
    · obtain ⟨k, h1, h2, h3⟩ := H.here j (by omega)
      refine ⟨k, by rw [List.getElem?_append_left (by rw [H.len]; omega)]; exact h1, ?_, ?_⟩
      · simp only [List.length_append] at h2 ⊢; omega
      · rw [← List.append_assoc, List.getElem?_append_left (by rw [H.st.rest.slen]; exact h2)]; exact h3

end Go.Proofs.Ytghimbggbgcgkaa
