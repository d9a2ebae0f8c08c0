/-
  Mk7: the key that a maker makes.
-/
import Derived.Test.YtghimbggbgcgkaaMk6
namespace Go.Proofs.Ytghimbggbgcgkaa
open Go.RowKit Go.Maps

def getR (l : List NR) (i : Nat) : NR := l.getD i ⟨-1, -1, []⟩
/-- the nodes in the order in which they are handed back -/
def ndOf (l : List NR) : Nd := { n := l.length, M := fun p => (getR l (l.length - 1 - p)).ma, q := fun p => (getR l (l.length - 1 - p)).nx.length, T := fun p y => ((l.length - 1 : Nat) : Int) - (((getR l (l.length - 1 - p)).nx.getD y 0 : Nat) : Int), S := fun p => (getR l (l.length - 1 - p)).so }

/-- the lists of the nodes, the first p of which have been gone through, and y numbers of the next one -/
def CellsC (W : World) (k : Nat) (Q : Nat → Nat) (H : Nat → Nat) (Y : Nat → Nat → Nat) (p y : Nat) : Prop :=
  ∀ a, a < k → ∀ z, z < Q a → W.cell? ⟨H a, z, none⟩ = some (.int .i64 (if a < p ∨ (a = p ∧ z < y) then ((k - 1 : Nat) : Int) - (Y a z : Int) else (Y a z : Int))) ∧ W.frozen? ⟨H a, z, none⟩ = false
theorem CellsC.keep {W W' : World} {k : Nat} {Q H : Nat → Nat} {Y : Nat → Nat → Nat} {p y : Nat} (h : CellsC W k Q H Y p y) (hb : ∀ a, a < k → 0 < Q a → W'.heap[H a]? = W.heap[H a]?) : CellsC W' k Q H Y p y := fun a ha z hz => by
  obtain ⟨h1, h2⟩ := h a ha z hz
  have e := hb a ha (by omega)
  exact ⟨(World.cell?_of_block (a := ⟨H a, z, none⟩) e).trans h1, (World.frozen?_of_block (a := ⟨H a, z, none⟩) e).trans h2⟩
theorem CellsC.next {W : World} {k : Nat} {Q H : Nat → Nat} {Y : Nat → Nat → Nat} {p y : Nat} (h : CellsC W k Q H Y p y) (hy : Q p ≤ y) : CellsC W k Q H Y (p + 1) 0 := fun a ha z hz => by
  obtain ⟨h1, h2⟩ := h a ha z hz
  refine ⟨h1.trans ?_, h2⟩
  by_cases e : a = p
  · subst e
    rw [if_pos (by omega), if_pos (by omega)]
  · by_cases e2 : a < p
    · rw [if_pos (by omega), if_pos (by omega)]
    · rw [if_neg (by omega), if_neg (by omega)]
theorem frozen_set {w : World} {p a : Addr} {v : Value} : (w.setCell p v).frozen? a = w.frozen? a := World.frozen?_setCell ..
theorem CellsC.put {W : World} {k : Nat} {Q H : Nat → Nat} {Y : Nat → Nat → Nat} {p y : Nat} (h : CellsC W k Q H Y p y) (hp : p < k) (hy : y < Q p) (hd : ∀ a c, a < k → c < k → a ≠ c → 0 < Q a → 0 < Q c → H a ≠ H c) :
    CellsC (W.setCell ⟨H p, y, none⟩ (.int .i64 (((k - 1 : Nat) : Int) - (Y p y : Int)))) k Q H Y p (y + 1) := fun a ha z hz => by
  obtain ⟨h1, h2⟩ := h a ha z hz
  refine ⟨?_, by rw [frozen_set]; exact h2⟩
  by_cases e : a = p
  · subst e
    by_cases e2 : z = y
    · subst e2
      rw [if_pos (by omega)]
      exact set_same h1
    · rw [set_off (fun e => e2 e.symm), h1]
      by_cases e3 : z < y
      · rw [if_pos (by omega), if_pos (by omega)]
      · rw [if_neg (by omega), if_neg (by omega)]
  · rw [World.cell?_setCell_far _ _ _ _ (by show H p ≠ H a; exact hd p a hp ha (fun e9 => e e9.symm) (by omega) (by omega)), h1]
    by_cases e3 : a < p
    · rw [if_pos (by omega), if_pos (by omega)]
    · rw [if_neg (by omega), if_neg (by omega)]

/-- how the nodes of a maker lie -/
theorem key_static {B : KB} {bk b pb Mb N base n : Nat} {w : World} {v : Value} {l : List NR} {rows : List Value} {ss : List Nat} (h : St B bk b pb Mb N base n w v l rows ss) (hk : 1 ≤ l.length) (hnx : ∀ p, p < l.length → (getR l p).nx.length ≤ 1000) :
    ∃ (g cap : Nat) (f : Nat → Int × Int × Value) (H : Nat → Nat), v = .slice (some ⟨g, 0, none⟩) l.length cap ∧ base ≤ g ∧ g < w.heap.size ∧ (∃ cs T, w.heap[g]? = some (Obj.cells cs T (0, 0))) ∧ NCells w g l.length f ∧
      (∀ p, p < l.length → (f p).1 = (getR l p).ma ∧ (f p).2.1 = (getR l p).so ∧ (∃ a c, (f p).2.2 = .slice a (getR l p).nx.length c ∧ (0 < (getR l p).nx.length → a = some ⟨H p, 0, none⟩)) ∧
        (0 < (getR l p).nx.length → base ≤ H p ∧ H p < w.heap.size ∧ H p ≠ g ∧ ∀ z, z < (getR l p).nx.length → w.cell? ⟨H p, z, none⟩ = some (.int .i64 ((getR l p).nx.getD z 0 : Nat)) ∧ w.frozen? ⟨H p, z, none⟩ = false)) ∧
      (∀ p q, p < l.length → q < l.length → p ≠ q → 0 < (getR l p).nx.length → 0 < (getR l q).nx.length → H p ≠ H q) := by
  have hrl := h.rest.rlen
  obtain ⟨hl0, ⟨_, e0⟩ | ⟨g, cap, cur, rfl, hg1, hg2, hg3⟩⟩ := id h.nodes
  · omega
  refine ⟨g, cap, fun p => ((getR l p).ma, (getR l p).so, rows.getD p (.slice none 0 0)), fun p => ((rows.getD p (.slice none 0 0)).ownBlock).getD 0, rfl, hg1, heap_lt hg2, ⟨_, _, hg2⟩, ?_, ?_, ?_⟩
  · intro i hi
    have e1 : l[i]? = some (getR l i) := by simp [getR, List.getD, hi]
    have e2 : rows[i]? = some (rows.getD i (.slice none 0 0)) := by simp [List.getD, show i < rows.length by omega]
    obtain ⟨f0, f1, f2⟩ := flatN_get l rows i _ _ e1 e2
    have k0 := World.ownsRow.cells h.nodes rfl _ _ f0
    have k1 := World.ownsRow.cells h.nodes rfl _ _ f1
    have k2 := World.ownsRow.cells h.nodes rfl _ _ f2
    rw [addrAdd, Nat.zero_add] at k0 k1 k2
    exact ⟨k0, k1, k2⟩
  · intro p hp
    have e1 : l[p]? = some (getR l p) := by simp [getR, List.getD, hp]
    have e2 : rows[p]? = some (rows.getD p (.slice none 0 0)) := by simp [List.getD, show p < rows.length by omega]
    have ho := h.rest.lists p _ _ e1 e2
    obtain ⟨row, hrow⟩ : ∃ row, rows.getD p (.slice none 0 0) = row := ⟨_, rfl⟩
    rw [hrow] at ho
    simp only [hrow]
    have hlen : (ints (getR l p).nx).length = (getR l p).nx.length := ints_len _
    refine ⟨trivial, trivial, ?_, ?_⟩
    · obtain ⟨h1, ⟨rfl, h2⟩ | ⟨h', c', cur', rfl, h3, h4, h5⟩⟩ := ho
      · exact ⟨none, 0, by rw [← hlen, h2], fun h0 => by omega⟩
      · exact ⟨some ⟨h', 0, none⟩, c', by rw [← hlen], fun _ => rfl⟩
    · intro h0
      obtain ⟨b', c', e, hb1, hb2⟩ := own_nats ho (by omega) (by have := hnx p hp; omega)
      subst e
      have hlt := (ho.lt b' rfl)
      refine ⟨hlt.1, hb1, ?_, fun z hz => ⟨hb2 z hz, ?_⟩⟩
      · show b' ≠ g
        rcases own_ne h.nodes ho with e9 | e9
        · cases e9
        · intro e; exact e9 (by rw [e]; rfl)
      · obtain ⟨_, ⟨e9, _⟩ | ⟨h', c', cur', e9, h3, h4, _⟩⟩ := ho
        · cases e9
        · injection e9 with e9 _ _
          injection e9 with e9
          injection e9 with e9 _ _
          subst e9
          exact frozen_blk h4 z
  · intro p q hp hq hne h0 h1
    have a1 : l[p]? = some (getR l p) := by simp [getR, List.getD, hp]
    have a2 : rows[p]? = some (rows.getD p (.slice none 0 0)) := by simp [List.getD, show p < rows.length by omega]
    have b1 : l[q]? = some (getR l q) := by simp [getR, List.getD, hq]
    have b2 : rows[q]? = some (rows.getD q (.slice none 0 0)) := by simp [List.getD, show q < rows.length by omega]
    have oa := h.rest.lists p _ _ a1 a2
    have ob := h.rest.lists q _ _ b1 b2
    have fa : ∃ x, (rows.getD p (.slice none 0 0)).ownBlock = some x := by
      obtain ⟨_, ⟨_, h2⟩ | ⟨h', c', cur', e9, _⟩⟩ := oa
      · rw [ints_len] at h2; omega
      · exact ⟨h', by rw [e9]; rfl⟩
    have fb : ∃ x, (rows.getD q (.slice none 0 0)).ownBlock = some x := by
      obtain ⟨_, ⟨_, h2⟩ | ⟨h', c', cur', e9, _⟩⟩ := ob
      · rw [ints_len] at h2; omega
      · exact ⟨h', by rw [e9]; rfl⟩
    obtain ⟨x, hx⟩ := fa
    obtain ⟨y, hy⟩ := fb
    simp only [hx, hy, Option.getD_some]
    rcases Nat.lt_or_gt_of_ne hne with hlt | hlt
    · intro e; exact h.rest.apart p q _ _ x hlt a2 b2 hx (by rw [hy, e])
    · intro e; exact h.rest.apart q p _ _ y hlt b2 a2 hy (by rw [hx, e])

/-- while the numbers of the parts are turned: p nodes are done, and y numbers of the next one -/
structure KW (w : World) (mk : Array Value) (Mb g k N0 : Nat) (fr : Nat → Int × Int × Value) (Q H : Nat → Nat) (Y : Nat → Nat → Nat) (z0 p y : Nat) (W : World) : Prop where
  box : W.heap[Mb]? = some (.cells mk 144 (0, 0))
  nodes : NCells W g k fr
  cells : CellsC W k Q H Y p y
  below : Below N0 w W
  size : z0 ≤ W.heap.size
theorem KW.go {w : World} {mk : Array Value} {Mb g k N0 : Nat} {fr : Nat → Int × Int × Value} {Q H : Nat → Nat} {Y : Nat → Nat → Nat} {z0 p y : Nat} {W W' : World} (h : KW w mk Mb g k N0 fr Q H Y z0 p y W) (hB : Below z0 W W') (hM : Mb < z0) (hg : g < z0) (hH : ∀ a, a < k → 0 < Q a → H a < z0) (hN : N0 ≤ z0) :
    KW w mk Mb g k N0 fr Q H Y z0 p y W' where
  box := (hB.block Mb hM).trans h.box
  nodes := fun i hi => by
    obtain ⟨h1, h2, h3⟩ := h.nodes i hi
    have e := hB.block g hg
    exact ⟨(World.cell?_of_block (a := ⟨g, i * 3, none⟩) e).trans h1, (World.cell?_of_block (a := ⟨g, i * 3 + 1, none⟩) e).trans h2, (World.cell?_of_block (a := ⟨g, i * 3 + 2, none⟩) e).trans h3⟩
  cells := h.cells.keep fun a ha hq => hB.block _ (hH a ha hq)
  below := h.below.trans (hB.mono hN)
  size := Nat.le_trans h.size hB.size
theorem KW.put {w : World} {mk : Array Value} {Mb g k N0 : Nat} {fr : Nat → Int × Int × Value} {Q H : Nat → Nat} {Y : Nat → Nat → Nat} {z0 p y : Nat} {W : World} (h : KW w mk Mb g k N0 fr Q H Y z0 p y W) (hp : p < k) (hy : y < Q p) (hd : ∀ a c, a < k → c < k → a ≠ c → 0 < Q a → 0 < Q c → H a ≠ H c)
    (hM : Mb ≠ H p) (hg : H p ≠ g) (hN : N0 ≤ H p) :
    KW w mk Mb g k N0 fr Q H Y z0 p (y + 1) (W.setCell ⟨H p, y, none⟩ (.int .i64 (((k - 1 : Nat) : Int) - (Y p y : Int)))) where
  box := ((grown_setCell W (H p) y _).block Mb (heap_lt h.box) (by intro e; injection e with e; exact hM e)).trans h.box
  nodes := fun i hi => by
    obtain ⟨h1, h2, h3⟩ := h.nodes i hi
    exact ⟨(World.cell?_setCell_far _ _ _ _ hg).trans h1, (World.cell?_setCell_far _ _ _ _ hg).trans h2, (World.cell?_setCell_far _ _ _ _ hg).trans h3⟩
  cells := h.cells.put hp hy hd
  below := h.below.setCell hN _
  size := Nat.le_trans h.size (grown_setCell W (H p) y _).size

/-- what key hands back -/
structure KeyR (B : KB) (s : Nat) (l : List NR) (ss : List Nat) : Prop where
  one : 1 ≤ l.length
  few : l.length ≤ 40
  slen : ss.length = l.length
  last : ss[l.length - 1]? = some s
  good : ∀ (i t : Nat) (r : NR), ss[i]? = some t → l[i]? = some r → SetOk B t ∧ NodeOk B ss i t r

set_option maxRecDepth 100000 in
set_option maxHeartbeats 8000000 in
theorem key_any (B : KB) (hG : GoodB B) (bk b pb Mb N base N0 s : Nat) (w : World) (h : St B bk b pb Mb N base 0 w (.slice none 0 0) [] [] []) (hs : SetOk B s) (h7 : B.ns ≤ 7) (hN0 : N0 ≤ Mb ∧ N0 ≤ b ∧ N0 ≤ pb ∧ N0 ≤ base) :
    Calls Try.prog 88 #[.pointer (some ⟨Mb, 0, none⟩), .int .u64 s] w fun e w' => ∃ (v : Value) (l : List NR) (ss : List Nat), e = .returned v ∧ KeyR B s l ss ∧ NodesAt w'.heap.size w' v (ndOf l) ∧ Below N0 w w' := by
  have hml : (mems s).length ≤ 7 := by
    have h1 : (mems s).Sublist (List.range B.ns) := by
      have h2 : (mems s) = ((List.range 8).filter fun i => s.testBit i) := rfl
      have h3 : ((List.range 8).filter fun i => s.testBit i) = ((List.range B.ns).filter fun i => s.testBit i) := by
        have key : ∀ n, B.ns ≤ n → n ≤ 8 → (List.range n).filter (fun i => s.testBit i) = (List.range B.ns).filter (fun i => s.testBit i) := by
          intro n
          induction n with
          | zero => intro a _; rw [show B.ns = 0 by omega]
          | succ n ih =>
            intro a c
            by_cases e : B.ns = n + 1
            · rw [e]
            · rw [List.range_succ, List.filter_append, ih (by omega) (by omega)]
              have : s.testBit n = false := by
                cases hb : s.testBit n with
                | false => rfl
                | true => have := hs.mem n ((mems_mem hs.lt).2 hb); omega
              simp [this]
        exact key 8 hG.ns (Nat.le_refl _)
      rw [h2, h3]
      exact List.filter_sublist
    have := h1.length_le
    rw [List.length_range] at this
    omega
  have hcb : cB (mems s).length ≤ 19 := by unfold cB; split <;> omega
  have HPL := Lib.hid (place_all B hG bk b pb Mb N base s 0 w _ [] [] [] hs (by omega) h (by simp; omega) (by unfold K9; omega))
  have HST := Lib.hid h
  have HN0 := Lib.hid hN0
  have HCB := Lib.hid hcb
  clear h
  go_enter Try.func88, Try.ntmps88
  go_upto_region 2 with (go_at_call 125; refine HPL.out.mono ?_; rintro e w1 ⟨i, n1, v1, l, rows, ss, rfl, ha⟩; have HA := Lib.hid ha; clear ha)
  have hst := HA.out.st
  simp only [List.nil_append] at hst
  have hi := HA.out.top rfl
  have hhere := HA.out.here
  simp only [List.nil_append] at hhere
  have hfew := HA.out.few
  have hcb := HCB.out
  have hk1 : 1 ≤ l.length := by omega
  have hk40 : l.length ≤ 40 := by omega
  have HKEY : Hid (KeyR B s l ss) := ⟨hk1, hk40, hst.rest.slen, by rw [show l.length - 1 = i by omega]; exact hhere, fun i t r h1 h2 => hst.rest.good i t r h1 h2⟩
  have hl1 : ∀ p, p < l.length → ∃ t, ss[p]? = some t ∧ l[p]? = some (getR l p) := fun p hp => ⟨ss.getD p 0, by rw [List.getD_eq_getElem?_getD, List.getElem?_eq_getElem (by rw [hst.rest.slen]; exact hp)]; rfl, by simp [getR, List.getD, hp]⟩
  have hnx3 : ∀ p, p < l.length → (getR l p).nx.length ≤ 1000 ∧ ∀ y, y < (getR l p).nx.length → (getR l p).nx.getD y 0 < l.length := fun p hp => by
    obtain ⟨t, h1, h2⟩ := hl1 p hp
    obtain ⟨_, ⟨_, _, h3, _⟩ | ⟨_, m, h4, _, _, h5, _, _, h6⟩⟩ := hst.rest.good p t _ h1 h2
    · rw [h3]; exact ⟨by simp, fun y hy => by simp at hy⟩
    · have := hG.V m h4
      refine ⟨by omega, fun y hy => ?_⟩
      obtain ⟨j, h7, h8, _⟩ := h6 y (by omega)
      rw [List.getD_eq_getElem?_getD, h8]
      exact Nat.lt_trans h7 hp
  obtain ⟨g, cap, f, H, rfl, hg0, hg1, hgc, hN1, hf1, hf2⟩ := key_static hst hk1 (fun p hp => (hnx3 p hp).1)
  have hord := hst.rest.ord
  have hle := hst.rest.le
  have hn0 := HN0.out
  have hbox := hst.box
  have hb01 : Below N0 w w1 := by
    have F := HA.out.frame
    have hs0 := HST.out.rest.le
    exact ⟨F.os, F.tape, F.output, F.size, fun k hk => F.block k (by omega) (by omega) (by omega) (by omega) (by simp [Value.ownBlock])⟩
  obtain ⟨k, hk⟩ : ∃ k, l.length = k := ⟨_, rfl⟩
  simp only [hk] at hN1 hf1 hf2 hbox hk1 hk40 hnx3 hl1 hi hfew
  have HREV := Lib.hid (reverse_any g k cap f w1 hN1 hgc hk40 (fun i hi => by obtain ⟨_, _, ⟨a, c, h, _⟩, _⟩ := hf1 i hi; exact ⟨a, _, c, h⟩))
  obtain ⟨R, hR⟩ : ∃ R : Nat → NR, (fun p => getR l (k - 1 - p)) = R := ⟨_, rfl⟩
  have hRp : ∀ p, getR l (k - 1 - p) = R p := fun p => by rw [← hR]
  obtain ⟨mk, hmk⟩ : ∃ mk, makA B.nv bk b pb (.slice (some ⟨g, 0, none⟩) k cap) = mk := ⟨_, rfl⟩
  have hm5 : mk[5]? = some (.slice (some ⟨g, 0, none⟩) k cap) := by rw [← hmk]; rfl
  rw [hmk] at hbox
  have c5 := cell_blk hbox 5 hm5
  have hz1 : Mb < w1.heap.size := heap_lt hbox
  clear HPL HST hs hG hst HA
  go_upto_region 3 with (go_at_call 126; refine HREV.out.mono ?_; rintro e w2 ⟨rfl, hn2, hg2, hc2⟩; have HN2 := Lib.hid hn2; have HG2 := Lib.hid hg2; clear hn2 hg2)
  have hz2 := HG2.out.size
  have HKW : Hid (KW w mk Mb g k N0 (fun p => f (k - 1 - p)) (fun p => (R p).nx.length) (fun p => H (k - 1 - p)) (fun p z => (R p).nx.getD z 0) w2.heap.size 0 0 w2) :=
    { box := (HG2.out.block Mb (by omega) (by intro e; injection e with e; omega)).trans hbox
      nodes := HN2.out
      cells := fun a ha z hz => by
        obtain ⟨_, _, _, h⟩ := hf1 (k - 1 - a) (by omega)
        rw [hRp] at h
        have hz' : z < (R a).nx.length := hz
        obtain ⟨h1, h2, h3, h4⟩ := h (by omega)
        obtain ⟨h5, h6⟩ := h4 z hz
        have e := HG2.out.block _ h2 (by intro e; injection e with e; exact h3 e)
        rw [if_neg (by omega)]
        exact ⟨(World.cell?_of_block (a := ⟨H (k - 1 - a), z, none⟩) e).trans h5, (World.frozen?_of_block (a := ⟨H (k - 1 - a), z, none⟩) e).trans h6⟩
      below := hb01.grown HG2.out (by omega) (fun j e => by injection e with e; omega)
      size := Nat.le_refl _ }
  have HF1 := Lib.hid hf1
  have HF2 := Lib.hid hf2
  have HNX := Lib.hid hnx3
  have HFR : Hid (∀ p, p < k → ∃ a c, f (k - 1 - p) = ((R p).ma, (R p).so, .slice a (R p).nx.length c) ∧ (0 < (R p).nx.length → a = some ⟨H (k - 1 - p), 0, none⟩)) := fun p hp => by
    obtain ⟨h1, h2, ⟨a, c, h3, h4⟩, _⟩ := hf1 (k - 1 - p) (by omega)
    rw [hRp] at h1 h2 h3 h4
    exact ⟨a, c, by rw [← h1, ← h2, ← h3], h4⟩
  have HHL : Hid (∀ p, p < k → 0 < (R p).nx.length → base ≤ H (k - 1 - p) ∧ H (k - 1 - p) < w2.heap.size ∧ H (k - 1 - p) ≠ g) := fun p hp h0 => by
    obtain ⟨_, _, _, h⟩ := hf1 (k - 1 - p) (by omega)
    rw [hRp] at h
    obtain ⟨h1, h2, h3, _⟩ := h h0
    exact ⟨h1, by omega, h3⟩
  have HHD : Hid (∀ a c, a < k → c < k → a ≠ c → 0 < (R a).nx.length → 0 < (R c).nx.length → H (k - 1 - a) ≠ H (k - 1 - c)) := fun a c ha hc hne h0 h1 =>
    hf2 _ _ (by omega) (by omega) (by omega) (by rw [hRp]; exact h0) (by rw [hRp]; exact h1)
  have HNX : Hid (∀ p, p < k → (R p).nx.length ≤ 1000 ∧ ∀ y, y < (R p).nx.length → (R p).nx.getD y 0 < k) := fun p hp => by
    have h := hnx3 (k - 1 - p) (by omega)
    rw [hRp] at h; exact h
  have hlast : IntKind.i64.wrap ((k : Int) - 1) = ((k - 1 : Nat) : Int) := by rw [IntWalk.i64_in _ (by omega)]; omega
  have HREP := Lib.hid hRp
  have c5' := cell_blk HKW.out.box 5 hm5
  clear hf1 hf2 hnx3 hN1 hgc hl1 hhere hbox c5 hRp HREV HN2
  go_upto_region 5 with fail
  go_loopw [29] (fun i wr => ∃ p : Nat, p ≤ k ∧ i = .int .i64 p ∧ Hid (KW w mk Mb g k N0 (fun p => f (k - 1 - p)) (fun p => (R p).nx.length) (fun p => H (k - 1 - p)) (fun p z => (R p).nx.getD z 0) w2.heap.size p 0 wr)) (fun i _ => k - (intOf i).toNat)
  case atStart => exact ⟨0, Nat.zero_le _, rfl, HKW⟩
  case round =>
  obtain ⟨p, hp, rfl, HW⟩ := hrel
  have hkk := hk40
  by_cases hlt : p < k
  · have hpi : (p : Int) < (k : Int) := by omega
    obtain ⟨aR, cR, hfr, haR⟩ := HFR.out p hlt
    obtain ⟨n0, n1, n2⟩ := HW.out.nodes p hlt
    simp only [hfr] at n0 n1 n2
    clear hfr
    go_upto_region 8 with fail
    obtain ⟨ws, hws, HBo, hsz, kk⟩ := box1 wr (.cells #[.int .i64 (R p).ma, .int .i64 (R p).so, .slice aR (R p).nx.length cR] 41)
    rw [hws]
    obtain ⟨tb, htb⟩ : ∃ tb, wr.heap.size = tb := ⟨_, rfl⟩
    have hzr := HW.out.size
    have HW1 : Hid (KW w mk Mb g k N0 (fun p => f (k - 1 - p)) (fun p => (R p).nx.length) (fun p => H (k - 1 - p)) (fun p z => (R p).nx.getD z 0) w2.heap.size p 0 ws) :=
      HW.out.go (HBo.out.mono hzr) (by omega) (by omega) (fun a ha h0 => (HHL.out a ha h0).2.1) (by omega)
    rw [htb] at kk ⊢
    have HTB : Hid (ws.heap[tb]? = some (.cells #[.int .i64 (R p).ma, .int .i64 (R p).so, .slice aR (R p).nx.length cR] 41 (0, 0))) := kk
    have hHt : 0 < (R p).nx.length → H (k - 1 - p) < tb := fun h0 => by have := (HHL.out p hlt h0).2.1; omega
    clear kk hws HBo hsz HW n0 n1 n2
    clear htb hzr
    go_loopw [36] (fun j wr => ∃ y : Nat, y ≤ (R p).nx.length ∧ j = .int .i64 y ∧ Hid (KW w mk Mb g k N0 (fun p => f (k - 1 - p)) (fun p => (R p).nx.length) (fun p => H (k - 1 - p)) (fun p z => (R p).nx.getD z 0) w2.heap.size p y wr) ∧
      Hid (wr.heap[tb]? = some (.cells #[.int .i64 (R p).ma, .int .i64 (R p).so, .slice aR (R p).nx.length cR] 41 (0, 0)))) (fun j _ => (R p).nx.length - (intOf j).toNat)
    case atStart => exact ⟨0, Nat.zero_le _, rfl, HW1, HTB⟩
    case round =>
    obtain ⟨y, hy, rfl, HWy, HTy⟩ := hrel
    by_cases hyq : y < (R p).nx.length
    · have hyi : (y : Int) < ((R p).nx.length : Int) := by omega
      obtain rfl := haR (by omega)
      have hb0 := HHL.out p hlt (by omega)
      have hYk := (HNX.out p hlt).2 y hyq
      have hq1 := (HNX.out p hlt).1
      have hct := HWy.out.cells p hlt y hyq
      rw [if_neg (by omega)] at hct
      obtain ⟨c1, c2⟩ := hct
      have t2 := cell_blk HTy.out 2 rfl
      have hwrp : IntKind.i64.wrap (((k - 1 : Nat) : Int) - ((R p).nx.getD y 0 : Nat)) = ((k - 1 : Nat) : Int) - ((R p).nx.getD y 0 : Nat) := IntWalk.i64_in _ (by omega)
      have HP2 : Hid (KW w mk Mb g k N0 (fun p => f (k - 1 - p)) (fun p => (R p).nx.length) (fun p => H (k - 1 - p)) (fun p z => (R p).nx.getD z 0) w2.heap.size p (y + 1) (wr.setCell ⟨H (k - 1 - p), y, none⟩ (.int .i64 (((k - 1 : Nat) : Int) - ((R p).nx.getD y 0 : Nat))))) :=
        HWy.out.put hlt hyq HHD.out (by omega) hb0.2.2 (by omega)
      have HT2 : Hid ((wr.setCell ⟨H (k - 1 - p), y, none⟩ (.int .i64 (((k - 1 : Nat) : Int) - ((R p).nx.getD y 0 : Nat)))).heap[tb]? = some (.cells #[.int .i64 (R p).ma, .int .i64 (R p).so, .slice (some ⟨H (k - 1 - p), 0, none⟩) (R p).nx.length cR] 41 (0, 0))) :=
        ((grown_setCell wr (H (k - 1 - p)) y _).block tb (heap_lt HTy.out) (by intro e; injection e with e; have := hHt (by omega); omega)).trans HTy.out
      obtain ⟨Y, hY⟩ : ∃ Y : Nat, (R p).nx.getD y 0 = Y := ⟨_, rfl⟩
      obtain ⟨Hp, hHp⟩ : ∃ Hp, H (k - 1 - p) = Hp := ⟨_, rfl⟩
      simp only [hY, hHp] at c1 c2 hwrp HP2 HT2 hYk hb0 t2
      go_wp2
      go_roundw
      case rel => exact ⟨y + 1, by omega, by go_num, HP2, by rw [hHp]; exact HT2⟩
      case measure => simp [intOf]; omega
    · have hyi : ¬ (y : Int) < ((R p).nx.length : Int) := by omega
      obtain rfl : y = (R p).nx.length := by omega
      have hpk := HWy.out.cells.next (Nat.le_refl _)
      have HPK : Hid (KW w mk Mb g k N0 (fun p => f (k - 1 - p)) (fun p => (R p).nx.length) (fun p => H (k - 1 - p)) (fun p z => (R p).nx.getD z 0) w2.heap.size (p + 1) 0 wr) := { HWy.out with cells := hpk }
      clear hpk
      go_wp2
      go_roundw
      case rel => exact ⟨p + 1, by omega, by go_num, HPK⟩
      case measure => simp [intOf]; omega
  · have hpi : ¬ (p : Int) < (k : Int) := by omega
    obtain rfl : p = k := by omega
    have d5 := cell_blk HW.out.box 5 hm5
    go_wp2
    go_ret
    refine ⟨.slice (some ⟨g, 0, none⟩) p cap, rfl, l, ⟨ss, HKEY.out⟩, ?_, HW.out.below⟩
    have hzw := HW.out.size
    refine ⟨some ⟨g, 0, none⟩, cap, by rw [show (ndOf l).n = p from hk], by show l.length ≤ _; omega, fun _ => ⟨g, 0, rfl, by omega, fun j hj => ?_⟩⟩
    have hj : j < p := by rw [← hk]; exact hj
    obtain ⟨aR, cR, hfr, haR⟩ := HFR.out j hj
    obtain ⟨n0, n1, n2⟩ := HW.out.nodes j hj
    simp only [hfr] at n0 n1 n2
    have e1 : getR l (l.length - 1 - j) = R j := by rw [hk]; exact HREP.out j
    refine ⟨?_, ?_, .slice aR (R j).nx.length cR, ?_, ?_⟩
    · rw [Nat.zero_add]; show wr.cell? _ = some (Value.int IntKind.i64 (getR l (l.length - 1 - j)).ma); rw [e1]; exact n0
    · rw [Nat.zero_add]; show wr.cell? _ = some (Value.int IntKind.i64 (getR l (l.length - 1 - j)).so); rw [e1]; exact n1
    · rw [Nat.zero_add]; exact n2
    · have hq1 := (HNX.out j hj).1
      have eq : (ndOf l).q j = (R j).nx.length := by show (getR l (l.length - 1 - j)).nx.length = _; rw [e1]
      have eT : (ndOf l).T j = fun y => ((p - 1 : Nat) : Int) - (((R j).nx.getD y 0 : Nat) : Int) := by
        funext y; show ((l.length - 1 : Nat) : Int) - (((getR l (l.length - 1 - j)).nx.getD y 0 : Nat) : Int) = _; rw [e1, hk]
      rw [eq, eT]
      refine ⟨aR, cR, rfl, by omega, fun h0 => ⟨H (p - 1 - j), 0, haR h0, by have := (HHL.out j hj h0).2.1; omega, fun z hz => ⟨_, ?_, rfl⟩⟩⟩
      have hct := (HW.out.cells j hj z hz).1
      rw [if_pos (by omega)] at hct
      rw [Nat.zero_add]; exact hct

end Go.Proofs.Ytghimbggbgcgkaa
