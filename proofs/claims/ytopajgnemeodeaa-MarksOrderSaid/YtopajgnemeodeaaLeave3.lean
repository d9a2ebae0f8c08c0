/-
  The book with more leave: its numbers of wrong values, and how it lies in memory.
-/
import Derived.Test.YtopajgnemeodeaaLeave1
import Derived.Test.YtopajgnemeodeaaNothing4
namespace Go.Proofs.Ytopajgnemeodeaa
open Go.RowKit

def inR (x : Int) (n : Nat) : Bool := decide (0 ≤ x) && decide (x < (n : Int))
def leaveBk (B : Bk) (xw xs xm xv lo : Int) : Bk := if inR xs B.ns && inR xm B.nv then (B.loose xw lo).can1 xs.toNat xm.toNat (moreL B xs.toNat xm.toNat xv) else B.loose xw lo

theorem leaveBk_same (B : Bk) (xw xs xm xv lo : Int) : (leaveBk B xw xs xm xv lo).nv = B.nv ∧ (leaveBk B xw xs xm xv lo).ns = B.ns ∧ (leaveBk B xw xs xm xv lo).wr = B.wr + xw ∧ (leaveBk B xw xs xm xv lo).F = (B.loose xw lo).F := by
  unfold leaveBk
  split <;> exact ⟨rfl, rfl, rfl, rfl⟩

theorem wrong_leaveBk {B : Bk} {R : Fr} {xw xs xm xv lo : Int} (hg : Good B R) (hg2 : Good (leaveBk B xw xs xm xv lo) R) {s : Nat} (hs : s < B.ns) : wrong (leaveBk B xw xs xm xv lo) R s ≤ wrong B R s := by
  obtain ⟨e1, e2, e3, e4⟩ := leaveBk_same B xw xs xm xv lo
  refine wrong_leave e1 fun m hm => ⟨hg.ncc s hs m hm, hg2.ncc s (by rw [e2]; exact hs) m (by rw [e1]; exact hm), ?_, hg.F m hm, fun y hy => ?_⟩
  · rw [e4]
    show (if (m : Int) = lo then 0 else B.F m) = B.F m ∨ (if (m : Int) = lo then 0 else B.F m) = 0
    split
    · exact .inr rfl
    · exact .inl rfl
  · unfold leaveBk
    split
    · rename_i hin
      by_cases hsm : s = xs.toNat ∧ m = xm.toNat
      · obtain ⟨rfl, rfl⟩ := hsm
        unfold inCan Bk.can1
        simp only [and_self, if_true]
        have hy' := hy
        unfold inCan at hy'
        obtain ⟨i, hi, e⟩ := anyB_true.1 hy'
        have e := of_decide_eq_true e
        have hr := can_range (hg.can _ hs _ hm) hi
        rw [← e] at hr
        have ey : ((y.toNat : Nat) : Int) = y := Int.toNat_of_nonneg hr.1
        have := sel_has (p := moreP B xs.toNat xm.toNat xv) (k := y.toNat) (by unfold moreP; rw [ey, cin_inCan, hy, Bool.or_true]) (n := (B.V xm.toNat).toNat) (by omega)
        rw [ey] at this
        rw [anyB_true] at this ⊢
        obtain ⟨j, hj, e2⟩ := this
        have e2 := of_decide_eq_true e2
        exact ⟨j, hj, decide_eq_true e2.symm⟩
      · unfold inCan Bk.can1
        simp only [hsm, if_false]
        exact hy
    · exact hy

theorem Two.congr {w : World} {lo hi : Nat} {a b : Value} {B C : Bk} (h : Two w lo hi a b B) (h1 : C.nv = B.nv) (h2 : C.V = B.V) (h3 : C.nf = B.nf) (h4 : ∀ i, i < B.nf → C.F i = B.F i) : Two w lo hi a b C := by
  obtain ⟨mid, k1, g, cap, rfl, k2⟩ := h
  refine ⟨mid, by rw [h1, h2]; exact k1, g, cap, by rw [h3], fun h0 => ?_⟩
  rw [h3] at h0 ⊢
  obtain ⟨a1, a2, cur, a3, a4, a5, a6, a7⟩ := k2 h0
  exact ⟨a1, a2, cur, a3, a4, a5, a6, fun i hi => by rw [h4 i hi]; exact a7 i hi⟩

theorem Two.span {w : World} {lo hi : Nat} {a b : Value} {B : Bk} (h : Two w lo hi a b B) (h1 : 0 < B.nv) (h2 : 0 < B.nf) : lo ≤ hi := by
  obtain ⟨mid, ⟨g, cap, rfl, k1⟩, g', cap', rfl, k2⟩ := h
  have := k1 h1
  have := k2 h2
  omega

theorem Two.ints {w : World} {lo hi : Nat} {a b : Value} {B : Bk} (h : Two w lo hi a b B) (hw : lo ≤ w.heap.size) (h1 : B.nv ≤ 1000000) (h2 : B.nf ≤ 1000000) : IntsAt w.heap.size w a B.nv B.V ∧ IntsAt w.heap.size w b B.nf B.F := by
  obtain ⟨mid, k1, k2⟩ := h
  have key : ∀ {l m : Nat} {r : Value} {n : Nat} {x : Nat → Int}, RowIn w l m r n x → n ≤ 1000000 → IntsAt w.heap.size w r n x := fun hr hn => by
    obtain ⟨_, _, e, hn', hc⟩ := hr.ints (by omega)
    subst e
    refine ⟨_, _, rfl, hn', fun h0 => ?_⟩
    obtain ⟨b, off, e, hb, hr⟩ := hc h0
    refine ⟨b, off, e, ?_, hr⟩
    obtain ⟨r, hr1, _⟩ := hr 0 h0
    exact World.block_lt_of_cell? w _ hr1
  exact ⟨key k1 h1, key k2 h2⟩

theorem set_other {w : World} {g i : Nat} {cur : Array Value} {t : TypeId} {v : Value} (h : w.heap[g]? = some (Obj.cells cur t (0, 0))) : ∀ (k : Nat) (cs : Array Value) (u : TypeId), u ≠ t → w.heap[k]? = some (Obj.cells cs u (0, 0)) → (w.setCell ⟨g, i, none⟩ v).heap[k]? = w.heap[k]? := fun k cs u hu hk =>
  Below.heap_setCell _ _ _ _ (by
    show k ≠ g
    rintro rfl
    rw [hk] at h
    injection h with h
    injection h with _ ht
    exact hu ht)

end Go.Proofs.Ytopajgnemeodeaa
