import Derived.Test.YtmmadlpkolcgkaaBox3
import Derived.Maps.AppendAt
namespace Go.Proofs.Ytmmadlpkolcgkaa
open Go.RowKit

theorem own_below {base : Nat} {e : TypeId} {size : Nat} {v : Value} {n : Nat} {xs : List Value} {w w' : World} (h : w.ownsRow base e size v n xs) (hB : Below w.heap.size w w') : w'.ownsRow base e size v n xs := by
  obtain ⟨h1, h2 | ⟨g, cap, cur, rfl, h3, h4, h5⟩⟩ := h
  · exact ⟨h1, .inl h2⟩
  · exact ⟨h1, .inr ⟨g, cap, cur, rfl, h3, (hB.block g (Array.getElem?_eq_some_iff.1 h4).1).trans h4, h5⟩⟩
theorem own_mono {base base' : Nat} {e : TypeId} {size : Nat} {v : Value} {n : Nat} {xs : List Value} {w : World} (h : w.ownsRow base e size v n xs) (hb : base' ≤ base) : w.ownsRow base' e size v n xs := by
  obtain ⟨h1, h2 | ⟨g, cap, cur, rfl, h3, h4, h5⟩⟩ := h
  · exact ⟨h1, .inl h2⟩
  · exact ⟨h1, .inr ⟨g, cap, cur, rfl, Nat.le_trans hb h3, h4, h5⟩⟩

/-- v is a list of its own (or nil), of the numbers l -/
def OwnI (N : Nat) (w : World) (v : Value) (l : List Int) : Prop := w.ownsRow N 3 1 v l.length (l.map (Value.int .i64))

theorem OwnI.ints {N : Nat} {w : World} {v : Value} {l : List Int} (h : OwnI N w v l) (hl : l.length ≤ 140737488351232) : IntsAt w.heap.size w v l.length (fun i => l.getD i 0) := by
  obtain ⟨h1, ⟨rfl, h2⟩ | ⟨g, cap, cur, rfl, h3, h4, h5, h6, h7, h8⟩⟩ := h
  · exact ⟨none, 0, by rw [h2], hl, fun h0 => by omega⟩
  · refine ⟨_, cap, rfl, hl, fun _ => ⟨g, 0, rfl, (Array.getElem?_eq_some_iff.1 h4).1, fun i hi => ⟨_, ?_, rfl⟩⟩⟩
    have hh := World.ownsRow.cells (w := w) (base := N) (e := 3) (size := 1) (v := .slice (some ⟨g, 0, none⟩) l.length cap) (n := l.length) (xs := l.map (Value.int .i64)) ⟨h1, .inr ⟨g, cap, cur, rfl, h3, h4, h5, h6, h7, h8⟩⟩ rfl i (.int .i64 (l.getD i 0)) (by
      rw [List.getElem?_map, List.getElem?_eq_getElem hi]; simp [List.getD, List.getElem?_eq_getElem hi])
    rw [show (⟨g, 0 + i, none⟩ : Addr) = (⟨g, 0, none⟩ : Addr).add i by simp [Addr.add]]
    exact hh

theorem keep5 {wr w0 w1 : World} {b : Nat} {x0 x1 x2 x3 x4 : Value} (h : w0.cell? ⟨b, 0, none⟩ = some x0 ∧ w0.cell? ⟨b, 1, none⟩ = some x1 ∧ w0.cell? ⟨b, 2, none⟩ = some x2 ∧ w0.cell? ⟨b, 3, none⟩ = some x3 ∧ w0.cell? ⟨b, 4, none⟩ = some x4 ∧ Hid (Below wr.heap.size wr w0)) (hb : b < wr.heap.size) (k : Below w0.heap.size w0 w1) :
    w1.cell? ⟨b, 0, none⟩ = some x0 ∧ w1.cell? ⟨b, 1, none⟩ = some x1 ∧ w1.cell? ⟨b, 2, none⟩ = some x2 ∧ w1.cell? ⟨b, 3, none⟩ = some x3 ∧ w1.cell? ⟨b, 4, none⟩ = some x4 ∧ Hid (Below wr.heap.size wr w1) := by
  obtain ⟨h0, h1, h2, h3, h4, hB⟩ := h
  have hlt : b < w0.heap.size := Nat.lt_of_lt_of_le hb hB.out.size
  exact ⟨(k.cell (p := ⟨b, 0, none⟩) hlt).trans h0, (k.cell (p := ⟨b, 1, none⟩) hlt).trans h1, (k.cell (p := ⟨b, 2, none⟩) hlt).trans h2, (k.cell (p := ⟨b, 3, none⟩) hlt).trans h3, (k.cell (p := ⟨b, 4, none⟩) hlt).trans h4, step hB.out (Nat.le_refl _) k⟩

/-- a call that makes a list -/
def GivesI (N : Nat) (w : World) (l : List Int) (e : Ending) (w' : World) : Prop := ∃ v, e = .returned v ∧ OwnI N w' v l ∧ Below N w w'

/-- the numbers below n with p -/
def sel (p : Nat → Bool) : Nat → List Int
  | 0 => []
  | k + 1 => if p k then sel p k ++ [(k : Int)] else sel p k
theorem sel_len (p : Nat → Bool) (k : Nat) : (sel p k).length ≤ k := by
  induction k with
  | zero => simp [sel]
  | succ k ih =>
    unfold sel; split
    · simp; omega
    · omega
theorem sel_hit {p : Nat → Bool} {k : Nat} (h : p k = true) : sel p (k + 1) = sel p k ++ [(k : Int)] := by simp [sel, h]
theorem sel_miss {p : Nat → Bool} {k : Nat} (h : p k = false) : sel p (k + 1) = sel p k := by simp [sel, h]

theorem Try.infoInt : (Try.prog.info? 3).map (fun i => (i.zero, i.size, i.bytes)) = some (some (.int .i64 0), 1, 8) := by kernel_rfl

def sorts (B : Bk) (R : Fr) : List Int := sel (fun s => decide ((wrong B R s : Int) ≤ B.wr)) B.ns

set_option maxHeartbeats 4000000 in
theorem sorts_any (N : Nat) (v : Value) (B : Bk) (R : Fr) (w : World) (h : BoxAt N w v B R) (hg : Good B R) :
    Calls Try.prog 71 #[v] w (GivesI w.heap.size w (sorts B R)) := by
  have H : Hid (BoxAt N w v B R) := h
  have HG : Hid _ := Lib.hid hg
  obtain ⟨hN, a1, c1, a2, c2, a3, c3, af, cf, rfl, h1, h2, h3, h4⟩ := h
  have hn8 := hg.ns
  obtain ⟨i0, hi, hz0, hz1, hz2⟩ := info_parts Try.infoInt
  clear hg h1 h2 h3 h4
  go_enter Try.func71, Try.ntmps71
  go_wp2
  go_loopw [3, 9] (fun t i wr => ∃ k : Nat, k ≤ B.ns ∧ i = .int .i64 k ∧ Hid (OwnI (w.heap.size + 1) wr t (sel (fun s => decide ((wrong B R s : Int) ≤ B.wr)) k)) ∧ Hid (Below (w.heap.size + 1) (w.alloc (.cells #[.slice a1 B.nv c1, .slice a2 B.nf c2, .slice a3 B.ns c3, .int .i64 B.wr, .slice af R.n cf] 93)) wr)) (fun _ i _ => B.ns - (intOf i).toNat)
  case atStart => exact ⟨0, Nat.zero_le _, rfl, World.ownsRow_nil _ _ _ _, Below.refl _ _⟩
  case round =>
    obtain ⟨k, hk, rfl, ho, hB⟩ := hrel
    by_cases hkn : k < B.ns
    · have q0 := box_cell hB.out 0 rfl
      have q1 := box_cell hB.out 1 rfl
      have q2 := box_cell hB.out 2 rfl
      have q3 := box_cell hB.out 3 rfl
      have q4 := box_cell hB.out 4 rfl
      have hsz := size_of hB.out
      have hS0 : (wr.drew.cell? ⟨w.heap.size, 0, none⟩ = some (.slice a1 B.nv c1) ∧ wr.drew.cell? ⟨w.heap.size, 1, none⟩ = some (.slice a2 B.nf c2) ∧ wr.drew.cell? ⟨w.heap.size, 2, none⟩ = some (.slice a3 B.ns c3) ∧ wr.drew.cell? ⟨w.heap.size, 3, none⟩ = some (.int .i64 B.wr) ∧ wr.drew.cell? ⟨w.heap.size, 4, none⟩ = some (.slice af R.n cf) ∧ Hid (Below wr.heap.size wr wr.drew)) := ⟨q0, q1, q2, q3, q4, (Below.refl _ _).drew⟩
      have HS0 : Hid _ := Lib.hid hS0
      by_cases hp : (wrong B R k : Int) ≤ B.wr
      · have HP : Hid (sel (fun s => decide ((wrong B R s : Int) ≤ B.wr)) (k + 1) = sel (fun s => decide ((wrong B R s : Int) ≤ B.wr)) k ++ [(k : Int)]) := sel_hit (by simpa using hp)
        have hsl := sel_len (fun s => decide ((wrong B R s : Int) ≤ B.wr)) k
        generalize sel (fun s => decide ((wrong B R s : Int) ≤ B.wr)) k = t at *
        go_wp2
        go_region_held3 (fun w' => w'.cell? ⟨w.heap.size, 0, none⟩ = some (.slice a1 B.nv c1) ∧ w'.cell? ⟨w.heap.size, 1, none⟩ = some (.slice a2 B.nf c2) ∧ w'.cell? ⟨w.heap.size, 2, none⟩ = some (.slice a3 B.ns c3) ∧ w'.cell? ⟨w.heap.size, 3, none⟩ = some (.int .i64 B.wr) ∧ w'.cell? ⟨w.heap.size, 4, none⟩ = some (.slice af R.n cf) ∧ Hid (Below wr.heap.size wr w')) (assumption)
          (first | (go_at_call 67; refine (wrong_any N _ B R k _ (H.out.chain (chain hB.out (Below.refl _ _).drew)) HG.out hkn).mono ?_; rintro e w1 ⟨rfl, hb1⟩; have S1 := keep5 HS0.out hsz hb1))
        obtain ⟨_, _, _, _, _, hb2⟩ := S1
        have hown1 := own_below ho.out hb2.out
        have hw1 : w.heap.size + 1 ≤ w1.heap.size := by have := hb2.out.size; omega
        go_wp2_with (at_builtin; refine wpList_append_own _ rfl _ _ 22 rfl (w.heap.size + 1) 3 i0 (.int .i64 0) 1 8 Try.underlying22 hi hz0 hz1 hz2 rfl (by decide) _ _ _ rfl (hown1.alloc _) ⟨w1.heap.size, 0, none⟩ 1 1 [.int .i64 k] rfl rfl (cell_one_new _ _ _) (by simp [Value.oneCell']) (by unfold maxLen; omega) (by omega) (by simp; omega) ?_; intro v' w2 hown2 hgrow _)
        go_roundw
        case rel => exact ⟨k + 1, by omega, by go_num, by rw [HP.out]; unfold Hid OwnI; rw [List.length_append, List.map_append]; exact hown2, (Below.alloc (step hB.out (by simp) hb2.out) hw1 _).grown hgrow (by simp; omega) (fun j e => (hown1.lt j e).1)⟩
        case measure => simp [intOf]; omega
      · have HP : Hid (sel (fun s => decide ((wrong B R s : Int) ≤ B.wr)) (k + 1) = sel (fun s => decide ((wrong B R s : Int) ≤ B.wr)) k) := sel_miss (by simpa using hp)
        have hd : decide ((wrong B R k : Int) ≤ B.wr) = false := by simpa using hp
        clear hp
        generalize sel (fun s => decide ((wrong B R s : Int) ≤ B.wr)) k = t at *
        go_wp2
        go_region_held3 (fun w' => w'.cell? ⟨w.heap.size, 0, none⟩ = some (.slice a1 B.nv c1) ∧ w'.cell? ⟨w.heap.size, 1, none⟩ = some (.slice a2 B.nf c2) ∧ w'.cell? ⟨w.heap.size, 2, none⟩ = some (.slice a3 B.ns c3) ∧ w'.cell? ⟨w.heap.size, 3, none⟩ = some (.int .i64 B.wr) ∧ w'.cell? ⟨w.heap.size, 4, none⟩ = some (.slice af R.n cf) ∧ Hid (Below wr.heap.size wr w')) (assumption)
          (first | (go_at_call 67; refine (wrong_any N _ B R k _ (H.out.chain (chain hB.out (Below.refl _ _).drew)) HG.out hkn).mono ?_; rintro e w1 ⟨rfl, hb1⟩; have S1 := keep5 HS0.out hsz hb1))
        obtain ⟨_, _, _, _, _, hb2⟩ := S1
        have HO1 : Hid _ := Lib.hid (own_below ho.out hb2.out)
        clear hS0
        go_wp2
        go_roundw
        case rel => exact ⟨k + 1, by omega, by go_num, by rw [HP.out]; exact HO1.out, step hB.out (by simp) hb2.out⟩
        case measure => simp [intOf]; omega
    · have Hk : Hid (k = B.ns) := by show k = _; omega
      go_wp2
      go_ret
      exact ⟨_, rfl, by unfold sorts; rw [← Hk.out]; exact own_mono ho.out (Nat.le_succ _), below_of hB.out⟩

end Go.Proofs.Ytmmadlpkolcgkaa
