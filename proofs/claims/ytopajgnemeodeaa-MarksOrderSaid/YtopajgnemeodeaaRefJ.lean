/-
  Lists of places: samePlaces.
-/
import Derived.Test.YtopajgnemeodeaaBoxB
import Derived.Test.YtopajgnemeodeaaLaw1
namespace Go.Proofs.Ytopajgnemeodeaa
open Go.RowKit

/-- places in memory -/
def P2At (n : Nat) (w : World) (v : Value) (l : List (Nat × Nat)) : Prop := ∃ ao cap, v = .slice ao l.length cap ∧ l.length ≤ 140737488351232 ∧ (0 < l.length → ∃ b o, ao = some ⟨b, o, none⟩ ∧ b < n ∧
  ∀ i, i < l.length → w.cell? ⟨b, o + i * 2, none⟩ = some (.int .i64 ((l.getD i (0, 0)).1 : Nat)) ∧ w.cell? ⟨b, o + i * 2 + 1, none⟩ = some (.int .i64 ((l.getD i (0, 0)).2 : Nat)))

theorem P2At.mono {n n' : Nat} {w w' : World} {v : Value} {l : List (Nat × Nat)} (h : P2At n w v l) (hB : Below n w w') (hn : n ≤ n') : P2At n' w' v l := by
  obtain ⟨ao, cap, rfl, hl, hc⟩ := h
  refine ⟨ao, cap, rfl, hl, fun h0 => ?_⟩
  obtain ⟨b, o, rfl, hb, hr⟩ := hc h0
  exact ⟨b, o, rfl, Nat.lt_of_lt_of_le hb hn, fun i hi => ⟨(hB.cell (p := ⟨b, o + i * 2, none⟩) hb).trans (hr i hi).1, (hB.cell (p := ⟨b, o + i * 2 + 1, none⟩) hb).trans (hr i hi).2⟩⟩

theorem own_cell2 {W : World} {base g n cap : Nat} {e : TypeId} {xs : List Value} (h : W.ownsRow base e 2 (.slice (some ⟨g, 0, none⟩) n cap) n xs) (j : Nat) {x : Value} (hj : xs[j]? = some x) : W.cell? ⟨g, j, none⟩ = some x := by
  have hl : j < n * 2 := by have := (List.getElem?_eq_some_iff.1 hj).1; rw [h.1] at this; exact this
  rw [World.ownsRow.cellAt h j hl]; exact hj

theorem flat_get (l : List (Nat × Nat)) : ∀ i, i < l.length → (l.flatMap fun p => [Value.int .i64 (p.1 : Int), Value.int .i64 (p.2 : Int)])[i * 2]? = some (.int .i64 ((l.getD i (0, 0)).1 : Nat)) ∧ (l.flatMap fun p => [Value.int .i64 (p.1 : Int), Value.int .i64 (p.2 : Int)])[i * 2 + 1]? = some (.int .i64 ((l.getD i (0, 0)).2 : Nat)) := by
  induction l with
  | nil => intro i hi; cases hi
  | cons p l ih =>
    intro i hi
    cases i with
    | zero => exact ⟨rfl, rfl⟩
    | succ i =>
      have := ih i (by simpa using hi)
      rw [List.flatMap_cons, show (i + 1) * 2 = i * 2 + 1 + 1 by omega]
      exact this

theorem OwnP.places {N : Nat} {w : World} {v : Value} {l : List (Nat × Nat)} (h : OwnP N w v l) (hl : l.length ≤ 140737488351232) : P2At w.heap.size w v l := by
  obtain ⟨h1, ⟨rfl, h2⟩ | ⟨g, cap, cur, rfl, h3, h4, h5⟩⟩ := id h
  · exact ⟨none, 0, by rw [h2], hl, fun h0 => absurd h0 (by omega)⟩
  · exact ⟨_, cap, rfl, hl, fun _ => ⟨g, 0, rfl, (Array.getElem?_eq_some_iff.1 h4).1, fun i hi => by
      have := flat_get l i hi
      exact ⟨by rw [Nat.zero_add]; exact own_cell2 h (i * 2) this.1, by rw [Nat.zero_add]; exact own_cell2 h (i * 2 + 1) this.2⟩⟩⟩

set_option maxHeartbeats 1000000 in
theorem samePlaces_any (N : Nat) (v u : Value) (l : List (Nat × Nat)) (w : World) (h1 : P2At N w v l) (h2 : P2At N w u l) :
    Calls Try.prog 37 #[v, u] w fun e w' => e = .returned (.bool true) ∧ ∃ q, w' = w.drewN q := by
  obtain ⟨ao1, cap1, rfl, hn1, hc1⟩ := h1
  obtain ⟨ao2, cap2, rfl, hn2, hc2⟩ := h2
  go_enter Try.func37, Try.ntmps37
  go_wp2
  go_loopw [5] (fun i wr => ∃ k : Nat, k ≤ l.length ∧ i = .int .i64 k ∧ ∃ q, wr = w.drewN q) (fun i _ => l.length - (intOf i).toNat)
  case atStart => exact ⟨0, Nat.zero_le _, rfl, 0, rfl⟩
  case round =>
    obtain ⟨k, hk, rfl, q, rfl⟩ := hrel
    by_cases hkn : k < l.length
    · obtain ⟨b1, off1, rfl, _, hr1⟩ := hc1 (by omega)
      obtain ⟨q1, q2⟩ := hr1 k hkn
      obtain ⟨b2, off2, rfl, _, hr2⟩ := hc2 (by omega)
      obtain ⟨q3, q4⟩ := hr2 k hkn
      clear hr1 hr2 hc1 hc2
      generalize l.getD k (0, 0) = p at *
      obtain ⟨x, y⟩ := p
      go_wp2
      go_quiet (fail)
      go_wp2
      go_roundw
      case rel => exact ⟨k + 1, by omega, by go_num, _, rfl⟩
      case measure => simp [intOf]; omega
    · go_wp2
      go_ret
      exact ⟨rfl, _, rfl⟩

end Go.Proofs.Ytopajgnemeodeaa
