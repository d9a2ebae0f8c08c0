/-
  Fun: within, in, the same numbers, of the reference.
  JOwn: a show in memory of the call's own: rows of points that are written one by one.
  JMem: copies of rows of points and of plates.
-/
import Derived.Test.YtffnlimgjnhmpaaJBase
import Derived.ArgAppend
import Derived.Laws.ResultCell
import Derived.Laws.Rows
import Derived.Deep.WholeRow
import Derived.Deep.DeepCutAuto
import Derived.Deep.CutBlock
import Derived.Outline
import Derived.Deep.DeepMust
namespace Go.Proofs.Ytffnlimgjnhmpaa
open Go.RowKit

set_option maxHeartbeats 400000 in
theorem within_any (a b c : Int) (w : World) :
    Calls Try.prog 61 #[.int .i64 a, .int .i64 b, .int .i64 c] w fun e w' => e = .returned (.bool (decide (b ≤ a) && decide (a ≤ c))) ∧ w' = w := by
  by_cases h1 : b ≤ a
  all_goals
    go_enter Try.func61, Try.ntmps61
    go_wp2
    go_ret
    exact ⟨ret_bool (by first | (simp [h1]; done) | (simp; omega)), rfl⟩

set_option maxHeartbeats 400000 in
theorem in_any (N : Nat) (v : Value) (n : Nat) (x : Nat → Int) (y : Int) (w : World) (h : IntsAt N w v n x) :
    Calls Try.prog 33 #[v, .int .i64 y] w fun e w' => e = .returned (.bool (anyB n fun i => decide (x i = y))) ∧ w' = w := by
  obtain ⟨ao, cap, rfl, hn, hc⟩ := h
  go_enter Try.func33, Try.ntmps33
  go_wp2
  go_loop [5] (fun i => ∃ k : Nat, k ≤ n ∧ i = .int .i64 k ∧ Hid (∀ j, j < k → x j ≠ y)) (fun i => n - (intOf i).toNat)
  case atStart => exact ⟨0, Nat.zero_le _, rfl, fun j hj => absurd hj (Nat.not_lt_zero j)⟩
  case round =>
    obtain ⟨k, hk, rfl, hj⟩ := hrel
    by_cases hkn : k < n
    · obtain ⟨b, off, rfl, _, hr⟩ := hc (by omega)
      obtain ⟨r, hcell, rfl⟩ := hr k hkn
      clear hr hc
      by_cases hxy : x k = y
      · have hb : (x k == y) = true := by simp [hxy]
        have H : Hid (x k = y) := hxy
        clear hxy
        go_wp2
        go_ret
        exact ⟨ret_bool (Eq.symm (anyB_true.2 ⟨k, hkn, by simp [H.out]⟩)), rfl⟩
      · have hb : (x k == y) = false := by simp [hxy]
        have H : Hid (x k ≠ y) := hxy
        clear hxy
        go_wp2
        go_round
        case rel => exact ⟨k + 1, by omega, by go_num, fun j hjk => by
          rcases Nat.lt_succ_iff_lt_or_eq.1 hjk with h | h
          · exact hj.out j h
          · rw [h]; exact H.out⟩
        case measure => simp [intOf]; omega
    · go_wp2
      go_ret
      exact ⟨ret_bool (Eq.symm (anyB_false.2 fun i hi => by simp [hj.out i (by omega)])), rfl⟩

/-- the same lists of numbers? -/
def sameI (n : Nat) (x : Nat → Int) (m : Nat) (y : Nat → Int) : Bool := decide (n = m) && allB n fun i => decide (x i = y i)

set_option maxHeartbeats 400000 in
theorem sameInts_any (N : Nat) (v u : Value) (n m : Nat) (x y : Nat → Int) (w : World) (h1 : IntsAt N w v n x) (h2 : IntsAt N w u m y) :
    Calls Try.prog 40 #[v, u] w fun e w' => e = .returned (.bool (sameI n x m y)) ∧ ∃ q, w' = w.drewN q := by
  obtain ⟨ao1, cap1, rfl, hn1, hc1⟩ := h1
  obtain ⟨ao2, cap2, rfl, hn2, hc2⟩ := h2
  by_cases hnm : n = m
  · subst hnm
    go_enter Try.func40, Try.ntmps40
    go_wp2
    go_loopw [5] (fun i wr => ∃ k : Nat, k ≤ n ∧ i = .int .i64 k ∧ Hid (∀ j, j < k → x j = y j) ∧ ∃ q, wr = w.drewN q) (fun i _ => n - (intOf i).toNat)
    case atStart => exact ⟨0, Nat.zero_le _, rfl, fun j hj => absurd hj (Nat.not_lt_zero j), 0, rfl⟩
    case round =>
      obtain ⟨k, hk, rfl, hj, q, rfl⟩ := hrel
      by_cases hkn : k < n
      · obtain ⟨b1, off1, rfl, _, hr1⟩ := hc1 (by omega)
        obtain ⟨r1, hcell1, rfl⟩ := hr1 k hkn
        obtain ⟨b2, off2, rfl, _, hr2⟩ := hc2 (by omega)
        obtain ⟨r2, hcell2, rfl⟩ := hr2 k hkn
        clear hr1 hr2 hc1 hc2
        by_cases hxy : x k = y k
        · have hb : (x k != y k) = false := by simp [hxy]
          have H : Hid (x k = y k) := hxy
          clear hxy
          go_wp2
          go_quiet (fail)
          go_wp2
          go_roundw
          case rel => exact ⟨k + 1, by omega, by go_num, fun j hjk => by
            rcases Nat.lt_succ_iff_lt_or_eq.1 hjk with h | h
            · exact hj.out j h
            · rw [h]; exact H.out, _, rfl⟩
          case measure => simp [intOf]; omega
        · have hb : (x k != y k) = true := by simp [hxy]
          have H : Hid (x k ≠ y k) := hxy
          clear hxy
          go_wp2
          go_quiet (fail)
          go_wp2
          go_ret
          exact ⟨ret_bool (Eq.symm (by simp only [sameI, decide_true, Bool.true_and]; exact allB_false.2 ⟨k, hkn, by simp [H.out]⟩)), _, World.drewN_drewN _ _ _⟩
      · go_wp2
        go_ret
        exact ⟨ret_bool (Eq.symm (by simp only [sameI, decide_true, Bool.true_and]; exact allB_true.2 fun i hi => by simp [hj.out i (by omega)])), _, rfl⟩
  · have hne : ((n : Int) != (m : Int)) = true := by simp; omega
    have H : Hid (n ≠ m) := hnm
    clear hnm
    go_enter Try.func40, Try.ntmps40
    go_wp2
    go_ret
    exact ⟨ret_bool (by simp [sameI, H.out]), 0, rfl⟩


end Go.Proofs.Ytffnlimgjnhmpaa

namespace Go.Proofs.Ytffnlimgjnhmpaa
open Go.RowKit

theorem heap_lt {W : World} {b : Nat} {o : Obj} (h : W.heap[b]? = some o) : b < W.heap.size := (Array.getElem?_eq_some_iff.1 h).1
theorem types_ne {W : World} {g g' : Nat} {cur cur' : Array Value} {T T' : TypeId} (h : W.heap[g]? = some (.cells cur T)) (h' : W.heap[g']? = some (.cells cur' T')) (hT : T ≠ T') : g ≠ g' := fun e => by
  rw [e, h'] at h
  injection h with h
  injection h with _ ht
  exact hT ht.symm

/-- numbers in a block of the call's own, from lo on -/
def RI (lo : Nat) (W : World) (v : Value) (l : List Int) : Prop :=
  (l = [] ∧ ∃ a c, v = .slice a 0 c) ∨ (0 < l.length ∧ ∃ g cap cur, v = .slice (some ⟨g, 0, none⟩) l.length cap ∧ lo ≤ g ∧ l.length ≤ cap ∧ W.heap[g]? = some (.cells cur 3) ∧ ∀ i, i < l.length → cur[i]? = some (.int .i64 (l.getD i 0)))
theorem RI.form {lo : Nat} {W : World} {v : Value} {l : List Int} (h : RI lo W v l) : ∃ a c, v = .slice a l.length c := by
  rcases h with ⟨rfl, a, c, rfl⟩ | ⟨_, g, cap, cur, rfl, _⟩
  · exact ⟨a, c, rfl⟩
  · exact ⟨_, _, rfl⟩
theorem RI.ints {lo : Nat} {W : World} {v : Value} {l : List Int} (h : RI lo W v l) (hl : l.length ≤ 1000) : IntsAt W.heap.size W v l.length (fun i => l.getD i 0) := by
  rcases h with ⟨rfl, a, c, rfl⟩ | ⟨h0, g, cap, cur, rfl, h1, h2, h3, h4⟩
  · exact ⟨a, c, rfl, by simp, fun h => absurd h (Nat.lt_irrefl 0)⟩
  · exact ⟨_, cap, rfl, by omega, fun _ => ⟨g, 0, rfl, heap_lt h3, fun i hi => ⟨_, by rw [Nat.zero_add]; exact cell_blk h3 _ (h4 i hi), rfl⟩⟩⟩
/-- the block of a list -/
def blockOf : Value → Option Nat
  | .slice (some a) _ _ => some a.block
  | _ => none
theorem RI.keep {lo : Nat} {W W' : World} {v : Value} {l : List Int} (h : RI lo W v l) (hk : ∀ g, blockOf v = some g → lo ≤ g → g < W.heap.size → W'.heap[g]? = W.heap[g]?) : RI lo W' v l := by
  rcases h with h | ⟨h0, g, cap, cur, rfl, h1, h2, h3, h4⟩
  · exact .inl h
  · exact .inr ⟨h0, g, cap, cur, rfl, h1, h2, (hk g rfl h1 (heap_lt h3)).trans h3, h4⟩
theorem RI.lower {lo lo' : Nat} {W : World} {v : Value} {l : List Int} (h : RI lo W v l) (hl : lo' ≤ lo) : RI lo' W v l := by
  rcases h with h | ⟨h0, g, cap, cur, rfl, h1, h2⟩
  · exact .inl h
  · exact .inr ⟨h0, g, cap, cur, rfl, Nat.le_trans hl h1, h2⟩
theorem RI.of_own {lo : Nat} {W : World} {v : Value} {l : List Int} (h : W.ownsRow lo 3 1 v l.length (l.map (Value.int .i64))) : RI lo W v l := by
  obtain ⟨_, ⟨rfl, h2⟩ | ⟨g, cap, cur, rfl, h3, h4, h5, h6, h7, h8⟩⟩ := h
  · exact .inl ⟨List.length_eq_zero_iff.1 h2, none, 0, rfl⟩
  · rcases Nat.eq_zero_or_pos l.length with h0 | h0
    · exact .inl ⟨List.length_eq_zero_iff.1 h0, _, _, by rw [h0]⟩
    · refine .inr ⟨h0, g, cap, cur, rfl, h3, h5, h4, fun i hi => ?_⟩
      have g1 : (l.map (Value.int .i64))[i]? = some (.int .i64 (l.getD i 0)) := by
        rw [List.getElem?_map, List.getElem?_eq_getElem hi]; simp [List.getD, List.getElem?_eq_getElem hi]
      rw [← h8, List.getElem?_take_of_lt (by omega), Array.getElem?_toList] at g1
      exact g1
/-- one number is another one -/
theorem RI.set {lo : Nat} {W : World} {g n cap : Nat} {l : List Int} (h : RI lo W (.slice (some ⟨g, 0, none⟩) n cap) l) {k : Nat} (hk : k < l.length) (x : Int) : RI lo (W.setCell ⟨g, k, none⟩ (.int .i64 x)) (.slice (some ⟨g, 0, none⟩) n cap) (l.set k x) := by
  rcases h with ⟨h0, _⟩ | ⟨h0, g', cap', cur, e, h1, h2, h3, h4⟩
  · subst h0; cases hk
  · cases e
    refine .inr ⟨by rw [List.length_set]; exact h0, g, cap, _, by rw [List.length_set], h1, by rw [List.length_set]; exact h2, blk_set h3 k _, fun i hi => ?_⟩
    rw [List.length_set] at hi
    have k1 := h4 i hi
    have hs : k < cur.size := (Array.getElem?_eq_some_iff.1 (h4 k hk)).1
    rw [Array.getElem?_setIfInBounds]
    by_cases e : k = i
    · subst e
      rw [if_pos rfl, if_pos hs]
      simp [List.getD, hk]
    · rw [if_neg e, k1]
      simp [List.getD, List.getElem?_set, e]
theorem RI.at {lo : Nat} {W : World} {g n cap : Nat} {l : List Int} (h : RI lo W (.slice (some ⟨g, 0, none⟩) n cap) l) (h0 : 0 < l.length) : g < W.heap.size ∧ lo ≤ g ∧ (∀ i, i < l.length → W.cell? ⟨g, i, none⟩ = some (.int .i64 (l.getD i 0))) ∧ (∀ i, W.frozen? ⟨g, i, none⟩ = false) ∧ ∃ cur : Array Value, W.heap[g]? = some (.cells cur 3) := by
  rcases h with ⟨h1, _⟩ | ⟨_, g', cap', cur, e, h1, h2, h3, h4⟩
  · subst h1; cases h0
  · cases e
    exact ⟨heap_lt h3, h1, fun i hi => cell_blk h3 _ (h4 i hi), fun i => free_blk h3 i, cur, h3⟩
theorem RI.addr {lo : Nat} {W : World} {a : Option Addr} {n cap : Nat} {l : List Int} (h : RI lo W (.slice a n cap) l) (h0 : 0 < l.length) : ∃ g, a = some ⟨g, 0, none⟩ ∧ n = l.length := by
  rcases h with ⟨h1, _⟩ | ⟨_, g', cap', cur, e, _⟩
  · subst h1; cases h0
  · cases e; exact ⟨_, rfl, rfl⟩

/-- the plates of a show in a block of the call's own, each row of points in a block of its own -/
structure OwnP (lo : Nat) (W : World) (TP : TypeId) (v : Value) (np : Nat) (sz : Nat → Int) (rv : Nat → Value) (pts : Nat → List Int) : Prop where
  row : ∀ i, i < np → RI lo W (rv i) (pts i)
  apart : ∀ i j, i < np → j < np → i ≠ j → ∀ g, blockOf (rv i) = some g → 0 < (pts i).length → blockOf (rv j) = some g → (pts j).length = 0
  body : (np = 0 ∧ ∃ a c, v = .slice a 0 c) ∨ (0 < np ∧ ∃ g cap cur, v = .slice (some ⟨g, 0, none⟩) np cap ∧ lo ≤ g ∧ np ≤ cap ∧ W.heap[g]? = some (.cells cur TP) ∧ ∀ i, i < np → cur[i * 2]? = some (.int .i64 (sz i)) ∧ cur[i * 2 + 1]? = some (rv i))
theorem OwnP.form {lo : Nat} {W : World} {TP : TypeId} {v : Value} {np : Nat} {sz : Nat → Int} {rv : Nat → Value} {pts : Nat → List Int} (h : OwnP lo W TP v np sz rv pts) : ∃ a c, v = .slice a np c := by
  rcases h.body with ⟨rfl, a, c, rfl⟩ | ⟨_, g, cap, cur, rfl, _⟩
  · exact ⟨a, c, rfl⟩
  · exact ⟨_, _, rfl⟩
/-- a number of a row is another one -/
theorem OwnP.point {lo : Nat} {W : World} {TP : TypeId} {v : Value} {np : Nat} {sz : Nat → Int} {rv : Nat → Value} {pts : Nat → List Int} (h : OwnP lo W TP v np sz rv pts) (hT : TP ≠ 3) {i k : Nat} (hi : i < np) (hk : k < (pts i).length) (x : Int) {g n cap : Nat} (hg : rv i = .slice (some ⟨g, 0, none⟩) n cap) :
    OwnP lo (W.setCell ⟨g, k, none⟩ (.int .i64 x)) TP v np sz rv (fun j => if j = i then (pts j).set k x else pts j) := by
  have hrow := h.row i hi
  rw [hg] at hrow
  obtain ⟨hgw, hlg, _, _, curg, hcg⟩ := hrow.at (by omega)
  have hoth : ∀ b, b ≠ g → (W.setCell ⟨g, k, none⟩ (.int .i64 x)).heap[b]? = W.heap[b]? := fun b hb => Below.heap_setCell _ _ _ _ (by exact hb)
  refine ⟨fun j hj => ?_, fun a b ha hb hab g' h1 h2 h3 => ?_, ?_⟩
  · by_cases e : j = i
    · subst e
      simp only [if_true]
      rw [hg]
      exact hrow.set hk x
    · simp only [if_neg e]
      rcases h.row j hj with h0 | ⟨h0, g', cap', cur', ev, h1, h2, h3, h4⟩
      · exact .inl h0
      · refine .inr ⟨h0, g', cap', cur', ev, h1, h2, (hoth g' fun e' => ?_).trans h3, h4⟩
        subst e'
        have := h.apart i j hi hj (fun e' => e e'.symm) g' (by rw [hg]; rfl) (by omega) (by rw [ev]; rfl)
        omega
  · have e1 : (pts a).length = ((fun j => if j = i then (pts j).set k x else pts j) a).length := by
      show _ = (if a = i then (pts a).set k x else pts a).length
      split <;> simp
    have e2 : (pts b).length = ((fun j => if j = i then (pts j).set k x else pts j) b).length := by
      show _ = (if b = i then (pts b).set k x else pts b).length
      split <;> simp
    rw [← e2]
    exact h.apart a b ha hb hab g' h1 (by rw [e1]; exact h2) h3
  · rcases h.body with hb | ⟨h0, gp, cap', cur, rfl, h1, h2, h3, h4⟩
    · exact .inl hb
    · exact .inr ⟨h0, gp, cap', cur, rfl, h1, h2, (hoth gp (types_ne h3 hcg hT)).trans h3, h4⟩

/-- a row of points is another one, in a new block -/
theorem OwnP.newRow {lo : Nat} {W : World} {TP : TypeId} {g np cap : Nat} {sz : Nat → Int} {rv : Nat → Value} {pts : Nat → List Int} (h : OwnP lo W TP (.slice (some ⟨g, 0, none⟩) np cap) np sz rv pts) (hT : TP ≠ 3) {i : Nat} (hi : i < np) {r : Value} {l : List Int} (hr : RI lo W r l)
    (hnew : ∀ b, blockOf r = some b → 0 < l.length → ∀ j, j < np → j ≠ i → blockOf (rv j) = some b → (pts j).length = 0) :
    OwnP lo (W.setCell ⟨g, i * 2 + 1, none⟩ r) TP (.slice (some ⟨g, 0, none⟩) np cap) np sz (fun j => if j = i then r else rv j) (fun j => if j = i then l else pts j) := by
  rcases h.body with ⟨h0, _⟩ | ⟨h0, gp, cap', cur, e, h1, h2, h3, h4⟩
  · omega
  cases e
  have hoth : ∀ b, b ≠ g → (W.setCell ⟨g, i * 2 + 1, none⟩ r).heap[b]? = W.heap[b]? := fun b hb => Below.heap_setCell _ _ _ _ (by exact hb)
  have hk : ∀ {v : Value} {m : List Int}, RI lo W v m → RI lo (W.setCell ⟨g, i * 2 + 1, none⟩ r) v m := fun {v m} hv => by
    rcases hv with h0 | ⟨h0, g', cap', cur', ev, k1, k2, k3, k4⟩
    · exact .inl h0
    · exact .inr ⟨h0, g', cap', cur', ev, k1, k2, (hoth g' (types_ne k3 h3 (fun e => hT e.symm))).trans k3, k4⟩
  refine ⟨fun j hj => ?_, fun a b ha hb hab b' e1 e2 e3 => ?_, .inr ⟨h0, g, cap, _, rfl, h1, h2, blk_set h3 (i * 2 + 1) r, fun j hj => ?_⟩⟩
  · by_cases e : j = i
    · simp only [if_pos e]; exact hk hr
    · simp only [if_neg e]; exact hk (h.row j hj)
  · by_cases ea : a = i
    · have eb : b ≠ i := fun e => hab (ea.trans e.symm)
      simp only [if_pos ea] at e1 e2
      simp only [if_neg eb] at e3 ⊢
      exact hnew b' e1 e2 b hb eb e3
    · by_cases eb : b = i
      · simp only [if_neg ea] at e1 e2
        simp only [if_pos eb] at e3 ⊢
        rcases Nat.eq_zero_or_pos l.length with hl | hl
        · exact hl
        · have := hnew b' e3 hl a ha ea e1
          omega
      · simp only [if_neg ea] at e1 e2
        simp only [if_neg eb] at e3 ⊢
        exact h.apart a b ha hb hab b' e1 e2 e3
  · obtain ⟨k1, k2⟩ := h4 j hj
    have hs : i * 2 + 1 < cur.size := (Array.getElem?_eq_some_iff.1 (h4 i hi).2).1
    rw [Array.getElem?_setIfInBounds, Array.getElem?_setIfInBounds, if_neg (by omega)]
    refine ⟨k1, ?_⟩
    by_cases e : j = i
    · subst e; rw [if_pos rfl, if_pos hs, if_pos rfl]
    · rw [if_neg (by omega), if_neg e]; exact k2
/-- all that the call's own memory holds is kept -/
theorem OwnP.keep {lo : Nat} {W W' : World} {TP : TypeId} {v : Value} {np : Nat} {sz : Nat → Int} {rv : Nat → Value} {pts : Nat → List Int} (h : OwnP lo W TP v np sz rv pts) (hk : ∀ g, lo ≤ g → g < W.heap.size → W'.heap[g]? = W.heap[g]?) : OwnP lo W' TP v np sz rv pts := by
  refine ⟨fun i hi => (h.row i hi).keep fun g _ h1 h2 => hk g h1 h2, h.apart, ?_⟩
  rcases h.body with hb | ⟨h0, g, cap, cur, rfl, h1, h2, h3, h4⟩
  · exact .inl hb
  · exact .inr ⟨h0, g, cap, cur, rfl, h1, h2, (hk g h1 (heap_lt h3)).trans h3, h4⟩
/-- such a show as any function reads it -/
theorem OwnP.show {lo : Nat} {W : World} {TP : TypeId} {a : Option Addr} {c np : Nat} {sz : Nat → Int} {rv : Nat → Value} {pts : Nat → List Int} (h : OwnP lo W TP (.slice a np c) np sz rv pts) (hn : np ≤ 1000) (hl : ∀ i, i < np → (pts i).length ≤ 1000) (J D Z : Int) :
    ShowAt W.heap.size W (.agg #[.int .i64 J, .int .i64 D, .int .i64 Z, .slice a np c]) ⟨J, D, Z, np, sz, pts⟩ := by
  refine ⟨Nat.le_refl _, a, c, rfl, a, c, rfl, by show np ≤ _; omega, ?_, fun h0 => ?_⟩
  · rcases h.body with ⟨e, _⟩ | ⟨_, g, cap, cur, e, h1, h2, _⟩
    · show np ≤ c; omega
    · cases e; exact h2
  · rcases h.body with ⟨e, _⟩ | ⟨_, g, cap, cur, e, h1, h2, h3, h4⟩
    · have h0' : 0 < np := h0
      omega
    · cases e
      refine ⟨g, 0, rfl, heap_lt h3, fun i hi => ?_⟩
      obtain ⟨k1, k2⟩ := h4 i hi
      have hr := h.row i hi
      obtain ⟨ra, rc, er⟩ := hr.form
      refine ⟨by rw [Nat.zero_add]; exact cell_blk h3 _ k1, ra, rc, ?_, ?_, ?_⟩
      · rw [Nat.zero_add]; rw [er] at k2; exact cell_blk h3 _ k2
      · rw [er] at hr
        rcases hr with ⟨e0, _⟩ | ⟨_, g', cap', cur', e', _, k3, _⟩
        · show (pts i).length ≤ rc
          rw [e0]; exact Nat.zero_le _
        · cases e'; exact k3
      · rw [er] at hr
        exact hr.ints (hl i hi)

end Go.Proofs.Ytffnlimgjnhmpaa

namespace Go.Proofs.Ytffnlimgjnhmpaa
open Go.RowKit

theorem Try.infoP : (Try.prog.info? 40).map (fun i => (i.zero, i.size, i.bytes)) = some (some (.agg #[.int .i64 0, .slice none 0 0]), 2, 32) := by kernel_rfl
theorem lt_succ {p : Nat → Bool} {k : Nat} (h : ∀ j, j < k → p j = false) (hk : p k = false) : Hid (∀ j, j < k + 1 → p j = false) := fun j hj => by
  rcases Nat.lt_succ_iff_lt_or_eq.1 hj with h1 | h1
  · exact h j h1
  · rw [h1]; exact hk
theorem getD_map {l : List Int} {i : Nat} (h : i < l.length) : (l.map (Value.int .i64))[i]? = some (.int .i64 (l.getD i 0)) := by
  rw [List.getElem?_map, List.getElem?_eq_getElem h]; simp [List.getD, List.getElem?_eq_getElem h]
theorem add_addr (b off j : Nat) : (⟨b, off, none⟩ : Addr).add j = ⟨b, off + j, none⟩ := by unfold Addr.add; split <;> simp_all

theorem append_zero (w : World) {P : Program} {t ty e : TypeId} {i : TypeInfo} (ht : P.underlying t = some (.slice e)) (hi : P.info? e = some i) (b : Addr) (A : Option Addr) (c : Nat) :
    (Builtin.append_ #[t, t] ty #[.slice (some b) 0 0, .slice A 0 c]).run P w = .ok (.slice (some b) 0 0) w := by
  cases A <;> simp [Builtin.append_, run_underlying ht, sizeOf, typeInfo, hi, Builtin.lenOf, Builtin.firstCells, storeCells, loadCells, loadCellsFrom]

/-- a list of numbers to read -/
def LI (N : Nat) (w : World) (v : Value) (l : List Int) : Prop := IntsAt N w v l.length (fun k => l.getD k 0)

theorem LI.go {N : Nat} {ws wk : World} {v : Value} {l : List Int} (h : LI N ws v l) (hN : N ≤ ws.heap.size) (k : Below ws.heap.size ws wk) : LI N wk v l := IntsAt.go h hN k
theorem LI.mono {N N' : Nat} {w w' : World} {v : Value} {l : List Int} (h : LI N w v l) (hB : Below N w w') (hN : N ≤ N') : LI N' w' v l := IntsAt.mono h hB hN
theorem LI.go1 {N : Nat} {w : World} {v : Value} {l : List Int} (h : LI N w v l) (hN : N ≤ w.heap.size) {o : Obj} : LI N (w.alloc o) v l := h.go hN (below_alloc (Nat.le_refl _) o)
theorem LI.len {N : Nat} {w : World} {v : Value} {l : List Int} (h : LI N w v l) : l.length ≤ 140737488351232 := IntsAt.len h
theorem LI.form {N : Nat} {w : World} {v : Value} {l : List Int} (h : LI N w v l) : ∃ a c, v = .slice a l.length c := by
  obtain ⟨a, c, rfl, _, _⟩ := h; exact ⟨a, c, rfl⟩
theorem LI.cell {N : Nat} {w : World} {a : Option Addr} {m c : Nat} {l : List Int} (h : LI N w (.slice a m c) l) (h0 : 0 < l.length) : ∃ b off, a = some ⟨b, off, none⟩ ∧ b < N ∧ ∀ i, i < l.length → w.cell? ⟨b, off + i, none⟩ = some (.int .i64 (l.getD i 0)) := by
  obtain ⟨_, _, e, _, hc⟩ := h
  cases e
  obtain ⟨b, off, rfl, hb, hr⟩ := hc h0
  exact ⟨b, off, rfl, hb, fun i hi => by obtain ⟨r, h1, rfl⟩ := hr i hi; exact h1⟩
theorem RI.li {lo : Nat} {W : World} {v : Value} {l : List Int} (h : RI lo W v l) (hl : l.length ≤ 1000) : LI W.heap.size W v l := h.ints hl
theorem cloneI_run (N : Nat) (w : World) (g0 : Nat) (A : Option Addr) (m c : Nat) (l : List Int) (hm : m = l.length) (hi : LI N w (.slice A m c) l) (hN : N ≤ w.heap.size) (h40 : m ≤ 1000000) :
    ∃ v' w', (Builtin.append_ #[25, 25] 25 #[.slice (some ⟨g0, 0, none⟩) 0 0, .slice A m c]).run Try.prog w = .ok v' w' ∧ RI w.heap.size w' v' l ∧ Below w.heap.size w w' := by
  subst hm
  obtain ⟨i0, hi0, hz0, hz1, hz2⟩ := info_parts Try.infoInt
  obtain ⟨_, _, e, hm', hc⟩ := hi
  cases e
  rcases Nat.eq_zero_or_pos l.length with h0 | h0
  · rw [h0]
    exact ⟨_, _, append_zero _ Try.underlying25 hi0 _ _ _, .inl ⟨List.length_eq_zero_iff.1 h0, _, _, rfl⟩, Below.refl _ _⟩
  · obtain ⟨b, off, rfl, hb, hr⟩ := hc (by omega)
    obtain ⟨v', w', hrun, hown, hgrow⟩ := run_append_arg_grows (P := Try.prog) w 25 25 3 i0 (.int .i64 0) 1 8 Try.underlying25 hi0 hz0 hz1 hz2 rfl (by decide) ⟨g0, 0, none⟩ 0 0 [] rfl (fun j u hj => by simp at hj)
      ⟨b, off, none⟩ l.length c (l.map (Value.int .i64)) (by simp)
      (fun j u hj => by
        have hjm : j < l.length := by
          have := (List.getElem?_eq_some_iff.1 hj).1
          simpa using this
        obtain ⟨r, h1, rfl⟩ := hr j hjm
        rw [getD_map hjm] at hj
        cases hj
        rw [add_addr]
        exact h1)
      (by omega) (by unfold maxLen; omega) (by omega)
    rw [Nat.zero_add, List.nil_append] at hown
    exact ⟨v', w', hrun, .of_own hown, (Below.refl _ _).grown hgrow (Nat.le_refl _) (fun k e => by cases e)⟩

theorem wp_cloneI (w : World) {o : Oper} {a : Act} {K : Act → World → Prop} {Q : Exit → Act → World → Prop} (s x : Operand)
    (ho : o.op = .call { callee := .builtin .append, args := #[s, x], argTypes := #[25, 25] }) (hty : o.type = 25)
    (N g : Nat) (A : Option Addr) (m c : Nat) (l : List Int) (hm : m = l.length) (hs : a.eval s = .slice (some ⟨g, 0, none⟩) 0 0) (hx : a.eval x = .slice A m c)
    (hi : LI N w (.slice A m c) l) (hN : N ≤ w.heap.size) (h40 : m ≤ 1000000)
    (h : ∀ v' w', RI w.heap.size w' v' l → Below w.heap.size w w' → K (a.put o.dst v') w') : o.wp Try.prog a w K Q := by
  obtain ⟨v', w', hrun, r1, r2⟩ := cloneI_run N w g A m c l hm hi hN h40
  unfold Oper.wp
  simp [execOp, ho, resolve, invoke, builtin, hs, hx, hty, hrun, Result.andThen]
  exact h v' w' r1 r2
theorem wpList_cloneI (w : World) {ops : Array Oper} {rest : List Oper} {o : Oper} {a : Act} {Q : Exit → Act → World → Prop} (hgd : o.guard = none) (s x : Operand)
    (ho : o.op = .call { callee := .builtin .append, args := #[s, x], argTypes := #[25, 25] }) (hty : o.type = 25)
    (N g : Nat) (A : Option Addr) (m c : Nat) (l : List Int) (hm : m = l.length) (hs : a.eval s = .slice (some ⟨g, 0, none⟩) 0 0) (hx : a.eval x = .slice A m c)
    (hi : LI N w (.slice A m c) l) (hN : N ≤ w.heap.size) (h40 : m ≤ 1000000)
    (h : ∀ v' w', RI w.heap.size w' v' l → Below w.heap.size w w' → wpList Try.prog ops Q rest (a.put o.dst v') w') : wpList Try.prog ops Q (o :: rest) a w :=
  wpList_plain hgd fun K hK => wp_cloneI w s x ho hty N g A m c l hm hs hx hi hN h40 fun v' w' r1 r2 => hK _ _ (h v' w' r1 r2)

def plL : Nat → (Nat → Int) → (Nat → Value) → List Value
  | 0, _, _ => []
  | n + 1, x, y => plL n x y ++ [.int .i64 (x n), y n]
theorem plL_len (n : Nat) (x : Nat → Int) (y : Nat → Value) : (plL n x y).length = n * 2 := by
  induction n with
  | zero => rfl
  | succ n ih => simp [plL, ih]; omega
theorem plL_get (n : Nat) (x : Nat → Int) (y : Nat → Value) : ∀ i, i < n → (plL n x y)[i * 2]? = some (.int .i64 (x i)) ∧ (plL n x y)[i * 2 + 1]? = some (y i) := by
  induction n with
  | zero => intro i hi; omega
  | succ n ih =>
    intro i hi
    have hl := plL_len n x y
    unfold plL
    by_cases e : i < n
    · rw [List.getElem?_append_left (by omega), List.getElem?_append_left (by omega)]
      exact ih i e
    · have : i = n := by omega
      subst this
      rw [List.getElem?_append_right (by omega), List.getElem?_append_right (by omega), hl]
      simp
theorem plL_one (n : Nat) (x : Nat → Int) (y : Nat → Value) (hy : ∀ i, i < n → (y i).oneCell' = true) : ∀ u ∈ plL n x y, u.oneCell' = true := by
  induction n with
  | zero => intro u hu; cases hu
  | succ n ih =>
    intro u hu
    rcases List.mem_append.1 hu with h | h
    · exact ih (fun i hi => hy i (by omega)) u h
    · simp at h
      rcases h with rfl | rfl
      · rfl
      · exact hy n (by omega)
theorem plL_cell {W : World} {b off n : Nat} {x : Nat → Int} {y : Nat → Value} (h : ∀ i, i < n → W.cell? ⟨b, off + i * 2, none⟩ = some (.int .i64 (x i)) ∧ W.cell? ⟨b, off + i * 2 + 1, none⟩ = some (y i)) :
    ∀ (j : Nat) (u : Value), (plL n x y)[j]? = some u → W.cell? ((⟨b, off, none⟩ : Addr).add j) = some u := by
  intro j u hj
  have hjl := (List.getElem?_eq_some_iff.1 hj).1
  rw [plL_len] at hjl
  rw [add_addr]
  obtain ⟨h1, h2⟩ := h (j / 2) (by omega)
  obtain ⟨g1, g2⟩ := plL_get n x y (j / 2) (by omega)
  by_cases ev : j % 2 = 0
  · have ej : j / 2 * 2 = j := by omega
    rw [ej] at g1 h1
    rw [g1] at hj
    rw [h1, hj]
  · have ej : j / 2 * 2 + 1 = j := by omega
    rw [ej] at g2
    rw [Nat.add_assoc, ej] at h2
    rw [g2] at hj
    rw [h2, hj]

/-- plates in a block of the call's own, whatever their rows -/
def PK (lo : Nat) (W : World) (v : Value) (np : Nat) (sz : Nat → Int) (rv : Nat → Value) : Prop :=
  (np = 0 ∧ ∃ a c, v = .slice a 0 c) ∨ (0 < np ∧ ∃ g cap cur, v = .slice (some ⟨g, 0, none⟩) np cap ∧ lo ≤ g ∧ np ≤ cap ∧ W.heap[g]? = some (.cells cur 40) ∧ ∀ i, i < np → cur[i * 2]? = some (.int .i64 (sz i)) ∧ cur[i * 2 + 1]? = some (rv i))
theorem PK.of_own {lo : Nat} {W : World} {v : Value} {n : Nat} {x : Nat → Int} {y : Nat → Value} (h : W.ownsRow lo 40 2 v n (plL n x y)) : PK lo W v n x y := by
  obtain ⟨_, ⟨rfl, h2⟩ | ⟨g, cap, cur, rfl, h3, h4, h5, h6, h7, h8⟩⟩ := h
  · exact .inl ⟨h2, none, 0, rfl⟩
  · rcases Nat.eq_zero_or_pos n with h0 | h0
    · exact .inl ⟨h0, _, _, by rw [h0]⟩
    · refine .inr ⟨h0, g, cap, cur, rfl, h3, h5, h4, fun i hi => ?_⟩
      obtain ⟨g1, g2⟩ := plL_get n x y i hi
      rw [← h8, List.getElem?_take_of_lt (by omega), Array.getElem?_toList] at g1 g2
      exact ⟨g1, g2⟩
theorem PK.form {lo : Nat} {W : World} {v : Value} {n : Nat} {x : Nat → Int} {y : Nat → Value} (h : PK lo W v n x y) : ∃ a c, v = .slice a n c := by
  rcases h with ⟨rfl, a, c, rfl⟩ | ⟨h0, g, cap, cur, rfl, _⟩
  · exact ⟨a, c, rfl⟩
  · exact ⟨_, _, rfl⟩
theorem PK.keep {lo : Nat} {W W' : World} {v : Value} {n : Nat} {x : Nat → Int} {y : Nat → Value} (h : PK lo W v n x y) (hk : ∀ g, blockOf v = some g → lo ≤ g → g < W.heap.size → W'.heap[g]? = W.heap[g]?) : PK lo W' v n x y := by
  rcases h with h | ⟨h0, g, cap, cur, rfl, h1, h2, h3, h4⟩
  · exact .inl h
  · exact .inr ⟨h0, g, cap, cur, rfl, h1, h2, (hk g rfl h1 (heap_lt h3)).trans h3, h4⟩
theorem PK.lower {lo lo' : Nat} {W : World} {v : Value} {n : Nat} {x : Nat → Int} {y : Nat → Value} (h : PK lo W v n x y) (hl : lo' ≤ lo) : PK lo' W v n x y := by
  rcases h with h | ⟨h0, g, cap, cur, rfl, h1, h2⟩
  · exact .inl h
  · exact .inr ⟨h0, g, cap, cur, rfl, Nat.le_trans hl h1, h2⟩
/-- the address of the block, and what lies there -/
theorem PK.at {lo : Nat} {W : World} {a : Option Addr} {m c n : Nat} {x : Nat → Int} {y : Nat → Value} (h : PK lo W (.slice a m c) n x y) (h0 : 0 < n) :
    ∃ g, a = some ⟨g, 0, none⟩ ∧ m = n ∧ n ≤ c ∧ lo ≤ g ∧ g < W.heap.size ∧ (∀ i, i < n → W.cell? ⟨g, i * 2, none⟩ = some (.int .i64 (x i)) ∧ W.cell? ⟨g, i * 2 + 1, none⟩ = some (y i)) ∧ (∀ i, W.frozen? ⟨g, i, none⟩ = false) ∧ ∃ cur : Array Value, W.heap[g]? = some (.cells cur 40) := by
  rcases h with ⟨h1, _⟩ | ⟨_, g, cap, cur, e, h1, h2, h3, h4⟩
  · omega
  · cases e
    exact ⟨g, rfl, rfl, h2, h1, heap_lt h3, fun i hi => ⟨cell_blk h3 _ (h4 i hi).1, cell_blk h3 _ (h4 i hi).2⟩, fun i => free_blk h3 i, cur, h3⟩
/-- a row is another one -/
theorem PK.setRow {lo : Nat} {W : World} {g m c n : Nat} {x : Nat → Int} {y : Nat → Value} (h : PK lo W (.slice (some ⟨g, 0, none⟩) m c) n x y) {i : Nat} (hi : i < n) (r : Value) :
    PK lo (W.setCell ⟨g, i * 2 + 1, none⟩ r) (.slice (some ⟨g, 0, none⟩) m c) n x (fun j => if j = i then r else y j) := by
  rcases h with ⟨h0, _⟩ | ⟨h0, gp, cap', cur, e, h1, h2, h3, h4⟩
  · omega
  cases e
  refine .inr ⟨h0, g, c, _, rfl, h1, h2, blk_set h3 (i * 2 + 1) r, fun j hj => ?_⟩
  obtain ⟨k1, k2⟩ := h4 j hj
  have hs : i * 2 + 1 < cur.size := (Array.getElem?_eq_some_iff.1 (h4 i hi).2).1
  rw [Array.getElem?_setIfInBounds, Array.getElem?_setIfInBounds, if_neg (by omega)]
  refine ⟨k1, ?_⟩
  by_cases e : j = i
  · subst e; simp [hs]
  · rw [if_neg (by omega)]; simp only [if_neg e]; exact k2
/-- .. and a size -/
theorem PK.setSize {lo : Nat} {W : World} {g m c n : Nat} {x : Nat → Int} {y : Nat → Value} (h : PK lo W (.slice (some ⟨g, 0, none⟩) m c) n x y) {i : Nat} (hi : i < n) (z : Int) :
    PK lo (W.setCell ⟨g, i * 2, none⟩ (.int .i64 z)) (.slice (some ⟨g, 0, none⟩) m c) n (fun j => if j = i then z else x j) y := by
  rcases h with ⟨h0, _⟩ | ⟨h0, gp, cap', cur, e, h1, h2, h3, h4⟩
  · omega
  cases e
  refine .inr ⟨h0, g, c, _, rfl, h1, h2, blk_set h3 (i * 2) _, fun j hj => ?_⟩
  obtain ⟨k1, k2⟩ := h4 j hj
  have hs : i * 2 < cur.size := (Array.getElem?_eq_some_iff.1 (h4 i hi).1).1
  rw [Array.getElem?_setIfInBounds, Array.getElem?_setIfInBounds]
  constructor
  · by_cases e : j = i
    · subst e; simp [hs]
    · rw [if_neg (by omega)]; simp only [if_neg e]; exact k1
  · rw [if_neg (by omega)]; exact k2

/-- the rows of a list of plates that came in -/
theorem PlatesAt.open {N : Nat} {w : World} {a : Option Addr} {m c : Nat} {S : JB} (h : PlatesAt N w (.slice a m c) S) :
    ∃ (A : Nat → Option Addr) (C : Nat → Nat), S.np ≤ c ∧ m = S.np ∧ (∀ i, i < S.np → (S.pts i).length ≤ C i ∧ LI N w (.slice (A i) (S.pts i).length (C i)) (S.pts i)) ∧
      (0 < S.np → ∃ b off, a = some ⟨b, off, none⟩ ∧ b < N ∧ ∀ i, i < S.np → w.cell? ⟨b, off + i * 2, none⟩ = some (.int .i64 (S.sz i)) ∧ w.cell? ⟨b, off + i * 2 + 1, none⟩ = some (.slice (A i) (S.pts i).length (C i))) := by
  obtain ⟨_, _, e, _, hcap, hc⟩ := id h
  cases e
  rcases Nat.eq_zero_or_pos S.np with h0 | h0
  · exact ⟨fun _ => none, fun _ => 0, hcap, rfl, fun i hi => by omega, fun h => by omega⟩
  · obtain ⟨b, off, rfl, hb, hr⟩ := hc h0
    have hA : ∀ i, ∃ z : Option Addr × Nat, i < S.np → w.cell? ⟨b, off + i * 2 + 1, none⟩ = some (.slice z.1 (S.pts i).length z.2) ∧ (S.pts i).length ≤ z.2 ∧ LI N w (.slice z.1 (S.pts i).length z.2) (S.pts i) := fun i => by
      by_cases hi : i < S.np
      · obtain ⟨_, a, c, h1, h2, h3⟩ := hr i hi
        exact ⟨(a, c), fun _ => ⟨h1, h2, h3⟩⟩
      · exact ⟨(none, 0), fun h => absurd h hi⟩
    refine ⟨fun i => (Classical.choose (hA i)).1, fun i => (Classical.choose (hA i)).2, hcap, rfl, fun i hi => (Classical.choose_spec (hA i) hi).2, fun _ => ⟨b, off, rfl, hb, fun i hi => ⟨(hr i hi).1, (Classical.choose_spec (hA i) hi).1⟩⟩⟩
/-- plates of the call's own whose rows can be read: a show -/
theorem PK.show {lo : Nat} {W : World} {a : Option Addr} {c np : Nat} {sz : Nat → Int} {rv : Nat → Value} {pts : Nat → List Int} (h : PK lo W (.slice a np c) np sz rv) (hn : np ≤ 1000000)
    (hr : ∀ i, i < np → ∃ A C, rv i = .slice A (pts i).length C ∧ (pts i).length ≤ C ∧ LI W.heap.size W (rv i) (pts i)) (J D Z : Int) :
    ShowAt W.heap.size W (.agg #[.int .i64 J, .int .i64 D, .int .i64 Z, .slice a np c]) ⟨J, D, Z, np, sz, pts⟩ := by
  refine ⟨Nat.le_refl _, a, c, rfl, a, c, rfl, by show np ≤ _; omega, ?_, fun h0 => ?_⟩
  · rcases h with ⟨e, _⟩ | ⟨_, g, cap, cur, e, h1, h2, _⟩
    · show np ≤ c; omega
    · cases e; exact h2
  · obtain ⟨g, rfl, _, _, _, hg, hc, _⟩ := h.at h0
    refine ⟨g, 0, rfl, hg, fun i hi => ?_⟩
    obtain ⟨k1, k2⟩ := hc i hi
    obtain ⟨A, C, e, hC, hL⟩ := hr i hi
    rw [e] at hL k2
    exact ⟨by rw [Nat.zero_add]; exact k1, A, C, by rw [Nat.zero_add]; exact k2, hC, hL⟩
/-- .. with rows of their own: a show in memory of the call's own -/
theorem PK.ownP {lo : Nat} {W : World} {v : Value} {np : Nat} {sz : Nat → Int} {rv : Nat → Value} {pts : Nat → List Int} (h : PK lo W v np sz rv) (hr : ∀ i, i < np → RI lo W (rv i) (pts i))
    (ha : ∀ i j, i < np → j < np → i ≠ j → ∀ g, blockOf (rv i) = some g → 0 < (pts i).length → blockOf (rv j) = some g → (pts j).length = 0) : OwnP lo W 40 v np sz rv pts := ⟨hr, ha, h⟩

theorem cloneP_run (N : Nat) (w : World) (g0 : Nat) (A : Option Addr) (m c : Nat) (x : Nat → Int) (y : Nat → Value) (hc : 0 < m → ∃ b off, A = some ⟨b, off, none⟩ ∧ b < N ∧ ∀ i, i < m → w.cell? ⟨b, off + i * 2, none⟩ = some (.int .i64 (x i)) ∧ w.cell? ⟨b, off + i * 2 + 1, none⟩ = some (y i)) (hN : N ≤ w.heap.size) (h40 : m ≤ 1000000) :
    ∃ v' w', (Builtin.append_ #[22, 22] 22 #[.slice (some ⟨g0, 0, none⟩) 0 0, .slice A m c]).run Try.prog w = .ok v' w' ∧ PK w.heap.size w' v' m x y ∧ Below w.heap.size w w' := by
  obtain ⟨i0, hi0, hz0, hz1, hz2⟩ := info_parts Try.infoP
  rcases Nat.eq_zero_or_pos m with h0 | h0
  · subst h0
    exact ⟨_, _, append_zero _ Try.underlying22 hi0 _ _ _, .inl ⟨rfl, _, _, rfl⟩, Below.refl _ _⟩
  · obtain ⟨b, off, rfl, hb, hr⟩ := hc h0
    obtain ⟨v', w', hrun, hown, hgrow⟩ := run_append_arg_grows (P := Try.prog) w 22 22 40 i0 (.agg #[.int .i64 0, .slice none 0 0]) 2 32 Try.underlying22 hi0 hz0 hz1 hz2 rfl (by decide) ⟨g0, 0, none⟩ 0 0 [] rfl (fun j u hj => by simp at hj)
      ⟨b, off, none⟩ m c (plL m x y) (plL_len m x y) (plL_cell hr) (by omega) (by unfold maxLen; omega) (by omega)
    rw [Nat.zero_add, List.nil_append] at hown
    exact ⟨v', w', hrun, .of_own hown, (Below.refl _ _).grown hgrow (Nat.le_refl _) (fun k e => by cases e)⟩
theorem wp_cloneP (w : World) {o : Oper} {a : Act} {K : Act → World → Prop} {Q : Exit → Act → World → Prop} (s x : Operand)
    (ho : o.op = .call { callee := .builtin .append, args := #[s, x], argTypes := #[22, 22] }) (hty : o.type = 22)
    (N g : Nat) (A : Option Addr) (m c : Nat) (X : Nat → Int) (Y : Nat → Value) (hs : a.eval s = .slice (some ⟨g, 0, none⟩) 0 0) (hx : a.eval x = .slice A m c)
    (hc : 0 < m → ∃ b off, A = some ⟨b, off, none⟩ ∧ b < N ∧ ∀ i, i < m → w.cell? ⟨b, off + i * 2, none⟩ = some (.int .i64 (X i)) ∧ w.cell? ⟨b, off + i * 2 + 1, none⟩ = some (Y i)) (hN : N ≤ w.heap.size) (h40 : m ≤ 1000000)
    (h : ∀ v' w', PK w.heap.size w' v' m X Y → Below w.heap.size w w' → K (a.put o.dst v') w') : o.wp Try.prog a w K Q := by
  obtain ⟨v', w', hrun, r1, r2⟩ := cloneP_run N w g A m c X Y hc hN h40
  unfold Oper.wp
  simp [execOp, ho, resolve, invoke, builtin, hs, hx, hty, hrun, Result.andThen]
  exact h v' w' r1 r2
theorem wpList_cloneP (w : World) {ops : Array Oper} {rest : List Oper} {o : Oper} {a : Act} {Q : Exit → Act → World → Prop} (hgd : o.guard = none) (s x : Operand)
    (ho : o.op = .call { callee := .builtin .append, args := #[s, x], argTypes := #[22, 22] }) (hty : o.type = 22)
    (N g : Nat) (A : Option Addr) (m c : Nat) (X : Nat → Int) (Y : Nat → Value) (hs : a.eval s = .slice (some ⟨g, 0, none⟩) 0 0) (hx : a.eval x = .slice A m c)
    (hc : 0 < m → ∃ b off, A = some ⟨b, off, none⟩ ∧ b < N ∧ ∀ i, i < m → w.cell? ⟨b, off + i * 2, none⟩ = some (.int .i64 (X i)) ∧ w.cell? ⟨b, off + i * 2 + 1, none⟩ = some (Y i)) (hN : N ≤ w.heap.size) (h40 : m ≤ 1000000)
    (h : ∀ v' w', PK w.heap.size w' v' m X Y → Below w.heap.size w w' → wpList Try.prog ops Q rest (a.put o.dst v') w') : wpList Try.prog ops Q (o :: rest) a w :=
  wpList_plain hgd fun K hK => wp_cloneP w s x ho hty N g A m c X Y hs hx hc hN h40 fun v' w' r1 r2 => hK _ _ (h v' w' r1 r2)

theorem OwnI.form {N : Nat} {w : World} {v : Value} {l : List Int} (h : OwnI N w v l) : ∃ a c, v = .slice a l.length c := by
  obtain ⟨_, ⟨rfl, h2⟩ | ⟨g, cap, cur, rfl, _⟩⟩ := h
  · exact ⟨none, 0, by rw [h2]⟩
  · exact ⟨_, _, rfl⟩
theorem OwnI.nil (N : Nat) (w : World) : OwnI N w (.slice none 0 0) [] := World.ownsRow_nil _ _ _ _
theorem OwnI.go {N : Nat} {w w' : World} {v : Value} {l : List Int} (h : OwnI N w v l) (hb : Below w.heap.size w w') : OwnI N w' v l := own_below h hb
theorem OwnI.li {N : Nat} {w : World} {v : Value} {l : List Int} (h : OwnI N w v l) (hl : l.length ≤ 1000) : LI w.heap.size w v l := h.ints (by omega)
/-- one number more at the end of a list of the call's own -/
theorem wpList_appI (w : World) {ops : Array Oper} {rest : List Oper} {o : Oper} {a : Act} {Q : Exit → Act → World → Prop} (hgd : o.guard = none) (s x : Operand)
    (ho : o.op = .call { callee := .builtin .append, args := #[s, x], argTypes := #[25, 25] }) (hty : o.type = 25)
    (lo : Nat) (v : Value) (l : List Int) (y : Int) (hO : OwnI lo w v l) (hlo : lo ≤ w.heap.size) (hl : l.length ≤ 1000) (hs : a.eval s = v) (hx : a.eval x = .slice (some ⟨w.heap.size, 0, none⟩) 1 1)
    (h : ∀ v' w', OwnI lo w' v' (l ++ [y]) → Below lo w w' → wpList Try.prog ops Q rest (a.put o.dst v') w') : wpList Try.prog ops Q (o :: rest) a (w.alloc (.cells #[.int .i64 y] 3)) := by
  obtain ⟨i0, hi, hz0, hz1, hz2⟩ := info_parts Try.infoInt
  obtain ⟨a0, c0, rfl⟩ := hO.form
  have hO' : (w.alloc (.cells #[.int .i64 y] 3)).ownsRow lo 3 1 (.slice a0 l.length c0) l.length (l.map (Value.int .i64)) := World.ownsRow.alloc hO _
  refine wpList_append_own _ hgd s x 25 ho lo 3 i0 (.int .i64 0) 1 8 Try.underlying25 hi hz0 hz1 hz2 rfl (by decide) _ _ _ hs hO' ⟨w.heap.size, 0, none⟩ 1 1 [.int .i64 y] hx rfl (cell_one_new _ _ _) (by simp [Value.oneCell']) (by unfold maxLen; omega) (by omega) (by simp; omega) ?_
  intro v' w4 hown4 hgrow _
  exact h v' w4 (by unfold OwnI; rw [List.length_append, List.map_append]; exact hown4) (((Below.refl lo w).alloc hlo _).grown hgrow (by simp; omega) (fun j e => (hO.lt j e).1))
/-- .. and another list stands beside it -/
def Apt (v u : Value) : Prop := ∀ g, v.ownBlock = some g → u.ownBlock ≠ some g
theorem Apt.symm {v u : Value} (h : Apt v u) : Apt u v := fun g h1 h2 => h g h2 h1
theorem wpList_appI2 (w : World) {ops : Array Oper} {rest : List Oper} {o : Oper} {a : Act} {Q : Exit → Act → World → Prop} (hgd : o.guard = none) (s x : Operand)
    (ho : o.op = .call { callee := .builtin .append, args := #[s, x], argTypes := #[25, 25] }) (hty : o.type = 25)
    (lo : Nat) (v : Value) (l : List Int) (y : Int) (u : Value) (m : List Int) (hO : OwnI lo w v l) (hU : OwnI lo w u m) (hA : Apt v u) (hlo : lo ≤ w.heap.size) (hl : l.length ≤ 1000) (hs : a.eval s = v) (hx : a.eval x = .slice (some ⟨w.heap.size, 0, none⟩) 1 1)
    (h : ∀ v' w', OwnI lo w' v' (l ++ [y]) → OwnI lo w' u m → Apt v' u → Below lo w w' → wpList Try.prog ops Q rest (a.put o.dst v') w') : wpList Try.prog ops Q (o :: rest) a (w.alloc (.cells #[.int .i64 y] 3)) := by
  obtain ⟨i0, hi, hz0, hz1, hz2⟩ := info_parts Try.infoInt
  have hO' : (w.alloc (.cells #[.int .i64 y] 3)).ownsRow lo 3 1 v l.length (l.map (Value.int .i64)) := World.ownsRow.alloc hO _
  refine wpList_append_own_at _ hgd s x 25 ho lo 3 i0 (.int .i64 0) 1 8 Try.underlying25 hi hz0 hz1 hz2 rfl (by decide) _ _ _ hs hO' ⟨w.heap.size, 0, none⟩ 1 1 [.int .i64 y] hx rfl (cell_one_new _ _ _) (by simp [Value.oneCell']) (by unfold maxLen; omega) (by omega) (by simp; omega) ?_
  intro v' w4 hown4 hgrow _ hat
  refine h v' w4 (by unfold OwnI; rw [List.length_append, List.map_append]; exact hown4) ?_ ?_ (((Below.refl lo w).alloc hlo _).grown hgrow (by simp; omega) (fun j e => (hO.lt j e).1))
  · have h1 : OwnI lo (w.alloc (.cells #[.int .i64 y] 3)) u m := hU.go (below_alloc (Nat.le_refl _) _)
    obtain ⟨k1, k2 | ⟨g, cap, cur, rfl, k3, k4, k5⟩⟩ := id h1
    · exact ⟨k1, .inl k2⟩
    · exact ⟨k1, .inr ⟨g, cap, cur, rfl, k3, (hgrow.block g (Array.getElem?_eq_some_iff.1 k4).1 (fun e => hA g e.symm rfl)).trans k4, k5⟩⟩
  · intro g hg hb
    rcases hat with e | e
    · rw [e] at hg; exact hA g hg hb
    · rw [e] at hg
      have := (hU.lt g hb).2
      injection hg with hg
      simp at hg
      omega
theorem resShow {fn : Func} {p : Tmp} {T : TypeId} (hf : fn.results = #[.cell p T]) (hT : T = 24) {tmps : Array Value} {W : World} {g : Nat} {t : TypeId} {y0 y1 y2 y3 : Value} (hp : tmps.getD p undef = .pointer (some ⟨g, 0, none⟩))
    (h : W.heap[g]? = some (.cells #[y0, y1, y2, y3] t)) : (results fn tmps).run Try.prog W = .ok (.agg #[y0, y1, y2, y3]) W := by
  subst hT
  exact results_cell_row hf tmps W g t #[y0, y1, y2, y3] (0, 0) _ hp h Try.underlying24 rfl (by kernel_rfl)
theorem resJury {fn : Func} {p : Tmp} (hf : fn.results = #[.cell p 74]) {tmps : Array Value} {W : World} {g : Nat} {t : TypeId} {y0 y1 y2 y3 : Value} (hp : tmps.getD p undef = .pointer (some ⟨g, 0, none⟩))
    (h : W.heap[g]? = some (.cells #[y0, y1, y2, y3] t)) : (results fn tmps).run Try.prog W = .ok (.agg #[y0, y1, y2, y3]) W :=
  results_cell_row hf tmps W g t #[y0, y1, y2, y3] (0, 0) _ hp h Try.underlying74 rfl (by kernel_rfl)
/-- four cells, stored one after another -/
theorem put4o {W : World} {b : Nat} {x0 x1 x2 x3 : Value} {t : TypeId} (h : W.heap[b]? = some (.cells #[x0, x1, x2, x3] t)) (v0 v1 v2 v3 : Value) :
    ∃ W', (((W.setCell ⟨b, 0, none⟩ v0).setCell ⟨b, 1, none⟩ v1).setCell ⟨b, 2, none⟩ v2).setCell ⟨b, 3, none⟩ v3 = W' ∧ W'.heap[b]? = some (.cells #[v0, v1, v2, v3] t) ∧ (∀ k, k ≠ b → W'.heap[k]? = W.heap[k]?) ∧ Below b W W' :=
  ⟨_, rfl, blk_set (blk_set (blk_set (blk_set h 0 v0) 1 v1) 2 v2) 3 v3,
    fun k hk => by rw [Below.heap_setCell _ _ _ _ (by exact hk), Below.heap_setCell _ _ _ _ (by exact hk), Below.heap_setCell _ _ _ _ (by exact hk), Below.heap_setCell _ _ _ _ (by exact hk)],
    ((((Below.refl b W).setCell (p := ⟨b, 0, none⟩) (Nat.le_refl _) v0).setCell (p := ⟨b, 1, none⟩) (Nat.le_refl _) v1).setCell (p := ⟨b, 2, none⟩) (Nat.le_refl _) v2).setCell (p := ⟨b, 3, none⟩) (Nat.le_refl _) v3⟩
theorem put2o {W : World} {b : Nat} {x0 x1 : Value} {t : TypeId} (h : W.heap[b]? = some (.cells #[x0, x1] t)) (v0 v1 : Value) :
    ∃ W', (W.setCell ⟨b, 0, none⟩ v0).setCell ⟨b, 1, none⟩ v1 = W' ∧ W'.heap[b]? = some (.cells #[v0, v1] t) ∧ (∀ k, k ≠ b → W'.heap[k]? = W.heap[k]?) ∧ Below b W W' :=
  ⟨_, rfl, blk_set (blk_set h 0 v0) 1 v1, fun k hk => by rw [Below.heap_setCell _ _ _ _ (by exact hk), Below.heap_setCell _ _ _ _ (by exact hk)],
    ((Below.refl b W).setCell (p := ⟨b, 0, none⟩) (Nat.le_refl _) v0).setCell (p := ⟨b, 1, none⟩) (Nat.le_refl _) v1⟩
theorem set_step {W W0 : World} {g n : Nat} {cs : Array Value} {t : TypeId} (h : W.heap[g]? = some (.cells cs t)) (ho : ∀ b, b ≠ g → W.heap[b]? = W0.heap[b]?) (i : Nat) (v : Value) (hn : n ≤ g) :
    ∃ W', W.setCell ⟨g, i, none⟩ v = W' ∧ W'.heap[g]? = some (.cells (cs.setIfInBounds i v) t) ∧ (∀ b, b ≠ g → W'.heap[b]? = W0.heap[b]?) ∧ Below n W W' :=
  ⟨_, rfl, blk_set h i v, fun b hb => (Below.heap_setCell _ _ _ _ (by exact hb)).trans (ho b hb), (Below.refl n W).setCell (p := ⟨g, i, none⟩) hn v⟩

end Go.Proofs.Ytffnlimgjnhmpaa
