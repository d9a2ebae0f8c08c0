import Derived.Test.YtmmadlpkolcgkaaListB
namespace Go.Proofs.Ytmmadlpkolcgkaa
open Go.RowKit

/-- what a book says: so many values, numbers of Firm, sorts; of a sort so many lists; of a list so many values -/
structure Bk where
  nv : Nat
  V : Nat → Int
  nf : Nat
  F : Nat → Int
  ns : Nat
  nc : Nat → Nat
  ncc : Nat → Nat → Nat
  can : Nat → Nat → Nat → Int
  wr : Int

structure Fr where
  n : Nat
  L : Nat → Nat
  X : Nat → Nat → Int

def FruitsAt (N : Nat) (w : World) (v : Value) (R : Fr) : Prop := RowsAt N w v R.n R.L R.X

def BookAt (N : Nat) (w : World) (v : Value) (B : Bk) : Prop :=
  N ≤ w.heap.size ∧ ∃ a1 c1 a2 c2 a3 c3, v = .agg #[.slice a1 B.nv c1, .slice a2 B.nf c2, .slice a3 B.ns c3, .int .i64 B.wr] ∧
    IntsAt N w (.slice a1 B.nv c1) B.nv B.V ∧ IntsAt N w (.slice a2 B.nf c2) B.nf B.F ∧ SortsAt N w (.slice a3 B.ns c3) B.ns B.nc B.ncc B.can

theorem BookAt.mono {N N' : Nat} {w w' : World} {v : Value} {B : Bk} (h : BookAt N w v B) (hB : Below N w w') (hN : N ≤ N') (hs : N' ≤ w'.heap.size) : BookAt N' w' v B := by
  obtain ⟨_, a1, c1, a2, c2, a3, c3, rfl, h1, h2, h3⟩ := h
  exact ⟨hs, a1, c1, a2, c2, a3, c3, rfl, h1.mono hB hN, h2.mono hB hN, h3.mono hB hN⟩

theorem below_alloc {N : Nat} {w : World} (h : N ≤ w.heap.size) (o : Obj) : Below N w (w.alloc o) := (Below.refl N w).alloc h o

theorem IntsAt.len {N : Nat} {w : World} {v : Value} {n : Nat} {x : Nat → Int} (h : IntsAt N w v n x) : n ≤ 140737488351232 := by
  obtain ⟨_, _, _, hn, _⟩ := h; exact hn
theorem RowsAt.len {N : Nat} {w : World} {v : Value} {n : Nat} {L : Nat → Nat} {x : Nat → Nat → Int} (h : RowsAt N w v n L x) : n ≤ 140737488351232 := by
  obtain ⟨_, _, _, hn, _⟩ := h; exact hn
theorem SortsAt.len {N : Nat} {w : World} {v : Value} {n : Nat} {L : Nat → Nat} {M : Nat → Nat → Nat} {x : Nat → Nat → Nat → Int} (h : SortsAt N w v n L M x) : n ≤ 140737488351232 := by
  obtain ⟨_, _, _, hn, _⟩ := h; exact hn

set_option maxHeartbeats 400000 in
theorem mwithin_any (a b : Int) (w : World) :
    Calls Try.prog 81 #[.int .i64 a, .int .i64 b] w fun e w' => e = .returned (.bool (decide (0 ≤ a) && decide (a < b))) ∧ w' = w := by
  by_cases h1 : 0 ≤ a
  all_goals
    go_enter Try.func81, Try.ntmps81
    go_wp2
    go_ret
    exact ⟨ret_bool (by first | (simp [h1]; done) | (simp; omega)), rfl⟩

set_option maxHeartbeats 400000 in
theorem isFruit_any (N : Nat) (v : Value) (R : Fr) (y : Int) (w : World) (h : FruitsAt N w v R) :
    Calls Try.prog 60 #[v, .int .i64 y] w fun e w' => e = .returned (.bool (decide (0 ≤ y) && decide (y < R.n))) ∧ w' = w := by
  obtain ⟨ao, cap, rfl, hn, hc⟩ := h
  go_enter Try.func60, Try.ntmps60
  go_wp2_with (go_at_call 86; refine (within_any _ _ _ _).mono ?_; rintro e w' ⟨rfl, rfl⟩)
  go_ret
  exact ⟨ret_bool (by rw [Bool.eq_iff_iff]; simp; omega), rfl⟩

set_option maxHeartbeats 400000 in
theorem isSort_any (N : Nat) (v : Value) (B : Bk) (y : Int) (w : World) (h : BookAt N w v B) :
    Calls Try.prog 54 #[v, .int .i64 y] w fun e w' => e = .returned (.bool (decide (0 ≤ y) && decide (y < B.ns))) ∧ Below w.heap.size w w' := by
  obtain ⟨_, a1, c1, a2, c2, a3, c3, rfl, h1, h2, h3⟩ := h
  have hl := h3.len
  go_enter Try.func54, Try.ntmps54
  go_wp2_with (go_at_call 86; refine (within_any _ _ _ _).mono ?_; rintro e w' ⟨rfl, rfl⟩)
  go_ret
  exact ⟨ret_bool (by rw [Bool.eq_iff_iff]; simp; omega), below_alloc (Nat.le_refl _) _⟩

set_option maxHeartbeats 400000 in
theorem isMark_any (N : Nat) (v : Value) (B : Bk) (y : Int) (w : World) (h : BookAt N w v B) :
    Calls Try.prog 53 #[v, .int .i64 y] w fun e w' => e = .returned (.bool (decide (0 ≤ y) && decide (y < B.nv))) ∧ Below w.heap.size w w' := by
  obtain ⟨_, a1, c1, a2, c2, a3, c3, rfl, h1, h2, h3⟩ := h
  have hl := h1.len
  go_enter Try.func53, Try.ntmps53
  go_wp2_with (go_at_call 86; refine (within_any _ _ _ _).mono ?_; rintro e w' ⟨rfl, rfl⟩)
  go_ret
  exact ⟨ret_bool (by rw [Bool.eq_iff_iff]; simp; omega), below_alloc (Nat.le_refl _) _⟩

set_option maxHeartbeats 400000 in
theorem misSort_any (N : Nat) (v : Value) (B : Bk) (y : Int) (w : World) (h : BookAt N w v B) :
    Calls Try.prog 66 #[v, .int .i64 y] w fun e w' => e = .returned (.bool (decide (0 ≤ y) && decide (y < B.ns))) ∧ Below w.heap.size w w' := by
  obtain ⟨_, a1, c1, a2, c2, a3, c3, rfl, h1, h2, h3⟩ := h
  have hl := h3.len
  go_enter Try.func66, Try.ntmps66
  go_wp2_with (go_at_call 81; refine (mwithin_any _ _ _).mono ?_; rintro e w' ⟨rfl, rfl⟩)
  go_ret
  exact ⟨rfl, below_alloc (Nat.le_refl _) _⟩

def inPlace (B : Bk) (R : Fr) (f m : Int) : Bool := decide (0 ≤ f) && decide (f < R.n) && (decide (0 ≤ m) && decide (m < B.nv))

set_option maxHeartbeats 400000 in
theorem isPlace_any (N : Nat) (v u : Value) (B : Bk) (R : Fr) (f m : Int) (w : World) (h : BookAt N w v B) (hf : FruitsAt N w u R) :
    Calls Try.prog 49 #[v, u, .agg #[.int .i64 f, .int .i64 m]] w fun e w' => e = .returned (.bool (inPlace B R f m)) ∧ Below w.heap.size w w' := by
  have hN := h.1
  have hbk : ∀ o o', BookAt N ((w.alloc o).alloc o') v B := fun o o' => h.mono ((below_alloc hN o).alloc (by simp; omega) o') (Nat.le_refl _) (by simp; omega)
  have hfr : ∀ o o', FruitsAt N ((w.alloc o).alloc o') u R := fun o o' => RowsAt.mono hf ((below_alloc hN o).alloc (by simp; omega) o') (Nat.le_refl _)
  obtain ⟨_, a1, c1, a2, c2, a3, c3, rfl, h1, h2, h3⟩ := h
  have HB : Hid _ := Lib.hid hbk
  have HF : Hid _ := Lib.hid hfr
  clear hbk hfr
  have fin : ∀ b : Bool, Hid ((decide (0 ≤ f) && decide (f < (R.n : Int))) = b) → True := fun _ _ => trivial
  cases hfb : (decide (0 ≤ f) && decide (f < (R.n : Int))) with
  | true =>
    have HFB : Hid _ := Lib.hid hfb
    clear hfb
    go_enter Try.func49, Try.ntmps49
    go_wp2_with (first
      | (go_at_call 60; refine (isFruit_any N _ R _ _ (HF.out _ _)).mono ?_; rintro e w' ⟨rfl, rfl⟩; rw [HFB.out])
      | (go_at_call 53; refine (isMark_any N _ B _ _ (HB.out _ _)).mono ?_; rintro e w' ⟨rfl, hb⟩))
    go_ret
    exact ⟨ret_bool (by simp only [inPlace, HFB.out, Bool.true_and]), ((below_alloc (Nat.le_refl _) _).alloc (by simp) _).trans (Below.mono (by assumption) (by simp; omega))⟩
  | false =>
    have HFB : Hid _ := Lib.hid hfb
    clear hfb
    go_enter Try.func49, Try.ntmps49
    go_wp2_with (first
      | (go_at_call 60; refine (isFruit_any N _ R _ _ (HF.out _ _)).mono ?_; rintro e w' ⟨rfl, rfl⟩; rw [HFB.out]))
    go_ret
    exact ⟨ret_bool (by simp only [inPlace, HFB.out, Bool.false_and]), ((below_alloc (Nat.le_refl _) _).alloc (by simp) _)⟩

end Go.Proofs.Ytmmadlpkolcgkaa
