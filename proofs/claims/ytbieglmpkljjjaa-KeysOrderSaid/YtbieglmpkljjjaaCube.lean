/-
  Bits: sets of small numbers as bits.
-/
import Derived.Test.YtbieglmpkljjjaaBase
import Derived.Lib.BitFns
import Derived.Lib.Small
import Derived.Test.YtbieglmpkljjjaaPure
import Derived.Test.YtbieglmpkljjjaaIter
import Derived.Deep.RegionHeld
import Derived.OrdersIn
import Derived.RegionIn
namespace Go.Proofs.Ytbieglmpkljjjaa
open Go.RowKit

/-- how many of the numbers below 8 are in a set -/
def many (s : Nat) : Nat := cnt 8 fun i => s.testBit i
/-- one above the greatest number of a set -/
def blen (s : Nat) : Nat := if s = 0 then 0 else Nat.log2 s + 1
/-- a set with one number more -/
def put1 (s i : Nat) : Nat := s ||| 2 ^ i

set_option maxRecDepth 100000 in
theorem onesCount64_any (s : Nat) (hs : s < 256) (w : World) :
    Calls Try.prog 155 #[.int .u64 s] w fun e w' => e = .returned (.int .i64 (many s)) ∧ w' = w := by
  go_enter Try.func155, Try.ntmps155
  go_wp2
  go_ret
  refine ⟨ret_int ?_, rfl⟩
  obtain ⟨t, rfl⟩ : ∃ t : Fin 256, s = t.val := ⟨⟨s, hs⟩, rfl⟩
  clear hs
  revert t
  decide +kernel

theorem blen_all : ∀ t : Fin 256, (Lib.bitLen t.val : Int) = (blen t.val : Nat) := by decide +kernel

set_option maxHeartbeats 4000000 in
set_option maxRecDepth 100000 in
theorem len64_int (x : Int) (w : World) (h0 : 0 ≤ x) (h1 : x ≤ 255) :
    Calls Try.prog 147 #[.int .u64 x] w fun e w' => e = .returned (.int .i64 (Lib.bitLen x.toNat)) ∧ w' = w := by
  go_enter Try.func147, Try.ntmps147
  go_wp2
  all_goals (go_ret; refine ⟨ret_int ?_, rfl⟩)
  all_goals
    obtain ⟨t, rfl⟩ : ∃ t : Fin 256, x = (t.val : Int) := ⟨⟨x.toNat, by omega⟩, by simp; omega⟩
    have all : ∀ t : Fin 256, wrap64 (wrap64 (Lib.len8 (t.val : Int))) = (Lib.bitLen ((t.val : Int)).toNat : Int) := by decide +kernel
    exact all t

theorem len64_any (s : Nat) (hs : s < 256) (w : World) :
    Calls Try.prog 147 #[.int .u64 s] w fun e w' => e = .returned (.int .i64 (blen s)) ∧ w' = w := by
  have h := len64_int (s : Int) w (by omega) (by omega)
  rw [Int.toNat_natCast, blen_all ⟨s, hs⟩] at h
  exact h

theorem onesCount_any (s : Nat) (hs : s < 256) (w : World) :
    Calls Try.prog 141 #[.int .u64 s] w fun e w' => e = .returned (.int .i64 (many s)) ∧ w' = w := by
  go_enter Try.func141, Try.ntmps141
  go_wp2_with (go_at_call 155; refine (onesCount64_any s hs _).mono ?_; rintro e w' ⟨rfl, rfl⟩)
  go_ret
  exact ⟨rfl, rfl⟩
theorem len_any (s : Nat) (hs : s < 256) (w : World) :
    Calls Try.prog 127 #[.int .u64 s] w fun e w' => e = .returned (.int .i64 (blen s)) ∧ w' = w := by
  go_enter Try.func127, Try.ntmps127
  go_wp2_with (go_at_call 147; refine (len64_any s hs _).mono ?_; rintro e w' ⟨rfl, rfl⟩)
  go_ret
  exact ⟨rfl, rfl⟩
theorem setMany_any (s : Nat) (hs : s < 256) (w : World) :
    Calls Try.prog 111 #[.int .u64 s] w fun e w' => e = .returned (.int .i64 (many s)) ∧ w' = w := by
  go_enter Try.func111, Try.ntmps111
  go_wp2_with (go_at_call 141; refine (onesCount_any s hs _).mono ?_; rintro e w' ⟨rfl, rfl⟩)
  go_ret
  exact ⟨rfl, rfl⟩

theorem has_bits : ∀ s : Fin 256, ∀ i : Fin 8, (bits BinOp.and IntKind.u64 ((s.val : Int) / 2 ^ i.val) 1 == 1) = s.val.testBit i.val := by decide +kernel
theorem with_bits : ∀ s : Fin 256, ∀ i : Fin 8, bits BinOp.or IntKind.u64 (s.val : Int) (IntKind.u64.wrap (2 ^ i.val)) = (put1 s.val i.val : Nat) := by decide +kernel
theorem put1_lt {s i : Nat} (hs : s < 256) (hi : i < 8) : put1 s i < 256 := by
  have : ∀ s : Fin 256, ∀ i : Fin 8, put1 s.val i.val < 256 := by decide +kernel
  exact this ⟨s, hs⟩ ⟨i, hi⟩
theorem put1_bit {s i : Nat} (j : Nat) : (put1 s i).testBit j = (s.testBit j || decide (i = j)) := by
  unfold put1; rw [Nat.testBit_or, Nat.testBit_two_pow]
theorem blen_le {s : Nat} (hs : s < 256) : blen s ≤ 8 := by
  have : ∀ s : Fin 256, blen s.val ≤ 8 := by decide +kernel
  exact this ⟨s, hs⟩
theorem blen_bit {s i : Nat} (hs : s < 256) (hi : blen s ≤ i) : s.testBit i = false := by
  unfold blen at hi
  by_cases h0 : s = 0
  · subst h0; simp
  · rw [if_neg h0] at hi
    exact Nat.testBit_lt_two_pow (Nat.lt_of_lt_of_le Nat.lt_log2_self (Nat.pow_le_pow_right (by omega) hi))
theorem set_ext {s t : Nat} (hs : s < 256) (ht : t < 256) (h : ∀ i, i < 8 → s.testBit i = t.testBit i) : s = t := by
  apply Nat.eq_of_testBit_eq
  intro i
  by_cases hi : i < 8
  · exact h i hi
  · rw [Nat.testBit_lt_two_pow (x := s) (Nat.lt_of_lt_of_le hs (by have := Nat.pow_le_pow_right (n := 2) (by omega) (Nat.le_of_not_lt hi); simpa using this)),
      Nat.testBit_lt_two_pow (x := t) (Nat.lt_of_lt_of_le ht (by have := Nat.pow_le_pow_right (n := 2) (by omega) (Nat.le_of_not_lt hi); simpa using this))]

theorem setHas_any (s i : Nat) (hs : s < 256) (hi : i < 8) (w : World) :
    Calls Try.prog 128 #[.int .u64 s, .int .i64 i] w fun e w' => e = .returned (.bool (s.testBit i)) ∧ w' = w := by
  have h := has_bits ⟨s, hs⟩ ⟨i, hi⟩
  have H := Lib.hid h
  clear h
  go_enter Try.func128, Try.ntmps128
  go_wp2
  go_ret
  exact ⟨ret_bool H.out, rfl⟩
theorem setWith_any (s i : Nat) (hs : s < 256) (hi : i < 8) (w : World) :
    Calls Try.prog 110 #[.int .u64 s, .int .i64 i] w fun e w' => e = .returned (.int .u64 (put1 s i : Nat)) ∧ w' = w := by
  have h := with_bits ⟨s, hs⟩ ⟨i, hi⟩
  have H := Lib.hid h
  clear h
  go_enter Try.func110, Try.ntmps110
  go_wp2
  go_ret
  exact ⟨ret_int H.out, rfl⟩

/-- the numbers of a set -/
def elems (s : Nat) : List Int := sel (fun i => s.testBit i) 8
theorem sel_stop {p : Nat → Bool} {a b : Nat} (hab : a ≤ b) (h : ∀ i, a ≤ i → i < b → p i = false) : sel p b = sel p a := by
  induction b with
  | zero => rw [show a = 0 by omega]
  | succ b ih =>
    by_cases e : a = b + 1
    · rw [e]
    · rw [sel_miss (h b (by omega) (by omega)), ih (by omega) (fun i h1 h2 => h i h1 (by omega))]
theorem elems_blen {s : Nat} (hs : s < 256) : sel (fun i => s.testBit i) (blen s) = elems s := (sel_stop (blen_le hs) fun _ h1 _ => blen_bit hs h1).symm

set_option maxHeartbeats 1600000 in
theorem setList_any (s : Nat) (hs : s < 256) (w : World) :
    Calls Try.prog 91 #[.int .u64 s] w (GivesI w.heap.size w (elems s)) := by
  obtain ⟨i0, hi, hz0, hz1, hz2⟩ := info_parts Try.infoInt
  have HE := Lib.hid (elems_blen hs)
  have h8 := blen_le hs
  have HS := Lib.hid hs
  generalize hb : blen s = b at *
  have HBL := Lib.hid hb
  clear hb
  go_enter Try.func91, Try.ntmps91
  go_wp2_with (go_at_call 127; refine (len_any s HS.out _).mono ?_; rintro e wq ⟨rfl, hwq⟩; rw [hwq, HBL.out]; clear hwq wq)
  go_loopw [3, 7] (fun t i wr => ∃ k : Nat, k ≤ b ∧ i = .int .i64 k ∧ Hid (OwnI w.heap.size wr t (sel (fun i => s.testBit i) k)) ∧ Hid (Below w.heap.size w wr)) (fun _ i _ => b - (intOf i).toNat)
  case atStart => exact ⟨0, Nat.zero_le _, rfl, World.ownsRow_nil _ _ _ _, Below.refl _ _⟩
  case round =>
    obtain ⟨k, hk, rfl, ho, HB1⟩ := hrel
    have hs1 := HB1.out.size
    by_cases hkn : k < b
    · have hsl := sel_len (fun i => s.testBit i) k
      have h8k : k < 8 := by omega
      cases hp : s.testBit k with
      | true =>
        have HP : Hid (sel (fun i => s.testBit i) (k + 1) = sel (fun i => s.testBit i) k ++ [(k : Int)]) := sel_hit hp
        have HPP := Lib.hid hp
        clear hp
        generalize sel (fun i => s.testBit i) k = l at *
        have hown := ho.out
        go_wp2_with (first
          | (go_at_call 128; refine (setHas_any s k HS.out h8k _).mono ?_; rintro e wq ⟨rfl, hwq⟩; rw [hwq, HPP.out]; clear hwq wq)
          | (at_builtin; refine wpList_append_own _ rfl _ _ 22 rfl w.heap.size 3 i0 (.int .i64 0) 1 8 Try.underlying22 hi hz0 hz1 hz2 rfl (by decide) _ _ _ rfl (hown.alloc _) ⟨wr.heap.size, 0, none⟩ 1 1 [.int .i64 k] rfl rfl (cell_one_new _ _ _) (by simp [Value.oneCell']) (by unfold maxLen; omega) (by omega) (by simp; omega) ?_; intro v' w4 hown4 hgrow _))
        go_roundw
        case rel => exact ⟨k + 1, by omega, by go_num, by rw [HP.out]; unfold Hid OwnI; rw [List.length_append, List.map_append]; exact hown4, (HB1.out.alloc hs1 _).grown hgrow (by simp; omega) (fun j e => (hown.lt j e).1)⟩
        case measure => simp [intOf]; omega
      | false =>
        have HP : Hid (sel (fun i => s.testBit i) (k + 1) = sel (fun i => s.testBit i) k) := sel_miss hp
        have HPP := Lib.hid hp
        clear hp
        generalize sel (fun i => s.testBit i) k = l at *
        go_wp2_with (go_at_call 128; refine (setHas_any s k HS.out h8k _).mono ?_; rintro e wq ⟨rfl, hwq⟩; rw [hwq, HPP.out]; clear hwq wq)
        go_roundw
        case rel => exact ⟨k + 1, by omega, by go_num, by rw [HP.out]; exact ho, HB1⟩
        case measure => simp [intOf]; omega
    · have Hk : Hid (sel (fun i => s.testBit i) k = elems s) := by unfold Hid; rw [show k = b by omega]; exact HE.out
      go_wp2
      go_ret
      exact ⟨_, rfl, by rw [← Hk.out]; exact ho.out, HB1.out⟩

end Go.Proofs.Ytbieglmpkljjjaa

namespace Go.Proofs.Ytbieglmpkljjjaa

/-- the digits below k: is x at most y, the last one the greatest? -/
def leK : Nat → (Nat → Int) → (Nat → Int) → Prop
  | 0, _, _ => True
  | k + 1, x, y => x k < y k ∨ (x k = y k ∧ leK k x y)

theorem leK_refl (k : Nat) (x : Nat → Int) : leK k x x := by
  induction k with
  | zero => trivial
  | succ k ih => exact .inr ⟨rfl, ih⟩
theorem leK_total (k : Nat) (x y : Nat → Int) : leK k x y ∨ leK k y x := by
  induction k with
  | zero => exact .inl trivial
  | succ k ih =>
    simp only [leK]
    rcases ih with h | h
    · by_cases e : x k ≤ y k
      · left; rcases Int.lt_or_eq_of_le e with h1 | h1
        · exact .inl h1
        · exact .inr ⟨h1, h⟩
      · right; left; omega
    · by_cases e : y k ≤ x k
      · right; rcases Int.lt_or_eq_of_le e with h1 | h1
        · exact .inl h1
        · exact .inr ⟨h1, h⟩
      · left; left; omega
theorem leK_trans {k : Nat} {x y z : Nat → Int} (h : leK k x y) (g : leK k y z) : leK k x z := by
  induction k with
  | zero => trivial
  | succ k ih =>
    rcases h with h | ⟨h, h'⟩
    · rcases g with g | ⟨g, _⟩
      · exact .inl (by omega)
      · exact .inl (by omega)
    · rcases g with g | ⟨g, g'⟩
      · exact .inl (by omega)
      · exact .inr ⟨by omega, ih h' g'⟩
theorem leK_anti {k : Nat} {x y : Nat → Int} (h : leK k x y) (g : leK k y x) : ∀ i, i < k → x i = y i := by
  induction k with
  | zero => intro i hi; omega
  | succ k ih =>
    rcases h with h | ⟨h, h'⟩
    · rcases g with g | ⟨g, _⟩ <;> omega
    · rcases g with g | ⟨g, g'⟩
      · omega
      · intro i hi
        by_cases e : i = k
        · rw [e]; exact h
        · exact ih h' g' i (by omega)
theorem leK_congr {k : Nat} {x x' y y' : Nat → Int} (hx : ∀ i, i < k → x i = x' i) (hy : ∀ i, i < k → y i = y' i) : leK k x y → leK k x' y' := by
  induction k with
  | zero => intro _; trivial
  | succ k ih =>
    rintro (h | ⟨h, h'⟩)
    · exact .inl (by rw [← hx k (by omega), ← hy k (by omega)]; exact h)
    · exact .inr ⟨by rw [← hx k (by omega), ← hy k (by omega)]; exact h, ih (fun i hi => hx i (by omega)) (fun i hi => hy i (by omega)) h'⟩

/-- x is in the cube c, as far as the digits below k go -/
def InC (c V : Nat → Int) (k : Nat) (x : Nat → Int) : Prop := ∀ i, i < k → 0 ≤ x i ∧ x i < V i ∧ (c i ≠ -1 → x i = c i)

def upd (x : Nat → Int) (k : Nat) (v : Int) : Nat → Int := fun i => if i = k then v else x i
/-- the step over the digits below k -/
def stepK (c V : Nat → Int) (x : Nat → Int) : Nat → Bool × (Nat → Int)
  | 0 => (false, x)
  | k + 1 =>
    let r := stepK c V x k
    if r.1 = true then r else if c k ≠ -1 then r else if r.2 k + 1 < V k then (true, upd r.2 k (r.2 k + 1)) else (false, upd r.2 k 0)

theorem stepK_same (c V x : Nat → Int) : ∀ k i, k ≤ i → (stepK c V x k).2 i = x i := by
  intro k
  induction k with
  | zero => intro i _; rfl
  | succ k ih =>
    intro i hi
    simp only [stepK]
    split
    · exact ih i (by omega)
    · split
      · exact ih i (by omega)
      · split
        · have : ¬ i = k := by omega
          simp only [upd, this, if_false]; exact ih i (by omega)
        · have : ¬ i = k := by omega
          simp only [upd, this, if_false]; exact ih i (by omega)

structure StepOk (c V x : Nat → Int) (k : Nat) : Prop where
  inc : InC c V k (stepK c V x k).2
  no : (stepK c V x k).1 = false → (∀ z, InC c V k z → leK k (stepK c V x k).2 z) ∧ (∀ z, InC c V k z → leK k z x)
  yes : (stepK c V x k).1 = true → ¬ leK k (stepK c V x k).2 x ∧ ∀ z, InC c V k z → ¬ leK k z x → leK k (stepK c V x k).2 z

theorem upd_same (x : Nat → Int) (k : Nat) (v : Int) : upd x k v k = v := by simp [upd]
theorem upd_other (x : Nat → Int) {k i : Nat} (v : Int) (h : i ≠ k) : upd x k v i = x i := by simp [upd, h]
theorem InC.less {c V : Nat → Int} {k : Nat} {x : Nat → Int} (h : InC c V (k + 1) x) : InC c V k x := fun i hi => h i (by omega)

theorem stepK_ok {c V x : Nat → Int} : ∀ {k : Nat}, (∀ i, i < k → 1 ≤ V i) → InC c V k x → StepOk c V x k := by
  intro k
  induction k with
  | zero => intro _ _; exact ⟨fun i hi => by omega, fun _ => ⟨fun _ _ => trivial, fun _ _ => trivial⟩, fun h => by simp [stepK] at h⟩
  | succ k ih =>
    intro hV hx
    obtain ⟨h1, h2, h3⟩ := ih (fun i hi => hV i (by omega)) hx.less
    have hs := stepK_same c V x k k (Nat.le_refl _)
    obtain ⟨x0, xV, xc⟩ := hx k (by omega)
    obtain ⟨r, hr⟩ : ∃ r, stepK c V x k = r := ⟨_, rfl⟩
    rw [hr] at h1 h2 h3 hs
    have hdef : stepK c V x (k + 1) = if r.1 = true then r else if c k ≠ -1 then r else if r.2 k + 1 < V k then (true, upd r.2 k (r.2 k + 1)) else (false, upd r.2 k 0) := by
      simp only [stepK, hr]
    have keep : InC c V (k + 1) r.2 := fun i hi => by
      by_cases e : i = k
      · rw [e, hs]; exact ⟨x0, xV, xc⟩
      · exact h1 i (by omega)
    by_cases hb : r.1 = true
    · rw [if_pos hb] at hdef
      constructor
      · rw [hdef]; exact keep
      · rw [hdef]; intro hf; rw [hb] at hf; cases hf
      · rw [hdef]
        intro _
        obtain ⟨a, b⟩ := h3 hb
        refine ⟨fun h => ?_, fun z hz hlt => ?_⟩
        · rcases h with h | ⟨_, h⟩
          · omega
          · exact a h
        · by_cases e : x k < z k
          · exact .inl (by omega)
          · by_cases e2 : z k = x k
            · exact .inr ⟨by omega, b z hz.less fun h => hlt (.inr ⟨e2, h⟩)⟩
            · exact absurd (Or.inl (by omega)) hlt
    · rw [if_neg hb] at hdef
      have hb' : r.1 = false := by cases h : r.1 <;> simp_all
      obtain ⟨a, b⟩ := h2 hb'
      by_cases hc : c k ≠ -1
      · rw [if_pos hc] at hdef
        constructor
        · rw [hdef]; exact keep
        · rw [hdef]
          intro _
          refine ⟨fun z hz => .inr ⟨?_, a z hz.less⟩, fun z hz => .inr ⟨?_, b z hz.less⟩⟩
          · rw [hs, xc hc, (hz k (by omega)).2.2 hc]
          · rw [xc hc, (hz k (by omega)).2.2 hc]
        · rw [hdef]; intro hf; rw [hb'] at hf; cases hf
      · rw [if_neg hc] at hdef
        have hc' : c k = -1 := by omega
        have low : ∀ v i, i < k → upd r.2 k v i = r.2 i := fun v i hi => upd_other _ _ (by omega)
        by_cases hv : r.2 k + 1 < V k
        · rw [if_pos hv] at hdef
          constructor
          · rw [hdef]
            intro i hi
            by_cases e : i = k
            · rw [e]; simp only [upd_same]; exact ⟨by omega, by omega, fun h => absurd hc' h⟩
            · show 0 ≤ upd r.2 k (r.2 k + 1) i ∧ upd r.2 k (r.2 k + 1) i < V i ∧ (c i ≠ -1 → upd r.2 k (r.2 k + 1) i = c i); rw [upd_other r.2 (r.2 k + 1) e]; exact h1 i (by omega)
          · rw [hdef]; intro hf; cases hf
          · rw [hdef]
            intro _
            refine ⟨fun h => ?_, fun z hz hlt => ?_⟩
            · rcases h with h | ⟨h, _⟩ <;> (simp only [upd_same] at h; omega)
            · by_cases e : x k < z k
              · by_cases e2 : x k + 1 < z k
                · exact .inl (by simp only [upd_same]; omega)
                · exact .inr ⟨by simp only [upd_same]; omega, leK_congr (fun i hi => (low _ i hi).symm) (fun _ _ => rfl) (a z hz.less)⟩
              · exfalso
                apply hlt
                by_cases e2 : z k = x k
                · exact .inr ⟨e2, b z hz.less⟩
                · exact .inl (by omega)
        · rw [if_neg hv] at hdef
          constructor
          · rw [hdef]
            intro i hi
            by_cases e : i = k
            · rw [e]; simp only [upd_same]; exact ⟨by omega, by have := hV k (by omega); omega, fun h => absurd hc' h⟩
            · show 0 ≤ upd r.2 k 0 i ∧ upd r.2 k 0 i < V i ∧ (c i ≠ -1 → upd r.2 k 0 i = c i); rw [upd_other r.2 0 e]; exact h1 i (by omega)
          · rw [hdef]
            intro _
            refine ⟨fun z hz => ?_, fun z hz => ?_⟩
            · obtain ⟨z0, _⟩ := hz k (by omega)
              by_cases e : z k = 0
              · exact .inr ⟨by simp only [upd_same]; omega, leK_congr (fun i hi => (low _ i hi).symm) (fun _ _ => rfl) (a z hz.less)⟩
              · exact .inl (by simp only [upd_same]; omega)
            · obtain ⟨_, zV, _⟩ := hz k (by omega)
              by_cases e : z k = x k
              · exact .inr ⟨e, b z hz.less⟩
              · exact .inl (by omega)
          · rw [hdef]; intro hf; cases hf

/-- where the fruits of a cube begin -/
def zeroC (c : Nat → Int) : Nat → Int := fun i => max (c i) 0
theorem zeroC_in {c V : Nat → Int} {k : Nat} (hV : ∀ i, i < k → 1 ≤ V i) (hc : ∀ i, i < k → c i = -1 ∨ (0 ≤ c i ∧ c i < V i)) : InC c V k (zeroC c) := fun i hi => by
  have := hV i hi
  rcases hc i hi with h | ⟨h1, h2⟩
  · unfold zeroC; exact ⟨by omega, by omega, fun h' => absurd h h'⟩
  · unfold zeroC; exact ⟨by omega, by omega, fun _ => by omega⟩
theorem zeroC_least {c V : Nat → Int} {k : Nat} {z : Nat → Int} (hc : ∀ i, i < k → c i = -1 ∨ (0 ≤ c i ∧ c i < V i)) (hz : InC c V k z) : leK k (zeroC c) z := by
  induction k with
  | zero => trivial
  | succ k ih =>
    have h := ih (fun i hi => hc i (by omega)) hz.less
    obtain ⟨z0, _, zc⟩ := hz k (by omega)
    simp only [leK]
    rcases hc k (by omega) with e | ⟨e1, e2⟩
    · by_cases e3 : z k = 0
      · exact .inr ⟨by unfold zeroC; omega, h⟩
      · exact .inl (by unfold zeroC; omega)
    · exact .inr ⟨by rw [zc (by omega)]; unfold zeroC; omega, h⟩

/-- the number of a fruit -/
def codeK : Nat → (Nat → Int) → Nat
  | 0, _ => 0
  | k + 1, x => codeK k x + (x k).toNat * 3 ^ k
theorem codeK_lt {c V x : Nat → Int} : ∀ {k : Nat}, (∀ i, i < k → V i ≤ 3) → InC c V k x → codeK k x < 3 ^ k := by
  intro k
  induction k with
  | zero => intro _ _; simp [codeK]
  | succ k ih =>
    intro hV hx
    have h1 := ih (fun i hi => hV i (by omega)) hx.less
    obtain ⟨a, b, _⟩ := hx k (by omega)
    have h3 := hV k (by omega)
    have h2 : (x k).toNat ≤ 2 := by omega
    have h4 : (x k).toNat * 3 ^ k ≤ 2 * 3 ^ k := Nat.mul_le_mul_right _ h2
    simp only [codeK, Nat.pow_succ]
    omega
theorem codeK_mono {c V x y : Nat → Int} : ∀ {k : Nat}, (∀ i, i < k → V i ≤ 3) → InC c V k x → InC c V k y → ¬ leK k y x → codeK k x < codeK k y := by
  intro k
  induction k with
  | zero => intro _ _ _ h; exact absurd trivial h
  | succ k ih =>
    intro hV hx hy h
    simp only [leK, not_or, not_and] at h
    obtain ⟨h1, h2⟩ := h
    obtain ⟨a, b, _⟩ := hx k (by omega)
    obtain ⟨a', b', _⟩ := hy k (by omega)
    simp only [codeK]
    by_cases e : y k = x k
    · have := ih (fun i hi => hV i (by omega)) hx.less hy.less (h2 e)
      rw [e]; omega
    · have h3 := codeK_lt (fun i hi => hV i (by omega)) hx.less
      have h4 : ((x k).toNat + 1) * 3 ^ k ≤ (y k).toNat * 3 ^ k := Nat.mul_le_mul_right _ (by omega)
      rw [Nat.succ_mul] at h4
      omega
theorem codeK_congr {x y : Nat → Int} : ∀ {k : Nat}, (∀ i, i < k → x i = y i) → codeK k x = codeK k y := by
  intro k
  induction k with
  | zero => intro _; rfl
  | succ k ih => intro h; simp only [codeK]; rw [ih (fun i hi => h i (by omega)), h k (by omega)]

end Go.Proofs.Ytbieglmpkljjjaa

namespace Go.Proofs.Ytbieglmpkljjjaa
open Go.RowKit

/-- the block g holds the numbers x -/
def CellsAt (W : World) (g n : Nat) (x : Nat → Int) : Prop := ∀ i, i < n → W.cell? ⟨g, i, none⟩ = some (.int .i64 (x i)) ∧ W.frozen? ⟨g, i, none⟩ = false
theorem CellsAt.set {W : World} {g n : Nat} {x : Nat → Int} (h : CellsAt W g n x) {k : Nat} (v : Int) : CellsAt (W.setCell ⟨g, k, none⟩ (.int .i64 v)) g n (upd x k v) := fun i hi => by
  obtain ⟨h1, h2⟩ := h i hi
  refine ⟨?_, (World.frozen?_setCell _ _ _ _).trans h2⟩
  by_cases e : i = k
  · subst e; rw [upd_same]; exact World.cell?_setCell_same _ _ _ h1
  · rw [upd_other _ _ e]; exact (World.cell?_setCell_other _ _ _ _ (by simp [e])).trans h1
theorem CellsAt.drew {W : World} {g n : Nat} {x : Nat → Int} (h : CellsAt W g n x) (q : Nat) : CellsAt (W.drewN q) g n x := h
theorem CellsAt.kept {W W' : World} {g n : Nat} {x : Nat → Int} (h : CellsAt W g n x) (k : W'.heap[g]? = W.heap[g]?) : CellsAt W' g n x := fun i hi => by
  obtain ⟨h1, h2⟩ := h i hi
  have e : W'.frozen? ⟨g, i, none⟩ = W.frozen? ⟨g, i, none⟩ := by simp [World.frozen?, k]
  exact ⟨(World.cell?_of_block (w := W) k).trans h1, e.trans h2⟩
theorem CellsAt.congr {W : World} {g n : Nat} {x y : Nat → Int} (h : CellsAt W g n x) (e : ∀ i, i < n → x i = y i) : CellsAt W g n y := fun i hi => by rw [← e i hi]; exact h i hi
theorem grown_setCell (W : World) (g k : Nat) (v : Value) : W.grownBy (W.setCell ⟨g, k, none⟩ v) (some g) :=
  have b : ∀ j, j < W.heap.size → some j ≠ some g → (W.setCell ⟨g, k, none⟩ v).heap[j]? = W.heap[j]? := fun j _ h => Below.heap_setCell _ _ _ _ (by intro e; apply h; rw [e])
  have s := (Below.refl 0 W).setCell (p := ⟨g, k, none⟩) (Nat.zero_le _) v
  ⟨s.os, s.tape, s.output, s.size, b⟩

def cubeV (c : Nat → Int) : Value := .agg #[.int .i64 (c 0), .int .i64 (c 1), .int .i64 (c 2), .int .i64 (c 3), .int .i64 (c 4)]

theorem upd_upd (x : Nat → Int) (k : Nat) (a b : Int) : upd (upd x k a) k b = upd x k b := by
  funext i; unfold upd; split <;> rfl

theorem stepK_stop {c V x : Nat → Int} {k : Nat} (h : (stepK c V x k).1 = true) : ∀ {n : Nat}, k ≤ n → stepK c V x n = stepK c V x k := by
  intro n
  induction n with
  | zero => intro hk; rw [show k = 0 by omega]
  | succ n ih =>
    intro hk
    by_cases e : k = n + 1
    · rw [e]
    · have := ih (by omega)
      simp only [stepK]
      rw [this, if_pos h]

set_option maxHeartbeats 4000000 in
theorem step_any (N : Nat) (c V x : Nat → Int) (n g cap : Nat) (u : Value) (w : World) (hN : N ≤ g) (hg : g < w.heap.size) (hx : CellsAt w g n x) (hu : IntsAt N w u n V) (hn5 : n ≤ 5) (hin : InC c V n x) (hV3 : ∀ i, i < n → V i ≤ 3) :
    Calls Try.prog 140 #[cubeV c, .slice (some ⟨g, 0, none⟩) n cap, u] w fun e w' => e = .returned (.bool (stepK c V x n).1) ∧ CellsAt w' g n (stepK c V x n).2 ∧ w.grownBy w' (some g) := by
  obtain ⟨au, cu, rfl, _, _⟩ := id hu
  unfold cubeV
  obtain ⟨ws, hws, HB, hsz, hblk⟩ := box1 w (.cells #[.int .i64 (c 0), .int .i64 (c 1), .int .i64 (c 2), .int .i64 (c 3), .int .i64 (c 4)] 94)
  have HGR : Hid (w.grownBy ws (some g)) := by unfold Hid; rw [← hws]; exact World.grownBy_alloc _ _ _
  have HU := Lib.hid hu
  have HX : Hid (CellsAt ws g n x) := hx.kept (HB.out.block g hg)
  have HIN := Lib.hid hin
  have HBL := Lib.hid hblk
  have HV3 := Lib.hid hV3
  clear hu hx hin hblk hV3
  go_enter Try.func140, Try.ntmps140
  go_wp2
  clear hws
  go_loopw [10] (fun i wr => ∃ k : Nat, k ≤ n ∧ i = .int .i64 k ∧ Hid ((stepK c V x k).1 = false ∧ CellsAt wr g n (stepK c V x k).2) ∧ Hid (ws.grownBy wr (some g))) (fun i _ => n - (intOf i).toNat)
  case atStart => exact ⟨0, Nat.zero_le _, rfl, ⟨rfl, HX.out⟩, by exact grown_drewN' ws 0 _⟩
  case round =>
    obtain ⟨k, hk, rfl, hst, hgr⟩ := hrel
    by_cases hkn : k < n
    · have hk5 : (k : Int) < 5 := by omega
      have hkb : wr.heap[w.heap.size]? = _ := (hgr.out.block w.heap.size hsz (by simp; omega)).trans HBL.out
      have hck : wr.cell? ⟨w.heap.size, k, none⟩ = some (.int .i64 (c k)) := cell_blk hkb k (by
        rcases k with _ | _ | _ | _ | _ | k <;> first | rfl | omega)
      have hxk := stepK_same c V x k k (Nat.le_refl _)
      have hdef : stepK c V x (k + 1) = if (stepK c V x k).1 = true then stepK c V x k else if c k ≠ -1 then stepK c V x k else if (stepK c V x k).2 k + 1 < V k then (true, upd (stepK c V x k).2 k ((stepK c V x k).2 k + 1)) else (false, upd (stepK c V x k).2 k 0) := rfl
      rw [if_neg (by rw [hst.out.1]; simp)] at hdef
      clear hkb
      by_cases hc : c k = -1
      case neg =>
        have hce : (c k != -1) = true := by simp [hc]
        rw [if_pos hc] at hdef
        have HD := Lib.hid hdef
        clear hdef hc hxk
        go_wp2
        go_roundw
        case rel => exact ⟨k + 1, by omega, by go_num, by rw [HD.out]; exact hst, hgr⟩
        case measure => simp [intOf]; omega
      have hce : (c k != -1) = false := by simp [hc]
      rw [if_neg (by simp [hc])] at hdef
      obtain ⟨hcx, hfx⟩ := hst.out.2 k hkn
      obtain ⟨bv, ov, rfl, hbv, hrv⟩ := HU.out.cells (by omega)
      have hbw : bv < w.heap.size := by omega
      have hcv : wr.cell? ⟨bv, ov + k, none⟩ = some (.int .i64 (V k)) :=
        (World.cell?_of_block (w := ws) (hgr.out.block bv (Nat.lt_of_lt_of_le hbw HB.out.size) (by simp; omega))).trans ((HB.out.cell (p := ⟨bv, ov + k, none⟩) hbw).trans (hrv k hkn))
      obtain ⟨x0, xV, _⟩ := HIN.out k hkn
      have hVk := HV3.out k hkn
      rw [hxk] at hcx hdef
      have HXK := Lib.hid hxk
      clear hrv hxk hc
      have hvg : ∀ v, (wr.setCell ⟨g, k, none⟩ v).cell? ⟨bv, ov + k, none⟩ = some (.int .i64 (V k)) := fun v => (World.cell?_setCell_far _ _ _ _ (by show g ≠ bv; omega)).trans hcv
      have hgg : ∀ v, (wr.setCell ⟨g, k, none⟩ v).cell? ⟨g, k, none⟩ = some v := fun v => World.cell?_setCell_same _ _ _ hcx
      have hgf : ∀ v, (wr.setCell ⟨g, k, none⟩ v).frozen? ⟨g, k, none⟩ = false := fun v => (World.frozen?_setCell _ _ _ _).trans hfx
      generalize x k = y at *
      by_cases hlt : y + 1 < V k
      · rw [if_pos hlt] at hdef
        have HD := Lib.hid hdef
        clear hdef
        go_wp2
        go_quiet (fail)
        go_wp2
        go_ret
        have hst2 : stepK c V x n = stepK c V x (k + 1) := stepK_stop (by rw [HD.out]) (by omega)
        exact ⟨ret_bool (by rw [hst2, HD.out]), by rw [hst2, HD.out]; exact hst.out.2.set _, HGR.out.trans (hgr.out.trans ((grown_setCell _ _ _ _).trans (grown_drewN' _ _ _)))⟩
      · rw [if_neg hlt] at hdef
        have HD := Lib.hid hdef
        have hlt' : V k ≤ y + 1 := by omega
        clear hdef hlt
        go_wp2
        go_quiet (fail)
        go_wp2
        go_roundw
        case rel => exact ⟨k + 1, by omega, by go_num, ⟨by rw [HD.out], by
          rw [HD.out]
          have h1 := (hst.out.2.set (k := k) (y + 1)).set (k := k) 0
          rw [upd_upd] at h1
          exact h1⟩, hgr.out.trans ((grown_setCell _ g k _).trans ((grown_setCell _ g k _).trans (grown_drewN' _ _ _)))⟩
        case measure => simp [intOf]; omega
    · have Hk : Hid (k = n) := by show k = n; omega
      go_wp2
      go_ret
      exact ⟨ret_bool (by rw [← Hk.out, hst.out.1]), by rw [← Hk.out]; have := hst.out.2; rw [← Hk.out] at this; exact this, HGR.out.trans hgr.out⟩

end Go.Proofs.Ytbieglmpkljjjaa

namespace Go.Proofs.Ytbieglmpkljjjaa
open Go.RowKit Go.Shelf

attribute [local go_sem] Oper.semAt_some

theorem addr_add (b off j : Nat) : (⟨b, off, none⟩ : Addr).add j = ⟨b, off + j, none⟩ := by simp [Addr.add]
/-- the first n of x -/
def fromF (n : Nat) (x : Nat → Int) : List Int := (List.range n).map x
theorem fromF_len (n : Nat) (x : Nat → Int) : (fromF n x).length = n := by simp [fromF]

set_option maxHeartbeats 1000000 in
theorem cloneInts_any (N : Nat) (v : Value) (n : Nat) (x : Nat → Int) (w : World) (h : IntsAt N w v n x) (hN : N ≤ w.heap.size) (h0 : 0 < n) (h40 : n ≤ 40) :
    Calls Try.prog 139 #[v] w fun e w' => ∃ g cap, e = .returned (.slice (some ⟨g, 0, none⟩) n cap) ∧ w.heap.size ≤ g ∧ g < w'.heap.size ∧ CellsAt w' g n x ∧ Below w.heap.size w w' := by
  obtain ⟨ao, cap, rfl, hn, hc⟩ := h
  obtain ⟨b, off, rfl, hb, hr⟩ := hc h0
  obtain ⟨i0, hi, hz0, hz1, hz2⟩ := info_parts Try.infoInt
  have hcells : Hid (∀ (W : World), (∀ i, i < n → W.cell? ⟨b, off + i, none⟩ = w.cell? ⟨b, off + i, none⟩) → ∀ (j : Nat) (u : Value), ((fromF n x).map (Value.int .i64))[j]? = some u → W.cell? ((⟨b, off, none⟩ : Addr).add j) = some u) := by
    intro W hW j u hj
    have hjn : j < n := by
      have := (List.getElem?_eq_some_iff.1 hj).1
      simpa [fromF] using this
    obtain ⟨r, h1, rfl⟩ := hr j hjn
    have : u = .int .i64 (x j) := by
      rw [List.getElem?_map] at hj
      simp [fromF, hjn] at hj
      exact hj.symm
    rw [this, addr_add]
    exact (hW j hjn).trans h1
  clear hr hc
  have q22 : ∀ (w : World) (a : Option Addr) (n c n' c' : Nat), (binOp .eql 22 (.slice a n c) (.slice none n' c')).run Try.prog w = .ok (.bool a.isNone) w := fun w a n c n' c' => Lib.run_eql_slice_nil w _ _ a n c n' c' Try.underlying22
  go_enter Try.func139, Try.ntmps139
  go_wp2_with (at_builtin; refine wpList_append_own _ rfl _ _ 22 rfl w.heap.size 3 i0 (.int .i64 0) 1 8 Try.underlying22 hi hz0 hz1 hz2 rfl (by decide) _ _ _ rfl (World.ownsRow_made w #[] 0 (Nat.le_refl _) (Nat.zero_le _) rfl) ⟨b, off, none⟩ n cap ((fromF n x).map (Value.int .i64)) rfl ?qc1 ?qc2 ?qc3 ?qc4 ?qc5 ?qc6 ?_)
  case qc1 => simp [fromF]
  case qc2 => exact hcells.out _ fun i hi => World.cell?_alloc_lt w _ _ (by show b < w.heap.size; omega)
  case qc3 => intro u hu; obtain ⟨x, _, rfl⟩ := List.mem_map.1 hu; rfl
  case qc4 => unfold maxLen; omega
  case qc5 => omega
  case qc6 => simp
  intro v' w1 hown hgrow hnil
  obtain ⟨hl, ⟨rfl, h2⟩ | ⟨g, cap', cur, rfl, hg, hh⟩⟩ := hown
  · omega
  have hrow : w1.ownsRow w.heap.size 3 1 (.slice (some ⟨g, 0, none⟩) n cap') n ((fromF n x).map (Value.int .i64)) := ⟨by simpa using hl, .inr ⟨g, cap', cur, by simp, hg, by simpa using hh⟩⟩
  have HROW := Lib.hid hrow
  have HG : Hid (g < w1.heap.size) := heap_lt hh.1
  clear hrow hh
  go_wp2
  go_ret
  refine ⟨g, cap', by simp, hg, HG.out, fun i hi => ⟨?_, World.ownsRow.frozenAt HROW.out i⟩, ((Below.refl _ w).alloc (Nat.le_refl _) _).grown hgrow (by simp) (by intro k hk; simp [Value.ownBlock] at hk; omega)⟩
  rw [World.ownsRow.cellAt HROW.out i (by omega)]
  simp [fromF, hi]

/-- all blocks of cells but those of Ex are as they were -/
def KeptC (Ex : Nat → Prop) (A B : World) : Prop := A.heap.size ≤ B.heap.size ∧ ∀ k o, A.heap[k]? = some o → o.isCells = true → ¬ Ex k → B.heap[k]? = some o
theorem KeptC.trans {Ex : Nat → Prop} {A B C : World} (h : KeptC Ex A B) (k : KeptC Ex B C) : KeptC Ex A C := ⟨Nat.le_trans h.1 k.1, fun i o hi ho he => k.2 i o (h.2 i o hi ho he) ho he⟩
theorem KeptC.heap {Ex : Nat → Prop} {A B : World} (h : KeptC Ex A B) {k : Nat} {cs : Array Value} {t : TypeId} (hk : A.heap[k]? = some (.cells cs t)) (he : ¬ Ex k) : B.heap[k]? = some (.cells cs t) := h.2 k _ hk rfl he
theorem cells_some {A : World} {a : Addr} {v : Value} (h : A.cell? a = some v) : ∃ o : Obj, A.heap[a.block]? = some o ∧ o.isCells = true := cells_of_cell h
theorem KeptC.cell {Ex : Nat → Prop} {A B : World} (h : KeptC Ex A B) {a : Addr} {v : Value} (ha : A.cell? a = some v) (he : ¬ Ex a.block) : B.cell? a = some v := by
  obtain ⟨o, ho, hc⟩ := cells_of_cell ha
  exact (World.cell?_of_block (w := A) ((h.2 _ o ho hc he).trans ho.symm)).trans ha
theorem KeptC.free {Ex : Nat → Prop} {A B : World} (h : KeptC Ex A B) {a : Addr} {v : Value} (ha : A.cell? a = some v) (he : ¬ Ex a.block) : B.frozen? a = A.frozen? a := by
  obtain ⟨o, ho, hc⟩ := cells_of_cell ha
  have := (h.2 _ o ho hc he).trans ho.symm
  simp [World.frozen?, this]

/-- what a round is told: the list that it gets holds a fruit of the cube -/
def FrG (M nv : Nat) (c V : Nat → Int) (p : Nat × Nat × (Nat → Int)) (W : World) : Prop := M ≤ p.1 ∧ p.1 < W.heap.size ∧ CellsAt W p.1 nv p.2.2 ∧ InC c V nv p.2.2
/-- all fruits of the cube have come -/
def FrAll (nv : Nat) (c V : Nat → Int) (ys : List (Nat × Nat × (Nat → Int))) : Prop := (∀ y ∈ ys, InC c V nv y.2.2) ∧ ∀ z, InC c V nv z → ∃ y ∈ ys, ∀ i, i < nv → y.2.2 i = z i

/-- those up to x have come -/
def FrTo (nv : Nat) (c V : Nat → Int) (x : Nat → Int) (ys : List (Nat × Nat × (Nat → Int))) : Prop := (∀ y ∈ ys, InC c V nv y.2.2) ∧ ∀ z, InC c V nv z → ¬ leK nv x z → ∃ y ∈ ys, ∀ i, i < nv → y.2.2 i = z i
theorem frTo_step {nv : Nat} {c V x y : Nat → Int} {ys : List (Nat × Nat × (Nat → Int))} {g cap : Nat} (h : FrTo nv c V x ys) (hx : InC c V nv x) (hy : ∀ z, InC c V nv z → ¬ leK nv z x → leK nv y z) : FrTo nv c V y (ys ++ [(g, cap, x)]) := by
  refine ⟨fun p hp => ?_, fun z hz hlt => ?_⟩
  · rcases List.mem_append.1 hp with h1 | h1
    · exact h.1 p h1
    · rw [List.mem_singleton.1 h1]; exact hx
  · by_cases e : leK nv x z
    · have e2 : leK nv z x := Classical.byContradiction fun e2 => hlt (hy z hz e2)
      exact ⟨_, List.mem_append.2 (.inr (List.mem_singleton.2 rfl)), leK_anti e e2⟩
    · obtain ⟨p, hp, hq⟩ := h.2 z hz e
      exact ⟨p, List.mem_append.2 (.inl hp), hq⟩
theorem frTo_end {nv : Nat} {c V x : Nat → Int} {ys : List (Nat × Nat × (Nat → Int))} {g cap : Nat} (h : FrTo nv c V x ys) (hx : InC c V nv x) (hy : ∀ z, InC c V nv z → leK nv z x) : FrAll nv c V (ys ++ [(g, cap, x)]) := by
  refine ⟨fun p hp => ?_, fun z hz => ?_⟩
  · rcases List.mem_append.1 hp with h1 | h1
    · exact h.1 p h1
    · rw [List.mem_singleton.1 h1]; exact hx
  · by_cases e : leK nv x z
    · exact ⟨_, List.mem_append.2 (.inr (List.mem_singleton.2 rfl)), leK_anti e (hy z hz)⟩
    · obtain ⟨p, hp, hq⟩ := h.2 z hz e
      exact ⟨p, List.mem_append.2 (.inl hp), hq⟩

theorem slice_cube (Bc nv : Nat) (hnv5 : nv ≤ 5) : ∀ w' : World, (Instr.sliceAt 94 (.pointer (some ⟨Bc, 0, none⟩)) none (some (.int .i64 (nv : Int))) none).run Try.prog w' = .ok (.slice (some ⟨Bc, 0, none⟩) nv 5) w' := fun w' => by
  have hal5 : Try.prog.arrayLen 94 = 5 := by kernel_rfl
  have h1 := run_sliceAt_array_h (P := Try.prog) w' 94 ⟨Bc, 0, none⟩ (by kernel_rfl) .i64 (nv : Int) (by omega) (by rw [hal5]; omega)
  have hs : (sizeOf (Try.prog.elem 94)).run Try.prog w' = .ok 1 w' := by kernel_rfl
  rw [h1, hs]
  simp [Result.andThen, slicedAt, hal5, Addr.add]

def cellI (w : World) (g i : Nat) : Int := intOf ((w.cell? ⟨g, i, none⟩).getD undef)
theorem cellI_eq {W : World} {g n : Nat} {x : Nat → Int} (h : CellsAt W g n x) : ∀ i, i < n → cellI W g i = x i := fun i hi => by
  unfold cellI; rw [(h i hi).1]; rfl
theorem IntsAt.keptC {Ex : Nat → Prop} {N : Nat} {A B : World} {v : Value} {n : Nat} {x : Nat → Int} (h : IntsAt N A v n x) (k : KeptC Ex A B) (hE : ∀ k, k < N → ¬ Ex k) : IntsAt N B v n x := by
  obtain ⟨ao, cap, rfl, hn, hc⟩ := h
  refine ⟨ao, cap, rfl, hn, fun h0 => ?_⟩
  obtain ⟨b, off, rfl, hb, hr⟩ := hc h0
  exact ⟨b, off, rfl, hb, fun i hi => by obtain ⟨r, h1, h2⟩ := hr i hi; exact ⟨r, k.cell h1 (hE b hb), h2⟩⟩
theorem CellsAt.keptC {Ex : Nat → Prop} {A B : World} {g n : Nat} {x : Nat → Int} (h : CellsAt A g n x) (k : KeptC Ex A B) (hE : ¬ Ex g) : CellsAt B g n x := fun i hi => by
  obtain ⟨h1, h2⟩ := h i hi
  exact ⟨k.cell h1 hE, (k.free h1 hE).trans h2⟩

set_option maxRecDepth 100000 in
set_option maxHeartbeats 4000000 in
theorem fruits1_seq (n : Nat) (hn : 1 ≤ n) (Bc Bv N nv : Nat) (c V : Nat → Int) (Ex : Nat → Prop) (Kp : World → World → Prop) (hKp : ∀ A B, Kp A B → KeptC Ex A B)
    (w : World) (av : Option Addr) (cv : Nat) (hcc : w.heap[Bc]? = some (.cells #[.int .i64 (c 0), .int .i64 (c 1), .int .i64 (c 2), .int .i64 (c 3), .int .i64 (c 4)] 94)) (hcv : w.cell? ⟨Bv, 0, none⟩ = some (.slice av nv cv))
    (hV : IntsAt N w (.slice av nv cv) nv V) (hN : N ≤ w.heap.size) (hEc : ¬ Ex Bc) (hEv : ¬ Ex Bv) (hEN : ∀ k, k < N → ¬ Ex k) (hEw : ∀ k, w.heap.size ≤ k → ¬ Ex k) (hnv : 1 ≤ nv) (hnv5 : nv ≤ 5) (hVr : ∀ i, i < nv → 2 ≤ V i ∧ V i ≤ 3) (hcr : ∀ i, i < nv → c i = -1 ∨ (0 ≤ c i ∧ c i < V i)) :
    SeqL Fence.wide n Try.prog 138 #[.pointer (some ⟨Bc, 0, none⟩), .pointer (some ⟨Bv, 0, none⟩)] (fun p : Nat × Nat × (Nat → Int) => #[.slice (some ⟨p.1, 0, none⟩) nv p.2.1]) Kp (fun W A B => Below W.heap.size A B) (FrG w.heap.size nv c V) (FrAll nv c V) (fun _ => True) (fun _ => True) w := by
  intro l J Jx W hW hJa _ hY h0
  have HY := Lib.hid hY
  have HJ := Lib.hid hJa
  have HKp := Lib.hid hKp
  have HVr := Lib.hid hVr
  have HCR := Lib.hid hcr
  have HCC : Hid (W.heap[Bc]? = _) := (hW.block Bc (heap_lt hcc)).trans hcc
  have hcvW : W.cell? ⟨Bv, 0, none⟩ = some (.slice av nv cv) := (hW.cell (p := ⟨Bv, 0, none⟩) (by obtain ⟨o, ho, _⟩ := cells_of_cell hcv; exact heap_lt ho)).trans hcv
  have HCV := Lib.hid hcvW
  have HV := Lib.hid (hV.mono (hW.mono hN) (Nat.le_refl _))
  have HNW : Hid (N ≤ W.heap.size) := Nat.le_trans hN hW.size
  have HEW : Hid (∀ k, W.heap.size ≤ k → ¬ Ex k) := fun k hk => hEw k (Nat.le_trans hW.size hk)
  have HEc := Lib.hid hEc
  have HEv := Lib.hid hEv
  have HEN := Lib.hid hEN
  have hBcW : Bc < W.heap.size := Nat.lt_of_lt_of_le (heap_lt hcc) hW.size
  have HCI : Hid (IntsAt W.heap.size W (.slice (some ⟨Bc, 0, none⟩) nv 5) nv c) :=
    ⟨_, _, rfl, by omega, fun _ => ⟨Bc, 0, rfl, hBcW, fun i hi => ⟨_, cell_blk HCC.out (0 + i) (by rcases i with _ | _ | _ | _ | _ | i <;> first | rfl | omega), rfl⟩⟩⟩
  have HWW : Hid (w.heap.size ≤ W.heap.size) := hW.size
  clear hY hJa hKp hVr hcr hcc hcv hV hEc hEv hEN hEw hW hN
  have hsl := slice_cube Bc nv hnv5
  refine callsIn_of_wp Try.func138 rfl trivial ?_ rfl
  simp only [Try.ntmps138, List.size_toArray, List.length_cons, List.length_nil, Nat.reduceAdd, Nat.reduceSub, Array.replicate_succ, Array.replicate_zero, List.push_toArray, List.append_toArray, List.nil_append, List.cons_append]
  gi_wp2_with (refine ⟨trivial, ?_⟩; gi_at_call 139; refine (callsIn_wide.2 (cloneInts_any _ _ _ _ _ HCI.out (Nat.le_refl _) (by omega) (by omega))).mono ?_; rintro e w1 ⟨g, cap, rfl, hg, hg1, hx, hb1⟩)
  have HX1 := Lib.hid hx
  have HB1 := Lib.hid hb1
  have hsz1 := hb1.size
  clear hx hb1 hsl
  gi_loopw [12] (fun i wr => ∃ k : Nat, k ≤ nv ∧ i = .int .i64 k ∧ Hid (CellsAt wr g nv (fun i => if i < k then zeroC c i else c i)) ∧ Hid (Below W.heap.size W wr ∧ g < wr.heap.size)) (fun i _ => nv - (intOf i).toNat)
  case atStart => exact ⟨0, Nat.zero_le _, rfl, HX1.out.congr fun i _ => by simp, HB1.out, hg1⟩
  case round =>
    obtain ⟨k, hk, rfl, hcs, hbw⟩ := hrel
    by_cases hkn : k < nv
    · have hck : wr.cell? ⟨g, k, none⟩ = some (.int .i64 (c k)) := by
        have := (hcs.out k hkn).1
        simpa using this
      have hfk := (hcs.out k hkn).2
      have HNX : Hid (∀ v : Int, v = zeroC c k → CellsAt (wr.setCell ⟨g, k, none⟩ (.int .i64 v)) g nv (fun i => if i < k + 1 then zeroC c i else c i)) := fun v hv => (hcs.out.set (k := k) v).congr fun i _ => by
        unfold upd
        by_cases e : i = k
        · subst e; simp [hv]
        · by_cases e2 : i < k
          · have : i < k + 1 := by omega
            simp [e, e2, this]
          · have : ¬ i < k + 1 := by omega
            simp [e, e2, this]
      have HBX : Hid (∀ v, Below W.heap.size W (wr.setCell ⟨g, k, none⟩ v) ∧ g < (wr.setCell ⟨g, k, none⟩ v).heap.size) := fun v => ⟨hbw.out.1.setCell (p := ⟨g, k, none⟩) hg _, Nat.lt_of_lt_of_le hbw.out.2 (by simp [World.setCell])⟩
      clear hcs
      rcases HCR.out k hkn with hc | ⟨hc, _⟩
      · have HZ : Hid (0 = zeroC c k) := by unfold Hid zeroC; rw [hc]; rfl
        gi_wp2
        go_roundw
        case rel => exact ⟨k + 1, by omega, by go_num, HNX.out _ HZ.out, HBX.out _⟩
        case measure => simp [intOf]; omega
      · have HZ : Hid (c k = zeroC c k) := by unfold Hid zeroC; omega
        gi_wp2
        go_roundw
        case rel => exact ⟨k + 1, by omega, by go_num, HNX.out _ HZ.out, HBX.out _⟩
        case measure => simp [intOf]; omega
    · have HXZ : Hid (CellsAt wr g nv (zeroC c)) := hcs.out.congr fun i hi => by
        have : i < k := by omega
        simp [this]
      have HBW := hbw
      have HJ0 : Hid (J [] wr) := HJ.out _ _ _ h0 hbw.out.1
      clear hcs hbw
      gi_wp2
      gi_loopw [24] (fun _ wr => ∃ (x : Nat → Int) (pre : List (Nat × Nat × (Nat → Int))), Hid (J pre wr) ∧ Hid (InC c V nv x ∧ FrTo nv c V x pre ∧ CellsAt wr g nv x ∧ g < wr.heap.size) ∧ Hid (KeptC Ex W wr)) (fun _ wr => 3 ^ nv - codeK nv (fun i => cellI wr g i))
      case atStart =>
        exact ⟨zeroC c, [], HJ0.out, ⟨zeroC_in (fun i hi => by have := HVr.out i hi; omega) HCR.out, ⟨(fun y hy => by cases hy), fun z hz hlt => absurd (zeroC_least HCR.out hz) hlt⟩, HXZ.out, HBW.out.2⟩,
          HBW.out.1.size, fun k o hk _ _ => (HBW.out.1.block k (heap_lt hk)).trans hk⟩
      case round =>
        obtain ⟨x, pre, hJs, hx, hkc⟩ := hrel
        have hEg : ¬ Ex g := HEW.out g hg
        obtain ⟨fn, tmps, assign, body, hy, hR⟩ := HY.out pre (g, cap, x) wr hJs.out ⟨Nat.le_trans HWW.out hg, hx.out.2.2.2, hx.out.2.2.1, hx.out.1⟩ trivial
        dsimp only at hy
        have HOK := Lib.hid (stepK_ok (V := V) (fun i hi => by have := HVr.out i hi; omega) hx.out.1)
        cases hb : (stepK c V x nv).1 with
        | false =>
          have HSB := Lib.hid hb
          clear hb
          gi_wp2
          refine hR.mono ?_
          rintro e W3 (⟨rfl, hJ3, hk3⟩ | ⟨rfl, hJx3⟩)
          case inr =>
            gi_wp2
            refine ⟨trivial, ?_⟩
            gi_wp2
            go_end0
            exact ⟨⟨_, rfl⟩, .inr ⟨_, trivial, hJx3⟩⟩
          have HJ3 := Lib.hid hJ3
          have HK3 := Lib.hid (hkc.out.trans (HKp.out _ _ hk3))
          have HC3 := Lib.hid (hx.out.2.2.1.keptC (HKp.out _ _ hk3) hEg)
          have hg3 : g < W3.heap.size := Nat.lt_of_lt_of_le hx.out.2.2.2 (HKp.out _ _ hk3).1
          have hbc := HK3.out.heap HCC.out HEc.out
          have b0 := cell_blk hbc 0 rfl
          have b1 := cell_blk hbc 1 rfl
          have b2 := cell_blk hbc 2 rfl
          have b3 := cell_blk hbc 3 rfl
          have b4 := cell_blk hbc 4 rfl
          have v0 := HK3.out.cell HCV.out HEv.out
          have HV3 := Lib.hid (HV.out.keptC HK3.out HEN.out)
          have hNg : N ≤ g := Nat.le_trans HNW.out hg
          have hsz3 := HK3.out.1
          clear hR hy hJ3 hk3 hbc
          gi_wp2_with (refine ⟨trivial, ?_⟩; gi_at_call 140; refine (callsIn_wide.2 (step_any N c V x nv g cap _ _ hNg hg3 HC3.out HV3.out hnv5 hx.out.1 (fun i hi => (HVr.out i hi).2))).mono ?_; rintro e w4 ⟨rfl, hc4, hgr4⟩; rw [HSB.out]; have HC4 := Lib.hid hc4; have HB4 : Hid (Below W.heap.size W3 w4) := (Below.refl _ _).grown hgr4 hsz3 (fun k e => by cases e; exact hg); have HG4 := Lib.hid hgr4; clear hc4 hgr4)
          go_end0
          exact ⟨⟨_, rfl⟩, .inl ⟨_, frTo_end hx.out.2.1 hx.out.1 (HOK.out.no HSB.out).2, HJ.out _ _ _ HJ3.out HB4.out⟩⟩
        | true =>
          have HSB := Lib.hid hb
          clear hb
          gi_wp2
          refine hR.mono ?_
          rintro e W3 (⟨rfl, hJ3, hk3⟩ | ⟨rfl, hJx3⟩)
          case inr =>
            gi_wp2
            refine ⟨trivial, ?_⟩
            gi_wp2
            go_end0
            exact ⟨⟨_, rfl⟩, .inr ⟨_, trivial, hJx3⟩⟩
          have HJ3 := Lib.hid hJ3
          have HK3 := Lib.hid (hkc.out.trans (HKp.out _ _ hk3))
          have HC3 := Lib.hid (hx.out.2.2.1.keptC (HKp.out _ _ hk3) hEg)
          have hg3 : g < W3.heap.size := Nat.lt_of_lt_of_le hx.out.2.2.2 (HKp.out _ _ hk3).1
          have hbc := HK3.out.heap HCC.out HEc.out
          have b0 := cell_blk hbc 0 rfl
          have b1 := cell_blk hbc 1 rfl
          have b2 := cell_blk hbc 2 rfl
          have b3 := cell_blk hbc 3 rfl
          have b4 := cell_blk hbc 4 rfl
          have v0 := HK3.out.cell HCV.out HEv.out
          have HV3 := Lib.hid (HV.out.keptC HK3.out HEN.out)
          have hNg : N ≤ g := Nat.le_trans HNW.out hg
          have hsz3 := HK3.out.1
          clear hR hy hJ3 hk3 hbc
          gi_wp2_with (refine ⟨trivial, ?_⟩; gi_at_call 140; refine (callsIn_wide.2 (step_any N c V x nv g cap _ _ hNg hg3 HC3.out HV3.out hnv5 hx.out.1 (fun i hi => (HVr.out i hi).2))).mono ?_; rintro e w4 ⟨rfl, hc4, hgr4⟩; rw [HSB.out]; have HC4 := Lib.hid hc4; have HB4 : Hid (Below W.heap.size W3 w4) := (Below.refl _ _).grown hgr4 hsz3 (fun k e => by cases e; exact hg); have HG4 := Lib.hid hgr4; clear hc4 hgr4)
          go_roundw
          case rel => exact ⟨(stepK c V x nv).2, _, HJ.out _ _ _ HJ3.out HB4.out, ⟨HOK.out.inc, frTo_step hx.out.2.1 hx.out.1 (HOK.out.yes HSB.out).2, HC4.out, Nat.lt_of_lt_of_le hg3 HB4.out.size⟩,
            ⟨Nat.le_trans hsz3 HB4.out.size, fun k o hk hc he => by
              have h1 := HK3.out.2 k o hk hc he
              have h2 := heap_lt hk
              exact (HG4.out.block k (heap_lt h1) (by intro e; cases e; omega)).trans h1⟩⟩
          case measure =>
            have e1 := codeK_congr (cellI_eq hx.out.2.2.1)
            have e2 := codeK_congr (cellI_eq HC4.out)
            have h1 := codeK_mono (fun i hi => (HVr.out i hi).2) hx.out.1 HOK.out.inc (HOK.out.yes HSB.out).1
            have h2 := codeK_lt (fun i hi => (HVr.out i hi).2) HOK.out.inc
            rw [e1, e2]
            omega

end Go.Proofs.Ytbieglmpkljjjaa

namespace Go.Proofs.Ytbieglmpkljjjaa
open Go.RowKit

theorem rows_round {n l : Nat} {P : Program} {row : String} {args : Array Value} {w : World} {R : Value → World → Prop} (h : Rows P row args w R) : RowsIn (Fence.wide.inRound l) n P row args w R := fun c cs _ => by
  obtain ⟨v, w', hr, hs⟩ := h c cs
  exact ⟨v, w', hr, stepsIn_wide.2 hs⟩

theorem op_round {n l : Nat} {P : Program} {o : Oper} {a : Act} {w : World} {K : Act → World → Prop} {Q : Exit → Act → World → Prop} (hd : ∀ c, o.op ≠ .defer c) (h : o.wp P a w K Q) : o.wpIn (Fence.wide.inRound l) n P a w K Q := by
  refine ⟨fun _ _ => trivial, ?_⟩
  rw [Oper.semAt_eq _ _ _ hd]
  unfold Oper.wp at h
  generalize (execOp a.eval o).run P w = r at h ⊢
  cases r with
  | ok nx w' =>
    cases nx
    case enter f args =>
      refine ⟨fun hh => by simp [Fence.inRound, Fence.wide] at hh, CallsIn.inRound l ((callsIn_wide (n := n - 1)).2 (h.mono fun e w'' he => ?_))⟩
      cases e <;> exact he
    case row row args => exact ⟨fun hh => by simp [Fence.inRound, Fence.wide] at hh, rows_round h⟩
    all_goals first | exact h | exact h.elim
  | halt hh w' => cases hh <;> first | exact h | exact h.elim

theorem any_round {n l : Nat} {P : Program} {md : Region.Mode} {ops : Array Oper} {Q : Exit → Act → World → Prop} (hd : ∀ (i : Nat) (o : Oper), ops[i]? = some o → ∀ c, o.op ≠ Op.defer c) (hQ : ∀ a w, ¬ Q .outgrown a w) :
    ∀ (fuel : Nat) (listed : Array Bool) (a : Act) (w : World), wpAny P md ops Q fuel listed a w → wpAnyIn (Fence.wide.inRound l) n P md ops Q fuel listed a w := by
  intro fuel
  induction fuel with
  | zero => intro listed a w h; exact h
  | succ fuel ih =>
    intro listed a w h
    refine ⟨h.1, fun i hi => ?_⟩
    have h2 := h.2 i hi
    unfold wpOp at h2
    unfold wpOpIn
    cases ho : ops[i]? with
    | none => rw [ho] at h2; exact ih _ _ _ h2
    | some o =>
      rw [ho] at h2
      simp only at h2 ⊢
      split at h2
      · rename_i hw
        rw [if_pos hw]
        rcases h2 with h2 | ⟨_, a', w', hq⟩
        · exact Oper.wpIn_mono (fun a w hk => ih _ _ _ hk) (op_round (hd i o ho) h2)
        · exact absurd hq (hQ _ _)
      · rename_i hw
        rw [if_neg hw]
        exact ⟨fun _ _ => trivial, ih _ _ _ h2⟩

/-- a region that can only end as it should -/
def onlyN (Q : Exit → Act → World → Prop) : Exit → Act → World → Prop
  | .normal, a, w => Q .normal a w
  | _, _, _ => False
theorem calm {F : Fence} {n : Nat} {P : Program} {c : Code} {Q : Exit → Act → World → Prop} {a : Act} {w : World} (h : c.wpIn F n P (onlyN Q) a w) : c.wpIn F n P Q a w :=
  wpIn_mono h fun e _ _ hq => by cases e <;> first | exact hq | exact hq.elim

/-- a region in a round, with S held -/
theorem region_round {n l id : Nat} {P : Program} {ops : Array Oper} {Q : Exit → Act → World → Prop} {S : World → Prop} {a : Act} {w : World} (hm : P.follows .mixedOrders = true)
    (hd : (ops.all fun o => match o.op with | .defer _ => false | _ => true) = true) (hS : S w.drew)
    (h : S w.drew → wpAnyH P .any ops (onlyN Q) S ops.size (Array.replicate ops.size false) a w.drew) : (Code.region id ops true).wpIn (Fence.wide.inRound l) n P Q a w := by
  refine calm (wpIn_region_any hm (any_round (fun i o ho c hc => ?_) (fun _ _ h => h) _ _ _ _ (wpAny_of_held _ _ _ _ (h hS))))
  have := Array.all_eq_true.1 hd i (Array.getElem?_eq_some_iff.1 ho).1
  rw [(Array.getElem?_eq_some_iff.1 ho).2, hc] at this
  cases this

end Go.Proofs.Ytbieglmpkljjjaa
