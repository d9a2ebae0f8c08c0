/-
  Least: Least of the reference, what it says.
-/
import Derived.Test.YtbieglmpkljjjaaFr
namespace Go.Proofs.Ytbieglmpkljjjaa
open Go.RowKit

theorem range_ints_snoc (k : Nat) : ints (List.range (k + 1)) = ints (List.range k) ++ [(k : Int)] := by rw [List.range_succ, ints_snoc]

set_option maxHeartbeats 1600000 in
theorem all_any (N : Nat) (v : Value) (B : KB) (w : World) (h : BookAt N w v B) (h8 : B.ns ≤ 8) :
    Calls Try.prog 99 #[v] w (GivesI w.heap.size w (ints (List.range B.ns))) := by
  obtain ⟨i0, hi, hz0, hz1, hz2⟩ := info_parts Try.infoInt
  have h' := h
  obtain ⟨_, a1, z1, a2, z2, a3, z3, rfl, _⟩ := h'
  obtain ⟨ws, hws, HB, hsz, hblk⟩ := box1 w (.cells #[.slice a1 B.nv z1, .slice a2 B.ns z2, .slice a3 B.D.n z3] 26)
  have q0 := cell_blk hblk 0 rfl
  have q1 := cell_blk hblk 1 rfl
  have q2 := cell_blk hblk 2 rfl
  have HBK := Lib.hid (h.go HB.out)
  have HB0 : Hid (Below ws.heap.size ws ws) := Below.refl _ _
  have HNS : Hid (N ≤ ws.heap.size) := HBK.out.1
  have hlens := h.lens
  obtain ⟨hlv, hls, hln⟩ := hlens
  clear hblk h
  go_enter Try.func99, Try.ntmps99
  go_wp2
  clear hws
  go_loopw [3, 4] (fun t i wr => ∃ k : Nat, k ≤ B.ns ∧ i = .int .i64 k ∧ Hid (OwnI ws.heap.size wr t (ints (List.range k))) ∧ Hid (Below ws.heap.size ws wr)) (fun _ i _ => B.ns - (intOf i).toNat)
  case atStart => exact ⟨0, Nat.zero_le _, rfl, own_nil _ _, HB0⟩
  case round =>
    obtain ⟨k, hk, rfl, ho, HB1⟩ := hrel
    have c1 := (old_of HB1.out).1
    have hsz1 := Nat.lt_of_lt_of_le hsz HB1.out.size
    have hs1 := HB1.out.size
    by_cases hkn : k < B.ns
    · have hki : (k : Int) < (B.ns : Int) := by omega
      have HP := Lib.hid (range_ints_snoc k)
      have hll : (ints (List.range k)).length = k := by rw [ints_len, List.length_range]
      have hown := own_mono ho.out (Nat.le_refl _)
      generalize ints (List.range k) = li at *
      go_wp2_with (at_builtin; refine wpList_append_own _ rfl _ _ 22 rfl ws.heap.size 3 i0 (.int .i64 0) 1 8 Try.underlying22 hi hz0 hz1 hz2 rfl (by decide) _ _ _ rfl (hown.alloc _) ⟨wr.heap.size, 0, none⟩ 1 1 [.int .i64 k] rfl rfl (cell_one_new _ _ _) (by simp [Value.oneCell']) (by unfold maxLen; omega) (by omega) (by simp; omega) ?_; intro v' w2 hown3 hgrow _)
      go_roundw
      case rel => exact ⟨k + 1, by omega, by go_num, by rw [HP.out]; unfold Hid OwnI; rw [List.length_append, List.map_append]; exact hown3, (HB1.out.alloc hs1 _).grown hgrow (by simp; omega) (fun j e => (hown.lt j e).1)⟩
      case measure => simp [intOf]; omega
    · have HK : Hid (k = B.ns) := by unfold Hid; omega
      go_wp2
      go_ret
      exact ⟨_, rfl, by rw [HK.out] at ho; exact own_mono ho.out HB.out.size, fin HB.out HB1.out⟩

/-- the mark m parts the sorts g -/
def splitL (B : KB) (g : List Nat) (m : Nat) : Bool := decide ((havL B g m (B.X (g.getD 0 0) m)).length < g.length)

theorem filter_lt {α : Type} {p : α → Bool} : ∀ {l : List α} {a : α}, a ∈ l → p a = false → (l.filter p).length < l.length
  | [], _, h, _ => by cases h
  | b :: l, a, h, hp => by
    rcases List.mem_cons.1 h with rfl | h
    · rw [List.filter_cons, hp]
      simp only [Bool.false_eq_true, if_false, List.length_cons]
      exact Nat.lt_succ_of_le (List.length_filter_le _ _)
    · have := filter_lt h hp
      rw [List.filter_cons]
      split
      · exact Nat.succ_lt_succ this
      · exact Nat.lt_succ_of_lt this
theorem havL_lt {B : KB} {g : List Nat} {m : Nat} (hg : g ≠ []) (h : splitL B g m = true) (y : Int) : (havL B g m y).length < g.length := by
  by_cases e : B.X (g.getD 0 0) m = y
  · rw [← e]; exact of_decide_eq_true h
  · exact filter_lt (getD_mem (List.length_pos_iff.2 hg)) (decide_eq_false e)
theorem havL_mem {B : KB} {g : List Nat} {m : Nat} {y : Int} {s : Nat} (h : s ∈ havL B g m y) : s ∈ g := (List.mem_filter.1 h).1

set_option maxHeartbeats 3200000 in
theorem splits_any (N : Nat) (v u : Value) (B : KB) (g : List Nat) (m : Nat) (w : World) (h : BookAt N w v B) (hG : GoodB B) (hu : GrpAt w u g) (hg : ∀ s, s ∈ g → s < B.ns) (hm : m < B.nv) (hl : g.length ≤ 8) (h0 : 0 < g.length) :
    Calls Try.prog 132 #[v, u, .int .i64 m] w fun e w' => e = .returned (.bool (splitL B g m)) ∧ Below w.heap.size w w' := by
  obtain ⟨au, cu, rfl, _, _⟩ := id hu
  have h' := h
  obtain ⟨_, a1, z1, a2, z2, a3, z3, rfl, _⟩ := h'
  obtain ⟨ws, hws, HB, hsz, hblk⟩ := box1 w (.cells #[.slice a1 B.nv z1, .slice a2 B.ns z2, .slice a3 B.D.n z3] 26)
  have q0 := cell_blk hblk 0 rfl
  have q1 := cell_blk hblk 1 rfl
  have q2 := cell_blk hblk 2 rfl
  have HBK := Lib.hid (h.go HB.out)
  have HB0 : Hid (Below ws.heap.size ws ws) := Below.refl _ _
  have HNS : Hid (N ≤ ws.heap.size) := HBK.out.1
  have hlens := h.lens
  obtain ⟨hlv, hls, hln⟩ := hlens
  clear hblk h
  have HG := Lib.hid hG
  have HU := Lib.hid (hu.go HB.out)
  have HGS := Lib.hid hg
  clear hG hu hg
  have hsn : g.getD 0 0 < B.ns := HGS.out _ (getD_mem h0)
  obtain ⟨bu, ou, rfl, hbu, hru⟩ := HU.out.cells h0
  have hcu := hru 0 h0
  obtain ⟨s, hs⟩ : ∃ s, g.getD 0 0 = s := ⟨_, rfl⟩
  rw [show grpF g 0 = ((s : Nat) : Int) by unfold grpF; rw [hs], Nat.add_zero] at hcu
  rw [hs] at hsn
  obtain ⟨b2, off2, rfl, hb2, hr2⟩ := HBK.out.sorts.cells (by omega)
  obtain ⟨ai, ci, hcell2, hints⟩ := hr2 s hsn
  have hLs : B.L s = B.nv := (HG.out.X s hsn).n
  rw [hLs] at hcell2 hints
  obtain ⟨bs, os, rfl, hbs, hrs⟩ := hints.cells (by omega)
  have hcx := hrs m hm
  have hbs' : bs < ws.heap.size := by have := HNS.out; omega
  have hb2' : b2 < ws.heap.size := by have := HNS.out; omega
  have hsi : (s : Int) < (B.ns : Int) := by omega
  have hmi : (m : Int) < (B.nv : Int) := by omega
  have h0i : (0 : Int) < (g.length : Int) := by omega
  have HE : Hid (splitL B g m = decide (((havL B g m (B.X s m)).length : Int) < (g.length : Int))) := by
    unfold Hid splitL; rw [hs, Bool.eq_iff_iff]; simp
  have hvl := havL_len B g m (B.X s m)
  clear hru hrs hr2 hs hints hLs
  have S0d := old_of HB0.out.drew; have HB0d := S0d.2
  go_enter Try.func132, Try.ntmps132
  go_wp2
  clear hws
  go_region_held3 (fun w' => (∀ b o, b < ws.heap.size → w'.cell? ⟨b, o, none⟩ = ws.cell? ⟨b, o, none⟩) ∧ Hid (Below ws.heap.size ws w')) (assumption) (first
    | (go_at_call 133; refine (having_any N _ _ B g m _ _ (HBK.out.go HB0d.out) HG.out (HU.out.go HB0d.out) HGS.out hm hl).mono ?_; rintro e w1 ⟨v1, rfl, ho1, hb1⟩; obtain ⟨ao, co, rfl⟩ := own_form ho1; rw [ints_len]; clear ho1; have S1 := old_of (bel HB0d.out hb1); have HB1 := S1.2; clear hb1))
  have HB1 := S1.2; have c1 := S1.1; clear S1 S0d
  go_wp2
  go_ret
  exact ⟨ret_bool (by rw [HE.out, Bool.eq_iff_iff]; simp), fin HB.out HB1.out⟩

/-! ### Least -/

def worstTo (f : Nat → Int) : Nat → Int
  | 0 => 0
  | v + 1 => max (worstTo f v) (f v + 1)
def totalTo (b : Int) (f : Nat → Int) : Nat → Int
  | 0 => b
  | v + 1 => totalTo b f v + f v
def pickC (old new : Int) : Int := if old < 0 ∨ new < old then new else old
def costL (B : KB) (mean : Bool) (g : List Nat) (m : Nat) (L : List Nat → Int) : Int :=
  if mean then totalTo g.length (fun v => L (havL B g m v)) (B.V m).toNat else worstTo (fun v => L (havL B g m v)) (B.V m).toNat
def bestTo (B : KB) (mean : Bool) (g : List Nat) (L : List Nat → Int) : Nat → Int
  | 0 => -1
  | m + 1 => if splitL B g m then pickC (bestTo B mean g L m) (costL B mean g m L) else bestTo B mean g L m
def leastL (B : KB) (mean : Bool) : Nat → List Nat → Int
  | 0, _ => 0
  | f + 1, g => if g.length ≤ 1 then 0 else bestTo B mean g (leastL B mean f) B.nv

theorem worstTo_bd {f : Nat → Int} {b : Int} (hb : 0 ≤ b) (h : ∀ v, f v ≤ b) : ∀ v, 0 ≤ worstTo f v ∧ worstTo f v ≤ b + 1 := by
  intro v
  induction v with
  | zero => simp [worstTo]; omega
  | succ v ih => have := h v; simp only [worstTo]; omega
theorem totalTo_bd {f : Nat → Int} {b a : Int} (h : ∀ v, -1 ≤ f v ∧ f v ≤ b) : ∀ v : Nat, a - v ≤ totalTo a f v ∧ (v ≤ 3 → totalTo a f v ≤ a + 3 * max b 0) := by
  have key : ∀ v : Nat, a - v ≤ totalTo a f v ∧ totalTo a f v ≤ a + v * max b 0 := by
    intro v
    induction v with
    | zero => simp [totalTo]
    | succ v ih =>
      have := h v
      simp only [totalTo]
      have e : ((v + 1 : Nat) : Int) * max b 0 = v * max b 0 + max b 0 := by rw [Int.natCast_add, Int.add_mul]; simp
      rw [e]
      refine ⟨by omega, by omega⟩
  refine fun v => ⟨(key v).1, fun hv => Int.le_trans (key v).2 ?_⟩
  have : (v : Int) * max b 0 ≤ 3 * max b 0 := Int.mul_le_mul_of_nonneg_right (by omega) (by omega)
  omega
theorem pickC_bd {a b c : Int} (ha : -1 ≤ a ∧ a ≤ c) (hb : -1 ≤ b ∧ b ≤ c) : -1 ≤ pickC a b ∧ pickC a b ≤ c := by
  unfold pickC; split <;> omega
theorem bestTo_bd (B : KB) (hV : ∀ i, i < B.nv → 2 ≤ B.V i ∧ B.V i ≤ 3) (mean : Bool) (f : Nat) (g : List Nat) (hg : g.length ≤ 8) (ih : ∀ g : List Nat, g.length ≤ 8 → -1 ≤ leastL B mean f g ∧ leastL B mean f g ≤ (4 : Int) ^ (f + 2)) :
    ∀ m, m ≤ B.nv → -1 ≤ bestTo B mean g (leastL B mean f) m ∧ bestTo B mean g (leastL B mean f) m ≤ 4 * 4 ^ (f + 2) := by
  have hpos : (16 : Int) ≤ 4 ^ (f + 2) := by
    have : (4 : Nat) ^ 2 ≤ 4 ^ (f + 2) := Nat.pow_le_pow_right (by omega) (by omega)
    have h2 : ((4 ^ (f + 2) : Nat) : Int) = (4 : Int) ^ (f + 2) := by simp
    omega
  intro m
  induction m with
  | zero => intro _; simp only [bestTo]; omega
  | succ m ihm =>
    intro hm
    have h1 := ihm (by omega)
    simp only [bestTo]
    split
    · rename_i hsp
      refine pickC_bd h1 ?_
      have hq : ∀ v : Nat, -1 ≤ leastL B mean f (havL B g m v) ∧ leastL B mean f (havL B g m v) ≤ (4 : Int) ^ (f + 2) := fun v => ih _ (Nat.le_trans (havL_len _ _ _ _) hg)
      have hv3 := hV m (by omega)
      have hg2 : 2 ≤ g.length := by
        by_cases h2 : 2 ≤ g.length
        · exact h2
        · exfalso
          by_cases h0 : g = []
          · subst h0; simp [splitL] at hsp
          · obtain ⟨a, rfl⟩ := List.length_eq_one_iff.1 (show g.length = 1 by have := List.length_pos_iff.2 h0; omega)
            simp [splitL, havL] at hsp
      unfold costL
      split
      · have := totalTo_bd (a := (g.length : Int)) hq (B.V m).toNat
        have h3 := this.2 (by omega)
        have h4 := this.1
        omega
      · have := worstTo_bd (b := (4 : Int) ^ (f + 2)) (by omega) (fun v => (hq v).2) (B.V m).toNat
        omega
    · exact h1
theorem leastL_bd (B : KB) (hV : ∀ i, i < B.nv → 2 ≤ B.V i ∧ B.V i ≤ 3) (mean : Bool) : ∀ (f : Nat) (g : List Nat), g.length ≤ 8 → -1 ≤ leastL B mean f g ∧ leastL B mean f g ≤ (4 : Int) ^ (f + 2) := by
  intro f
  induction f with
  | zero => intro g _; simp [leastL]
  | succ f ih =>
    intro g hg
    have hp1 : (4 : Int) ^ (f + 1 + 2) = 4 * 4 ^ (f + 2) := by rw [show f + 1 + 2 = (f + 2) + 1 by omega, Int.pow_succ]; omega
    have hpos : (16 : Int) ≤ 4 ^ (f + 2) := by
      have : (4 : Nat) ^ 2 ≤ 4 ^ (f + 2) := Nat.pow_le_pow_right (by omega) (by omega)
      have h2 : ((4 ^ (f + 2) : Nat) : Int) = (4 : Int) ^ (f + 2) := by simp
      omega
    simp only [leastL]
    split
    · omega
    · have := bestTo_bd B hV mean f g hg ih B.nv (Nat.le_refl _)
      omega

end Go.Proofs.Ytbieglmpkljjjaa

namespace Go.Proofs.Ytbieglmpkljjjaa
open Go.RowKit

/-- what Least says of the groups of at most f sorts -/
def SaysLeast (B : KB) (mean : Bool) (f : Nat) : Prop := ∀ (g : List Nat) (N : Nat) (v u : Value) (w : World), g.length ≤ f → BookAt N w v B → GrpAt w u g → (∀ s, s ∈ g → s < B.ns) →
    Calls Try.prog 98 #[v, u, .bool mean] w fun e w' => e = .returned (.int .i64 (leastL B mean f g)) ∧ Below w.heap.size w w'

set_option maxRecDepth 100000 in
set_option maxHeartbeats 3200000 in
theorem least_small (B : KB) (mean : Bool) (f : Nat) (g : List Nat) (N : Nat) (v u : Value) (w : World) (hg1 : g.length ≤ 1) (h : BookAt N w v B) (hu : GrpAt w u g) :
    Calls Try.prog 98 #[v, u, .bool mean] w fun e w' => e = .returned (.int .i64 0) ∧ Below w.heap.size w w' := by
  obtain ⟨au, cu, rfl, _, _⟩ := id hu
  clear hu
  have h' := h
  obtain ⟨_, a1, z1, a2, z2, a3, z3, rfl, _⟩ := h'
  obtain ⟨ws, hws, HB, hsz, hblk⟩ := box1 w (.cells #[.slice a1 B.nv z1, .slice a2 B.ns z2, .slice a3 B.D.n z3] 26)
  have q0 := cell_blk hblk 0 rfl
  have q1 := cell_blk hblk 1 rfl
  have q2 := cell_blk hblk 2 rfl
  have HBK := Lib.hid (h.go HB.out)
  have HB0 : Hid (Below ws.heap.size ws ws) := Below.refl _ _
  have HNS : Hid (N ≤ ws.heap.size) := HBK.out.1
  have hlens := h.lens
  obtain ⟨hlv, hls, hln⟩ := hlens
  clear hblk h
  have hgi : (g.length : Int) ≤ 1 := by omega
  go_enter Try.func98, Try.ntmps98
  go_wp2
  go_ret
  exact ⟨rfl, HB.out⟩

theorem leastL_small (B : KB) (mean : Bool) (f : Nat) (g : List Nat) (h : g.length ≤ 1) : leastL B mean f g = 0 := by
  cases f with
  | zero => rfl
  | succ f => simp only [leastL, if_pos h]

theorem pow_bd {f : Nat} (hf : f ≤ 8) : (4 : Int) ^ (f + 2) ≤ 1048576 := by
  have : (4 : Nat) ^ (f + 2) ≤ 4 ^ 10 := Nat.pow_le_pow_right (by omega) (by omega)
  have h2 : ((4 ^ (f + 2) : Nat) : Int) = (4 : Int) ^ (f + 2) := by simp
  omega

set_option maxRecDepth 100000 in
set_option maxHeartbeats 6400000 in
theorem least_step (B : KB) (hG : GoodB B) (mean : Bool) (f : Nat) (hf : f < 8) (hsay : SaysLeast B mean f) : SaysLeast B mean (f + 1) := by
  intro g N v u w hgf h hu hg
  by_cases hg1 : g.length ≤ 1
  · rw [leastL_small B mean (f + 1) g hg1]
    exact least_small B mean f g N v u w hg1 h hu
  obtain ⟨au, cu, rfl, _, _⟩ := id hu
  have h' := h
  obtain ⟨_, a1, z1, a2, z2, a3, z3, rfl, _⟩ := h'
  obtain ⟨ws, hws, HB, hsz, hblk⟩ := box1 w (.cells #[.slice a1 B.nv z1, .slice a2 B.ns z2, .slice a3 B.D.n z3] 26)
  have q0 := cell_blk hblk 0 rfl
  have q1 := cell_blk hblk 1 rfl
  have q2 := cell_blk hblk 2 rfl
  have HBK := Lib.hid (h.go HB.out)
  have HB0 : Hid (Below ws.heap.size ws ws) := Below.refl _ _
  have HNS : Hid (N ≤ ws.heap.size) := HBK.out.1
  have hlens := h.lens
  obtain ⟨hlv, hls, hln⟩ := hlens
  clear hblk h
  have HG := Lib.hid hG
  have HU := Lib.hid (hu.go HB.out)
  have HGS := Lib.hid hg
  have HSAY := Lib.hid hsay
  have hg8 : g.length ≤ 8 := by omega
  have hgi : ¬ (g.length : Int) ≤ 1 := by omega
  have HL : Hid (leastL B mean (f + 1) g = bestTo B mean g (leastL B mean f) B.nv) := by unfold Hid; simp only [leastL, if_neg hg1]
  have HLB : Hid (∀ g', g'.length ≤ 8 → -1 ≤ leastL B mean f g' ∧ leastL B mean f g' ≤ 1048576) := fun g' hg' => by
    have := leastL_bd B hG.V mean f g' hg'
    have := pow_bd (f := f) (by omega)
    omega
  have HBB : Hid (∀ m, m ≤ B.nv → -1 ≤ bestTo B mean g (leastL B mean f) m ∧ bestTo B mean g (leastL B mean f) m ≤ 4194304) := fun m hm => by
    have h1 := bestTo_bd B hG.V mean f g hg8 (leastL_bd B hG.V mean f) m hm
    have h2 := pow_bd (f := f) (by omega)
    omega
  obtain ⟨au', cu', e', _, _⟩ := id HU.out
  cases e'
  clear hG hu hg hsay
  go_enter Try.func98, Try.ntmps98
  go_wp2
  clear hws
  have hnv5 := HG.out.nv
  go_loopw [7, 8] (fun t i wr => ∃ m : Nat, m ≤ B.nv ∧ i = .int .i64 m ∧ t = .int .i64 (bestTo B mean g (leastL B mean f) m) ∧ Hid (Below ws.heap.size ws wr)) (fun _ i _ => B.nv - (intOf i).toNat)
  case atStart => exact ⟨0, Nat.zero_le _, rfl, rfl, HB0⟩
  case round =>
    obtain ⟨m, hm, rfl, rfl, HB1⟩ := hrel
    have c1 := (old_of HB1.out).1
    have hsz1 := Nat.lt_of_lt_of_le hsz HB1.out.size
    by_cases hmn : m < B.nv
    · have hmi : (m : Int) < (B.nv : Int) := by omega
      have hb1 := HBB.out m hm
      obtain ⟨bv, ov, rfl, hbv, hrv⟩ := HBK.out.vals.cells (by omega)
      have hcv := hrv m hmn
      have hbv' : bv < ws.heap.size := Nat.lt_of_lt_of_le hbv HNS.out
      have hV2 := (HG.out.V m hmn).1
      have hV3 := (HG.out.V m hmn).2
      obtain ⟨q, hq⟩ : ∃ q : Nat, B.V m = q := ⟨(B.V m).toNat, by omega⟩
      have HQ := Lib.hid hq
      rw [hq] at hcv hV2 hV3
      clear hrv hq
      cases hsp : splitL B g m with
      | false =>
        have HP : Hid (bestTo B mean g (leastL B mean f) (m + 1) = bestTo B mean g (leastL B mean f) m) := by unfold Hid; simp only [bestTo, hsp]; rfl
        generalize bestTo B mean g (leastL B mean f) m = old at *
        go_wp2_with (go_at_call 132; refine (splits_any N _ _ B g m _ (HBK.out.go HB1.out) HG.out (HU.out.go HB1.out) HGS.out hmn hg8 (by omega)).mono ?_; rintro e w2 ⟨rfl, hb2⟩; rw [hsp]; (try clear c1); have HB2 := Lib.hid (bel HB1.out hb2); have c2 := (old_of HB2.out).1; clear hb2)
        go_roundw
        case rel => exact ⟨m + 1, by omega, by go_num, by rw [HP.out], HB2⟩
        case measure => simp [intOf]; omega
      | true =>
        have HSP := Lib.hid hsp
        have HP : Hid (bestTo B mean g (leastL B mean f) (m + 1) = pickC (bestTo B mean g (leastL B mean f) m) (costL B mean g m (leastL B mean f))) := by unfold Hid; simp only [bestTo, hsp]; rfl
        have HLT : Hid (∀ y, (havL B g m y).length < g.length) := fun y => havL_lt (by intro e; rw [e] at hg1; simp at hg1) hsp y
        have hob := HBB.out m hm
        generalize bestTo B mean g (leastL B mean f) m = old at *
        go_wp2_with (go_at_call 132; refine (splits_any N _ _ B g m _ (HBK.out.go HB1.out) HG.out (HU.out.go HB1.out) HGS.out hmn hg8 (by omega)).mono ?_; rintro e w2 ⟨rfl, hb2⟩; rw [hsp]; (try clear c1); have HB2 := Lib.hid (bel HB1.out hb2); have c2 := (old_of HB2.out).1; clear hb2)
        obtain ⟨cf, hcf⟩ : ∃ cf : Nat → Int, (fun y : Nat => leastL B mean f (havL B g m y)) = cf := ⟨_, rfl⟩
        have HCF : Hid (∀ y : Nat, leastL B mean f (havL B g m y) = cf y) := fun y => by rw [← hcf]
        have HCB : Hid (∀ y, -1 ≤ cf y ∧ cf y ≤ 1048576) := fun y => by rw [← HCF.out]; exact HLB.out _ (Nat.le_trans (havL_len _ _ _ _) hg8)
        have HCO : Hid (costL B mean g m (leastL B mean f) = if mean then totalTo g.length cf q else worstTo cf q) := by
          unfold Hid costL; rw [HQ.out]; simp only [Int.toNat_natCast]; rw [← hcf]
        have HTB : Hid (∀ y : Nat, y ≤ 3 → (0 ≤ worstTo cf y ∧ worstTo cf y ≤ 1048577) ∧ -3 ≤ totalTo g.length cf y ∧ totalTo g.length cf y ≤ 4000000) := fun y hy => by
          have h1 := worstTo_bd (b := 1048576) (by omega) (fun y => (HCB.out y).2) y
          have h2 := totalTo_bd (a := (g.length : Int)) HCB.out y
          have h3 := h2.2 hy
          have h4 := h2.1
          omega
        clear hcf
        go_loopw [9, 10, 11] (fun a b i wr => ∃ y : Nat, y ≤ q ∧ i = .int .i64 y ∧ a = .int .i64 (worstTo cf y) ∧ b = .int .i64 (totalTo g.length cf y) ∧ Hid (Below ws.heap.size ws wr)) (fun _ _ i _ => q - (intOf i).toNat)
        case atStart => exact ⟨0, Nat.zero_le _, rfl, rfl, rfl, HB2⟩
        case round =>
          obtain ⟨y, hy, rfl, rfl, rfl, HB3⟩ := hrel
          (try clear c2)
          have c3 := (old_of HB3.out).1
          have hsz3 := Nat.lt_of_lt_of_le hsz HB3.out.size
          have hq3 : q ≤ 3 := by omega
          have hwt := HTB.out y (by omega)
          by_cases hyq : y < q
          · have hyi : (y : Int) < (q : Int) := by omega
            have hc := HCB.out y
            have HW1 : Hid (worstTo cf (y + 1) = max (worstTo cf y) (cf y + 1)) := rfl
            have HT1 : Hid (totalTo g.length cf (y + 1) = totalTo g.length cf y + cf y) := rfl
            generalize worstTo cf y = wt at *
            generalize totalTo g.length cf y = tt at *
            have HBr : Hid (Below wr.heap.size wr wr) := Below.refl _ _
            have HNr : Hid (N ≤ wr.heap.size) := (HBK.out.go HB3.out).1
            have Srd := old_of HBr.out.drew; have HBrd := Srd.2
            go_wp2
            go_region_held3 (fun w' => (∀ b o, b < wr.heap.size → w'.cell? ⟨b, o, none⟩ = wr.cell? ⟨b, o, none⟩) ∧ Hid (Below wr.heap.size wr w')) (assumption) (first
              | (go_at_call 133; refine (having_any N _ _ B g m _ _ ((HBK.out.go HB3.out).go HBrd.out) HG.out ((HU.out.go HB3.out).go HBrd.out) HGS.out hmn hg8).mono ?_; rintro e w4 ⟨v4, rfl, ho4, hb4⟩; have HO4 := Lib.hid ho4; clear ho4; have S4 := old_of (bel HBrd.out hb4); have HB4 := S4.2; clear hb4)
              | (go_at_call 98; refine (HSAY.out (havL B g m y) N _ _ _ (by have := HLT.out y; omega) ((HBK.out.go HB3.out).go HB4.out) (grp_of_own HO4.out (Nat.le_trans (havL_len _ _ _ _) (by omega))) (fun s hs => HGS.out s (havL_mem hs))).mono ?_; rintro e w5 ⟨rfl, hb5⟩; rw [HCF.out]; have S5 := old_of (bel HB4.out hb5); have HB5 := S5.2; clear hb5))
            have HB6 := Lib.hid (bel HB3.out HB5.out)
            clear S5 S4 Srd c3
            have c6 := (old_of HB6.out).1
            go_wp2
            go_roundw
            case rel => exact ⟨y + 1, by omega, by go_num, by rw [HW1.out]; congr 1; split <;> omega, by rw [HT1.out], HB6⟩
            case measure => simp [intOf]; omega
          · have hyq' : y = q := by omega
            subst hyq'
            cases mean with
            | false =>
              have HC2 : Hid (bestTo B false g (leastL B false f) (m + 1) = pickC old (worstTo cf y)) := by unfold Hid; rw [HP.out, HCO.out]; rfl
              have hob2 := hob
              clear HP HCO
              generalize worstTo cf y = cc at *
              by_cases hn0 : old < 0
              · have HP : Hid (bestTo B false g (leastL B false f) (m + 1) = cc) := by unfold Hid; rw [HC2.out]; unfold pickC; rw [if_pos (.inl hn0)]
                go_wp2
                go_roundw
                case rel => exact ⟨m + 1, by omega, by go_num, by rw [HP.out], HB3⟩
                case measure => simp [intOf]; omega
              · by_cases hn1 : cc < old
                · have HP : Hid (bestTo B false g (leastL B false f) (m + 1) = cc) := by unfold Hid; rw [HC2.out]; unfold pickC; rw [if_pos (.inr hn1)]
                  go_wp2
                  go_roundw
                  case rel => exact ⟨m + 1, by omega, by go_num, by rw [HP.out], HB3⟩
                  case measure => simp [intOf]; omega
                · have HP : Hid (bestTo B false g (leastL B false f) (m + 1) = old) := by unfold Hid; rw [HC2.out]; unfold pickC; rw [if_neg (by omega)]
                  go_wp2
                  go_roundw
                  case rel => exact ⟨m + 1, by omega, by go_num, by rw [HP.out], HB3⟩
                  case measure => simp [intOf]; omega
            | true =>
              have HC2 : Hid (bestTo B true g (leastL B true f) (m + 1) = pickC old (totalTo g.length cf y)) := by unfold Hid; rw [HP.out, HCO.out]; rfl
              have hob2 := hob
              clear HP HCO
              generalize totalTo g.length cf y = cc at *
              by_cases hn0 : old < 0
              · have HP : Hid (bestTo B true g (leastL B true f) (m + 1) = cc) := by unfold Hid; rw [HC2.out]; unfold pickC; rw [if_pos (.inl hn0)]
                go_wp2
                go_roundw
                case rel => exact ⟨m + 1, by omega, by go_num, by rw [HP.out], HB3⟩
                case measure => simp [intOf]; omega
              · by_cases hn1 : cc < old
                · have HP : Hid (bestTo B true g (leastL B true f) (m + 1) = cc) := by unfold Hid; rw [HC2.out]; unfold pickC; rw [if_pos (.inr hn1)]
                  go_wp2
                  go_roundw
                  case rel => exact ⟨m + 1, by omega, by go_num, by rw [HP.out], HB3⟩
                  case measure => simp [intOf]; omega
                · have HP : Hid (bestTo B true g (leastL B true f) (m + 1) = old) := by unfold Hid; rw [HC2.out]; unfold pickC; rw [if_neg (by omega)]
                  go_wp2
                  go_roundw
                  case rel => exact ⟨m + 1, by omega, by go_num, by rw [HP.out], HB3⟩
                  case measure => simp [intOf]; omega
    · have HK : Hid (m = B.nv) := by unfold Hid; omega
      go_wp2
      go_ret
      exact ⟨ret_int (by rw [HL.out, HK.out]), fin HB.out HB1.out⟩

theorem least_any (B : KB) (hG : GoodB B) (mean : Bool) : ∀ f, f ≤ 8 → SaysLeast B mean f := by
  intro f
  induction f with
  | zero => intro _ g N v u w hgf h hu _; exact least_small B mean 0 g N v u w (by omega) h hu
  | succ f ih => intro hf; exact least_step B hG mean f (by omega) (ih (by omega))

end Go.Proofs.Ytbieglmpkljjjaa

namespace Go.Proofs.Ytbieglmpkljjjaa
open Go.RowKit

/-- the first k marks that tell the sorts s and t apart -/
def apartL (B : KB) (s t k : Nat) : List Nat := (List.range k).filter fun m => decide (B.X s m ≠ B.X t m)
theorem apartL_hit {B : KB} {s t k : Nat} (h : B.X s k ≠ B.X t k) : apartL B s t (k + 1) = apartL B s t k ++ [k] := by
  unfold apartL; rw [List.range_succ, List.filter_append]; simp only [List.filter_cons, List.filter_nil, decide_eq_true h, if_true]
theorem apartL_miss {B : KB} {s t k : Nat} (h : B.X s k = B.X t k) : apartL B s t (k + 1) = apartL B s t k := by
  unfold apartL; rw [List.range_succ, List.filter_append]; simp [h]
theorem apartL_len (B : KB) (s t k : Nat) : (apartL B s t k).length ≤ k := by
  refine Nat.le_trans (List.length_filter_le _ _) ?_; simp

set_option maxRecDepth 100000 in
set_option maxHeartbeats 3200000 in
theorem apartOf_any (N : Nat) (v : Value) (B : KB) (s t : Nat) (w : World) (h : BookAt N w v B) (hG : GoodB B) (hs : s < B.ns) (ht : t < B.ns) :
    Calls Try.prog 92 #[v, .int .i64 s, .int .i64 t] w (GivesI w.heap.size w (ints (apartL B s t B.nv))) := by
  obtain ⟨i0, hi, hz0, hz1, hz2⟩ := info_parts Try.infoInt
  have h' := h
  obtain ⟨_, a1, z1, a2, z2, a3, z3, rfl, _⟩ := h'
  obtain ⟨ws, hws, HB, hsz, hblk⟩ := box1 w (.cells #[.slice a1 B.nv z1, .slice a2 B.ns z2, .slice a3 B.D.n z3] 26)
  have q0 := cell_blk hblk 0 rfl
  have q1 := cell_blk hblk 1 rfl
  have q2 := cell_blk hblk 2 rfl
  have HBK := Lib.hid (h.go HB.out)
  have HB0 : Hid (Below ws.heap.size ws ws) := Below.refl _ _
  have HNS : Hid (N ≤ ws.heap.size) := HBK.out.1
  have hlens := h.lens
  obtain ⟨hlv, hls, hln⟩ := hlens
  clear hblk h
  have hnv5 := hG.nv
  have HG := Lib.hid hG
  obtain ⟨b2, off2, rfl, hb2, hr2⟩ := HBK.out.sorts.cells (by omega)
  obtain ⟨ps, cs, hcs, hints⟩ := hr2 s hs
  have hLs : B.L s = B.nv := (hG.X s hs).n
  obtain ⟨pt, ct, hct, hintt⟩ := hr2 t ht
  have hLt : B.L t = B.nv := (hG.X t ht).n
  rw [hLs] at hcs hints
  rw [hLt] at hct hintt
  have hnv1 := hG.nv1
  obtain ⟨bs, os, rfl, hbs, hrs⟩ := hints.cells (by omega)
  obtain ⟨bt, ot, rfl, hbt, hrt⟩ := hintt.cells (by omega)
  have HRS := Lib.hid hrs
  have HRT := Lib.hid hrt
  have hbs' : bs < ws.heap.size := by have := HNS.out; omega
  have hbt' : bt < ws.heap.size := by have := HNS.out; omega
  have hb2' : b2 < ws.heap.size := by have := HNS.out; omega
  have hsi : (s : Int) < (B.ns : Int) := by omega
  have hti : (t : Int) < (B.ns : Int) := by omega
  clear hG hr2 hrs hrt hints hintt hLs hLt
  go_enter Try.func92, Try.ntmps92
  go_wp2
  clear hws
  go_loopw [7, 8] (fun o i wr => ∃ k : Nat, k ≤ B.nv ∧ i = .int .i64 k ∧ Hid (OwnI ws.heap.size wr o (ints (apartL B s t k))) ∧ Hid (Below ws.heap.size ws wr)) (fun _ i _ => B.nv - (intOf i).toNat)
  case atStart => exact ⟨0, Nat.zero_le _, rfl, own_nil _ _, HB0⟩
  case round =>
    obtain ⟨k, hk, rfl, ho, HB1⟩ := hrel
    have c1 := (old_of HB1.out).1
    have hsz1 := Nat.lt_of_lt_of_le hsz HB1.out.size
    have hs1 := HB1.out.size
    by_cases hkn : k < B.nv
    · have hki : (k : Int) < (B.nv : Int) := by omega
      have hcks := (c1 bs (os + k) hbs').trans (HRS.out k hkn)
      have hckt := (c1 bt (ot + k) hbt').trans (HRT.out k hkn)
      have hcs' := (c1 b2 (off2 + s) hb2').trans hcs
      have hct' := (c1 b2 (off2 + t) hb2').trans hct
      have hsr : bs < wr.heap.size := by omega
      have htr : bt < wr.heap.size := by omega
      have h2r : b2 < wr.heap.size := by omega
      clear hbs' hbt' hb2' hcs hct
      have hal := apartL_len B s t k
      have hil : (ints (apartL B s t k)).length ≤ 5 := by rw [ints_len]; omega
      have hown := own_mono ho.out (Nat.le_refl _)
      clear hal
      by_cases hx : B.X s k = B.X t k
      · have HP : Hid (ints (apartL B s t (k + 1)) = ints (apartL B s t k)) := by unfold Hid; rw [apartL_miss hx]
        have hxe : (B.X s k != B.X t k) = false := by simp [hx]
        clear hx
        generalize ints (apartL B s t k) = li at *
        go_wp2
        go_quiet (fail)
        have HBq : Hid (Below ws.heap.size ws (wr.drewN nq)) := below_drewN HB1.out nq
        have hown2 := own_below hown (below_drewN (Below.refl _ _) nq)
        go_wp2
        go_roundw
        case rel => exact ⟨k + 1, by omega, by go_num, by rw [HP.out]; exact hown2, HBq⟩
        case measure => simp [intOf]; omega
      · have HP : Hid (ints (apartL B s t (k + 1)) = ints (apartL B s t k) ++ [(k : Int)]) := by unfold Hid; rw [apartL_hit hx, ints_snoc]
        have hxe : (B.X s k != B.X t k) = true := by simp [hx]
        clear hx
        generalize ints (apartL B s t k) = li at *
        go_wp2
        go_quiet (fail)
        have HBq : Hid (Below ws.heap.size ws (wr.drewN nq)) := below_drewN HB1.out nq
        have hown2 := own_below hown (below_drewN (Below.refl _ _) nq)
        have hsq := HBq.out.size
        go_wp2_with (at_builtin; refine wpList_append_own _ rfl _ _ 22 rfl ws.heap.size 3 i0 (.int .i64 0) 1 8 Try.underlying22 hi hz0 hz1 hz2 rfl (by decide) _ _ _ rfl (hown2.alloc _) ⟨wr.heap.size, 0, none⟩ 1 1 [.int .i64 k] rfl rfl (cell_one_new _ _ _) (by simp [Value.oneCell']) (by unfold maxLen; omega) (by omega) (by simp; omega) ?_; intro v' w2 hown3 hgrow _)
        go_roundw
        case rel => exact ⟨k + 1, by omega, by go_num, by rw [HP.out]; unfold Hid OwnI; rw [List.length_append, List.map_append]; exact hown3, (HBq.out.alloc hsq _).grown hgrow (by simp; omega) (fun j e => (hown2.lt j e).1)⟩
        case measure => simp [intOf]; omega
    · have HK : Hid (k = B.nv) := by unfold Hid; omega
      go_wp2
      go_ret
      exact ⟨_, rfl, by rw [HK.out] at ho; exact own_mono ho.out HB.out.size, fin HB.out HB1.out⟩

/-- all sorts differ -/
def diffB (B : KB) : Bool := allB B.ns fun i => allB i fun j => decide ((apartL B i j B.nv).length ≠ 0)
def eDiff (B : KB) : Int := if okKB B then (if diffB B then 0 else 3) else 20

set_option maxRecDepth 100000 in
set_option maxHeartbeats 3200000 in
theorem differ_any (N : Nat) (v : Value) (B : KB) (w : World) (h : BookAt N w v B) :
    Calls Try.prog 96 #[v] w fun e w' => e = .returned (.int .i64 (eDiff B)) ∧ Below w.heap.size w w' := by
  have h' := h
  obtain ⟨_, a1, z1, a2, z2, a3, z3, rfl, _⟩ := h'
  obtain ⟨ws, hws, HB, hsz, hblk⟩ := box1 w (.cells #[.slice a1 B.nv z1, .slice a2 B.ns z2, .slice a3 B.D.n z3] 26)
  have q0 := cell_blk hblk 0 rfl
  have q1 := cell_blk hblk 1 rfl
  have q2 := cell_blk hblk 2 rfl
  have HBK := Lib.hid (h.go HB.out)
  have HB0 : Hid (Below ws.heap.size ws ws) := Below.refl _ _
  have HNS : Hid (N ≤ ws.heap.size) := HBK.out.1
  have hlens := h.lens
  obtain ⟨hlv, hls, hln⟩ := hlens
  clear hblk h
  cases hv : okKB B with
  | false =>
    have HA : Hid (chk B = 20) := chk_no hv
    have HE : Hid (eDiff B = 20) := by unfold Hid eDiff; rw [hv]; rfl
    clear hv
    go_enter Try.func96, Try.ntmps96
    go_wp2_with (go_at_call 47; refine (rCheck_any N _ B _ (HBK.out.go HB0.out)).mono ?_; rintro e w1 ⟨rfl, hb1⟩; rw [HA.out]; (try clear c0); have HB1 := Lib.hid (bel HB0.out hb1); have c1 := (old_of HB1.out).1; clear hb1)
    go_ret
    exact ⟨ret_int HE.out.symm, fin HB.out HB1.out⟩
  | true =>
    have HA : Hid (chk B = 0) := chk_yes hv
    have HE : Hid (eDiff B = if diffB B then 0 else 3) := by unfold Hid eDiff; rw [hv]; rfl
    have HG := Lib.hid (goodB hv)
    have hns8 := (goodB hv).ns
    clear hv
    go_enter Try.func96, Try.ntmps96
    go_wp2_with (go_at_call 47; refine (rCheck_any N _ B _ (HBK.out.go HB0.out)).mono ?_; rintro e w1 ⟨rfl, hb1⟩; rw [HA.out]; (try clear c0); have HB1 := Lib.hid (bel HB0.out hb1); have c1 := (old_of HB1.out).1; clear hb1)
    clear hws
    go_loopw [4] (fun i wr => ∃ k : Nat, k ≤ B.ns ∧ i = .int .i64 k ∧ Hid (∀ i, i < k → (allB i fun j => decide ((apartL B i j B.nv).length ≠ 0)) = true) ∧ Hid (Below ws.heap.size ws wr)) (fun i _ => B.ns - (intOf i).toNat)
    case atStart => exact ⟨0, Nat.zero_le _, rfl, fun j hj => absurd hj (Nat.not_lt_zero j), HB1⟩
    case round =>
      (try clear c1)
      obtain ⟨k, hk, rfl, hj, HB2⟩ := hrel
      have c2 := (old_of HB2.out).1
      have hsz2 := Nat.lt_of_lt_of_le hsz HB2.out.size
      by_cases hkn : k < B.ns
      · have hki : (k : Int) < (B.ns : Int) := by omega
        go_wp2
        go_loopw [5] (fun i wr => ∃ l : Nat, l ≤ k ∧ i = .int .i64 l ∧ Hid (∀ j, j < l → decide ((apartL B k j B.nv).length ≠ 0) = true) ∧ Hid (Below ws.heap.size ws wr)) (fun i _ => k - (intOf i).toNat)
        case atStart => exact ⟨0, Nat.zero_le _, rfl, fun j hj => absurd hj (Nat.not_lt_zero j), HB2⟩
        case round =>
          (try clear c2)
          obtain ⟨l, hl, rfl, hjl, HB3⟩ := hrel
          have c3 := (old_of HB3.out).1
          have hsz3 := Nat.lt_of_lt_of_le hsz HB3.out.size
          by_cases hlk : l < k
          · have hli : (l : Int) < (k : Int) := by omega
            cases hz : decide ((apartL B k l B.nv).length ≠ 0) with
            | true =>
              have HZ := Lib.hid hz
              have hze : (((apartL B k l B.nv).length : Int) == 0) = false := by
                have h9 := of_decide_eq_true hz
                rw [beq_eq_false_iff_ne]; intro e9; exact h9 (by omega)
              clear hz
              go_wp2_with (go_at_call 92; refine (apartOf_any N _ B k l _ (HBK.out.go HB3.out) HG.out hkn (by omega)).mono ?_; rintro e w4 ⟨v4, rfl, ho4, hb4⟩; obtain ⟨ao, co, rfl⟩ := own_form ho4; rw [ints_len]; clear ho4; (try clear c3); have HB4 := Lib.hid (bel HB3.out hb4); have c4 := (old_of HB4.out).1; clear hb4)
              go_roundw
              case rel => exact ⟨l + 1, by omega, by go_num, lt_succ hjl.out HZ.out, HB4⟩
              case measure => simp [intOf]; omega
            | false =>
              have HD : Hid (diffB B = false) := by
                unfold Hid diffB
                exact allB_succ_false hkn (allB_succ_false hlk hz)
              have hze : (((apartL B k l B.nv).length : Int) == 0) = true := by
                have h9 : (apartL B k l B.nv).length = 0 := Decidable.not_not.1 (of_decide_eq_false hz)
                rw [h9]; rfl
              clear hz
              go_wp2_with (go_at_call 92; refine (apartOf_any N _ B k l _ (HBK.out.go HB3.out) HG.out hkn (by omega)).mono ?_; rintro e w4 ⟨v4, rfl, ho4, hb4⟩; obtain ⟨ao, co, rfl⟩ := own_form ho4; rw [ints_len]; clear ho4; (try clear c3); have HB4 := Lib.hid (bel HB3.out hb4); have c4 := (old_of HB4.out).1; clear hb4)
              go_ret
              exact ⟨ret_int (by rw [HE.out, HD.out]; rfl), fin HB.out HB4.out⟩
          · have HK : Hid ((allB k fun j => decide ((apartL B k j B.nv).length ≠ 0)) = true) := by unfold Hid; rw [allB_true]; exact fun j hj => hjl.out j (by omega)
            go_wp2
            go_roundw
            case rel => exact ⟨k + 1, by omega, by go_num, lt_succ hj.out HK.out, HB3⟩
            case measure => simp [intOf]; omega
      · have HD : Hid (diffB B = true) := by unfold Hid diffB; rw [allB_true]; exact fun i hi => hj.out i (by omega)
        go_wp2
        go_ret
        exact ⟨ret_int (by rw [HE.out, HD.out]; rfl), fin HB.out HB2.out⟩

/-- what Best says (mean: Mean) -/
def eLeast (B : KB) (mean : Bool) : Int × Int := if okKB B then (if diffB B then (leastL B mean 8 (List.range B.ns), 0) else (0, 3)) else (0, 20)

set_option maxRecDepth 100000 in
set_option maxHeartbeats 1600000 in
theorem rBest_any (N : Nat) (v : Value) (B : KB) (w : World) (h : BookAt N w v B) :
    Calls Try.prog 60 #[v] w fun e w' => e = .returned (.tuple #[.int .i64 (eLeast B false).1, .int .i64 (eLeast B false).2]) ∧ Below w.heap.size w w' := by
  have h' := h
  obtain ⟨_, a1, z1, a2, z2, a3, z3, rfl, _⟩ := h'
  obtain ⟨ws, hws, HB, hsz, hblk⟩ := box1 w (.cells #[.slice a1 B.nv z1, .slice a2 B.ns z2, .slice a3 B.D.n z3] 26)
  have q0 := cell_blk hblk 0 rfl
  have q1 := cell_blk hblk 1 rfl
  have q2 := cell_blk hblk 2 rfl
  have HBK := Lib.hid (h.go HB.out)
  have HB0 : Hid (Below ws.heap.size ws ws) := Below.refl _ _
  have HNS : Hid (N ≤ ws.heap.size) := HBK.out.1
  have hlens := h.lens
  obtain ⟨hlv, hls, hln⟩ := hlens
  clear hblk h
  cases hv : okKB B with
  | false =>
    have HA : Hid (eDiff B = 20) := by unfold Hid eDiff; rw [hv]; rfl
    have HE : Hid (eLeast B false = (0, 20)) := by unfold Hid eLeast; rw [hv]; rfl
    clear hv
    go_enter Try.func60, Try.ntmps60
    go_wp2_with (go_at_call 96; refine (differ_any N _ B _ (HBK.out.go HB0.out)).mono ?_; rintro e w1 ⟨rfl, hb1⟩; rw [HA.out]; (try clear c0); have HB1 := Lib.hid (bel HB0.out hb1); have c1 := (old_of HB1.out).1; clear hb1)
    go_ret2
    exact ⟨by rw [HE.out]; rfl, fin HB.out HB1.out⟩
  | true =>
    cases hd : diffB B with
    | false =>
      have HA : Hid (eDiff B = 3) := by unfold Hid eDiff; rw [hv, hd]; rfl
      have HE : Hid (eLeast B false = (0, 3)) := by unfold Hid eLeast; rw [hv, hd]; rfl
      clear hv hd
      go_enter Try.func60, Try.ntmps60
      go_wp2_with (go_at_call 96; refine (differ_any N _ B _ (HBK.out.go HB0.out)).mono ?_; rintro e w1 ⟨rfl, hb1⟩; rw [HA.out]; (try clear c0); have HB1 := Lib.hid (bel HB0.out hb1); have c1 := (old_of HB1.out).1; clear hb1)
      go_ret2
      exact ⟨by rw [HE.out]; rfl, fin HB.out HB1.out⟩
    | true =>
      have HA : Hid (eDiff B = 0) := by unfold Hid eDiff; rw [hv, hd]; rfl
      have HE : Hid (eLeast B false = (leastL B false 8 (List.range B.ns), 0)) := by unfold Hid eLeast; rw [hv, hd]; rfl
      have HG := Lib.hid (goodB hv)
      have hns8 := (goodB hv).ns
      have HLR : Hid ((List.range B.ns).length ≤ 8 ∧ ∀ s, s ∈ List.range B.ns → s < B.ns) := ⟨by simpa using hns8, fun s hs => List.mem_range.1 hs⟩
      clear hv hd
      go_enter Try.func60, Try.ntmps60
      go_wp2_with (go_at_call 96; refine (differ_any N _ B _ (HBK.out.go HB0.out)).mono ?_; rintro e w1 ⟨rfl, hb1⟩; rw [HA.out]; (try clear c0); have HB1 := Lib.hid (bel HB0.out hb1); have c1 := (old_of HB1.out).1; clear hb1)
      clear hws
      have S1d := old_of HB1.out.drew; have HB1d := S1d.2
      go_region_held3 (fun w' => (∀ b o, b < ws.heap.size → w'.cell? ⟨b, o, none⟩ = ws.cell? ⟨b, o, none⟩) ∧ Hid (Below ws.heap.size ws w')) (assumption) (first
        | (go_at_call 99; refine (all_any N _ B _ (HBK.out.go HB1d.out) hns8).mono ?_; rintro e w2 ⟨v2, rfl, ho2, hb2⟩; have HO2 := Lib.hid ho2; clear ho2; have S2 := old_of (bel HB1d.out hb2); have HB2 := S2.2; clear hb2)
        | (go_at_call 98; refine (least_any B HG.out false 8 (Nat.le_refl _) (List.range B.ns) N _ _ _ HLR.out.1 (HBK.out.go HB2.out) (grp_of_own HO2.out (Nat.le_trans HLR.out.1 (by omega))) HLR.out.2).mono ?_; rintro e w3 ⟨rfl, hb3⟩; have S3 := old_of (bel HB2.out hb3); have HB3 := S3.2; clear hb3))
      have HB3 := S3.2
      clear S3 S2 S1d
      go_wp2
      go_ret2
      exact ⟨by rw [HE.out]; rfl, fin HB.out HB3.out⟩

set_option maxRecDepth 100000 in
set_option maxHeartbeats 1600000 in
theorem rMean_any (N : Nat) (v : Value) (B : KB) (w : World) (h : BookAt N w v B) :
    Calls Try.prog 61 #[v] w fun e w' => e = .returned (.tuple #[.int .i64 (eLeast B true).1, .int .i64 (eLeast B true).2]) ∧ Below w.heap.size w w' := by
  have h' := h
  obtain ⟨_, a1, z1, a2, z2, a3, z3, rfl, _⟩ := h'
  obtain ⟨ws, hws, HB, hsz, hblk⟩ := box1 w (.cells #[.slice a1 B.nv z1, .slice a2 B.ns z2, .slice a3 B.D.n z3] 26)
  have q0 := cell_blk hblk 0 rfl
  have q1 := cell_blk hblk 1 rfl
  have q2 := cell_blk hblk 2 rfl
  have HBK := Lib.hid (h.go HB.out)
  have HB0 : Hid (Below ws.heap.size ws ws) := Below.refl _ _
  have HNS : Hid (N ≤ ws.heap.size) := HBK.out.1
  have hlens := h.lens
  obtain ⟨hlv, hls, hln⟩ := hlens
  clear hblk h
  cases hv : okKB B with
  | false =>
    have HA : Hid (eDiff B = 20) := by unfold Hid eDiff; rw [hv]; rfl
    have HE : Hid (eLeast B true = (0, 20)) := by unfold Hid eLeast; rw [hv]; rfl
    clear hv
    go_enter Try.func61, Try.ntmps61
    go_wp2_with (go_at_call 96; refine (differ_any N _ B _ (HBK.out.go HB0.out)).mono ?_; rintro e w1 ⟨rfl, hb1⟩; rw [HA.out]; (try clear c0); have HB1 := Lib.hid (bel HB0.out hb1); have c1 := (old_of HB1.out).1; clear hb1)
    go_ret2
    exact ⟨by rw [HE.out]; rfl, fin HB.out HB1.out⟩
  | true =>
    cases hd : diffB B with
    | false =>
      have HA : Hid (eDiff B = 3) := by unfold Hid eDiff; rw [hv, hd]; rfl
      have HE : Hid (eLeast B true = (0, 3)) := by unfold Hid eLeast; rw [hv, hd]; rfl
      clear hv hd
      go_enter Try.func61, Try.ntmps61
      go_wp2_with (go_at_call 96; refine (differ_any N _ B _ (HBK.out.go HB0.out)).mono ?_; rintro e w1 ⟨rfl, hb1⟩; rw [HA.out]; (try clear c0); have HB1 := Lib.hid (bel HB0.out hb1); have c1 := (old_of HB1.out).1; clear hb1)
      go_ret2
      exact ⟨by rw [HE.out]; rfl, fin HB.out HB1.out⟩
    | true =>
      have HA : Hid (eDiff B = 0) := by unfold Hid eDiff; rw [hv, hd]; rfl
      have HE : Hid (eLeast B true = (leastL B true 8 (List.range B.ns), 0)) := by unfold Hid eLeast; rw [hv, hd]; rfl
      have HG := Lib.hid (goodB hv)
      have hns8 := (goodB hv).ns
      have HLR : Hid ((List.range B.ns).length ≤ 8 ∧ ∀ s, s ∈ List.range B.ns → s < B.ns) := ⟨by simpa using hns8, fun s hs => List.mem_range.1 hs⟩
      clear hv hd
      go_enter Try.func61, Try.ntmps61
      go_wp2_with (go_at_call 96; refine (differ_any N _ B _ (HBK.out.go HB0.out)).mono ?_; rintro e w1 ⟨rfl, hb1⟩; rw [HA.out]; (try clear c0); have HB1 := Lib.hid (bel HB0.out hb1); have c1 := (old_of HB1.out).1; clear hb1)
      clear hws
      have S1d := old_of HB1.out.drew; have HB1d := S1d.2
      go_region_held3 (fun w' => (∀ b o, b < ws.heap.size → w'.cell? ⟨b, o, none⟩ = ws.cell? ⟨b, o, none⟩) ∧ Hid (Below ws.heap.size ws w')) (assumption) (first
        | (go_at_call 99; refine (all_any N _ B _ (HBK.out.go HB1d.out) hns8).mono ?_; rintro e w2 ⟨v2, rfl, ho2, hb2⟩; have HO2 := Lib.hid ho2; clear ho2; have S2 := old_of (bel HB1d.out hb2); have HB2 := S2.2; clear hb2)
        | (go_at_call 98; refine (least_any B HG.out true 8 (Nat.le_refl _) (List.range B.ns) N _ _ _ HLR.out.1 (HBK.out.go HB2.out) (grp_of_own HO2.out (Nat.le_trans HLR.out.1 (by omega))) HLR.out.2).mono ?_; rintro e w3 ⟨rfl, hb3⟩; have S3 := old_of (bel HB2.out hb3); have HB3 := S3.2; clear hb3))
      have HB3 := S3.2
      clear S3 S2 S1d
      go_wp2
      go_ret2
      exact ⟨by rw [HE.out]; rfl, fin HB.out HB3.out⟩

end Go.Proofs.Ytbieglmpkljjjaa
