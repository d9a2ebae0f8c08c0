/-
  Less: with one sort less nothing is greater: the mathematics.
-/
import Derived.Test.YtbieglmpkljjjaaFew
namespace Go.Proofs.Ytbieglmpkljjjaa
open Go.RowKit

/-- the members of g all differ, by members -/
def DifM (B : KB) (g : List Nat) : Prop := ∀ a, a ∈ g → ∀ b, b ∈ g → a ≠ b → ∃ m, m < B.nv ∧ B.X a m ≠ B.X b m
theorem difM_diffG {B : KB} {g : List Nat} (h : DifM B g) (hn : g.Nodup) : DiffG B g := by
  intro i j hij hj
  refine h _ (getD_mem (by omega)) _ (getD_mem hj) fun e => ?_
  have h1 : g[i]'(by omega) = g[j]'hj := by simpa [List.getD, hj, show i < g.length by omega] using e
  have := (List.getElem_inj hn).1 h1
  omega
theorem DifM.sub {B : KB} {g g' : List Nat} (h : DifM B g) (hs : ∀ a, a ∈ g' → a ∈ g) : DifM B g' := fun a ha b hb => h a (hs a ha) b (hs b hb)
theorem DifM.hav {B : KB} {g : List Nat} (h : DifM B g) (m : Nat) (y : Int) : DifM B (havL B g m y) := h.sub fun _ ha => havL_mem ha

theorem totalTo_from (a : Int) (f : Nat → Int) (h : ∀ v, 0 ≤ f v) : ∀ n, a ≤ totalTo a f n ∧ ∀ v, v < n → a + f v ≤ totalTo a f n := by
  intro n
  induction n with
  | zero => exact ⟨by simp [totalTo], fun v hv => absurd hv (Nat.not_lt_zero v)⟩
  | succ n ih =>
    have := h n
    simp only [totalTo]
    refine ⟨by omega, fun v hv => ?_⟩
    rcases Nat.lt_succ_iff_lt_or_eq.1 hv with e | e
    · have := ih.2 v e; omega
    · subst e; omega
theorem worstTo_from (f : Nat → Int) : ∀ n, 0 ≤ worstTo f n ∧ ∀ v, v < n → f v + 1 ≤ worstTo f n := by
  intro n
  induction n with
  | zero => exact ⟨by simp [worstTo], fun v hv => absurd hv (Nat.not_lt_zero v)⟩
  | succ n ih =>
    simp only [worstTo]
    refine ⟨by omega, fun v hv => ?_⟩
    rcases Nat.lt_succ_iff_lt_or_eq.1 hv with e | e
    · have := ih.2 v e; omega
    · subst e; omega
theorem totalTo_mono {a b : Int} {f g : Nat → Int} (hab : a ≤ b) (h : ∀ v, f v ≤ g v) : ∀ n, totalTo a f n ≤ totalTo b g n := by
  intro n
  induction n with
  | zero => exact hab
  | succ n ih => have := h n; simp only [totalTo]; omega
theorem worstTo_mono {f g : Nat → Int} (h : ∀ v, f v ≤ g v) : ∀ n, worstTo f n ≤ worstTo g n := by
  intro n
  induction n with
  | zero => simp [worstTo]
  | succ n ih => have := h n; simp only [worstTo]; omega
theorem costL_mono {B : KB} {mean : Bool} {g g' : List Nat} {m : Nat} {L : List Nat → Int} (hl : g'.length ≤ g.length) (h : ∀ y, L (havL B g' m y) ≤ L (havL B g m y)) : costL B mean g' m L ≤ costL B mean g m L := by
  unfold costL
  split
  · exact totalTo_mono (by omega) (fun v => h v) _
  · exact worstTo_mono (fun v => h v) _
theorem costL_sign {B : KB} {mean : Bool} {g : List Nat} {m : Nat} {L : List Nat → Int} (h : ∀ y, 0 ≤ L (havL B g m y)) : 0 ≤ costL B mean g m L := by
  unfold costL
  split
  · have := (totalTo_from (g.length : Int) (fun v => L (havL B g m v)) (fun v => h v) (B.V m).toNat).1; omega
  · exact (worstTo_from _ _).1
theorem costL_part {B : KB} {mean : Bool} {g : List Nat} {m : Nat} {L : List Nat → Int} (h : ∀ y, 0 ≤ L (havL B g m y)) {v : Nat} (hv : v < (B.V m).toNat) : L (havL B g m v) ≤ costL B mean g m L := by
  unfold costL
  split
  · have := (totalTo_from (g.length : Int) (fun v => L (havL B g m v)) (fun v => h v) (B.V m).toNat).2 v hv; omega
  · have := (worstTo_from (fun v => L (havL B g m v)) (B.V m).toNat).2 v hv; omega

/-- the best of all marks is reached, and is none's more -/
theorem bestTo_min {B : KB} {mean : Bool} {g : List Nat} {L : List Nat → Int} (h : ∀ m, m < B.nv → splitL B g m = true → 0 ≤ costL B mean g m L) : ∀ n, n ≤ B.nv →
    (0 ≤ bestTo B mean g L n → ∃ m, m < n ∧ splitL B g m = true ∧ bestTo B mean g L n = costL B mean g m L) ∧
    (∀ m, m < n → splitL B g m = true → 0 ≤ bestTo B mean g L n ∧ bestTo B mean g L n ≤ costL B mean g m L) := by
  intro n
  induction n with
  | zero => exact fun _ => ⟨fun h => by simp [bestTo] at h, fun m hm => absurd hm (Nat.not_lt_zero m)⟩
  | succ n ih =>
    intro hn
    obtain ⟨h1, h2⟩ := ih (by omega)
    cases hs : splitL B g n with
    | false =>
      simp only [bestTo, hs, Bool.false_eq_true, if_false]
      refine ⟨fun h => ?_, fun m hm hsm => ?_⟩
      · obtain ⟨m, hm, e⟩ := h1 h; exact ⟨m, by omega, e⟩
      · rcases Nat.lt_succ_iff_lt_or_eq.1 hm with e | e
        · exact h2 m e hsm
        · subst e; rw [hs] at hsm; cases hsm
    | true =>
      have hc := h n (by omega) hs
      simp only [bestTo, hs, if_true]
      unfold pickC
      split
      · rename_i hp
        refine ⟨fun _ => ⟨n, by omega, hs, rfl⟩, fun m hm hsm => ⟨hc, ?_⟩⟩
        rcases Nat.lt_succ_iff_lt_or_eq.1 hm with e | e
        · have := h2 m e hsm; omega
        · subst e; exact Int.le_refl _
      · rename_i hp
        refine ⟨fun h => ?_, fun m hm hsm => ?_⟩
        · obtain ⟨m, hm, e⟩ := h1 h; exact ⟨m, by omega, e⟩
        · rcases Nat.lt_succ_iff_lt_or_eq.1 hm with e | e
          · exact h2 m e hsm
          · subst e; omega

theorem havL_sub {B : KB} {g g' : List Nat} (h : g'.Sublist g) (m : Nat) (y : Int) : (havL B g' m y).Sublist (havL B g m y) := h.filter _
theorem havL_whole {B : KB} {g : List Nat} {m : Nat} (h : splitL B g m = false) : havL B g m (B.X (g.getD 0 0) m) = g := by
  have h1 := of_decide_eq_false h
  have h2 : (havL B g m (B.X (g.getD 0 0) m)).Sublist g := List.filter_sublist
  exact h2.eq_of_length_le (by omega)

theorem leastL_mono {B : KB} {mean : Bool} : ∀ (f : Nat) (g g' : List Nat), g'.Sublist g → g.length ≤ f → g.Nodup → DifM B g → (∀ s, s ∈ g → ∀ m, m < B.nv → 0 ≤ B.X s m ∧ B.X s m < B.V m) →
    leastL B mean f g' ≤ leastL B mean f g := by
  intro f
  induction f with
  | zero => intro g g' _ _ _ _ _; simp [leastL]
  | succ f ih =>
    intro g g' hs hf hnd hd hX
    have hl := hs.length_le
    by_cases h1 : g'.length ≤ 1
    · rw [leastL_small _ _ _ _ h1]; exact leastL_pos B mean _ g hf hnd (difM_diffG hd hnd)
    have h1g : ¬ g.length ≤ 1 := by omega
    have hnd' : g'.Nodup := hnd.sublist hs
    have hd' : DifM B g' := hd.sub fun a ha => hs.subset ha
    have hgn : ∀ {l : List Nat}, ¬ l.length ≤ 1 → l ≠ [] := fun h e => by rw [e] at h; simp at h
    have hpart : ∀ (l : List Nat), l.Sublist g → ¬ l.length ≤ 1 → ∀ m, m < B.nv → splitL B l m = true → ∀ y, 0 ≤ leastL B mean f (havL B l m y) := fun l hlg h2 m _ hsp y => by
      have hln : l.Nodup := hnd.sublist hlg
      have := havL_lt (hgn h2) hsp y
      have := hlg.length_le
      exact leastL_pos B mean f _ (by omega) (hln.filter _) (difM_diffG ((hd.sub fun a ha => hlg.subset ha).hav m y) (hln.filter _))
    have hcg := fun m hm hsp => costL_sign (mean := mean) (hpart g (List.Sublist.refl g) h1g m hm hsp)
    have hcg' := fun m hm hsp => costL_sign (mean := mean) (hpart g' hs h1 m hm hsp)
    obtain ⟨m0, hm0, hsp0⟩ := diff_split (difM_diffG hd hnd) (by omega)
    obtain ⟨m1, hm1, hsp1⟩ := diff_split (difM_diffG hd' hnd') (by omega)
    have hpos := ((bestTo_min hcg B.nv (Nat.le_refl _)).2 m0 hm0 hsp0).1
    obtain ⟨m, hm, hsp, e⟩ := (bestTo_min hcg B.nv (Nat.le_refl _)).1 hpos
    have hq := hpart g (List.Sublist.refl g) h1g m hm hsp
    have eg : leastL B mean (f + 1) g = costL B mean g m (leastL B mean f) := by rw [leastL, if_neg h1g, e]
    rw [eg]
    have hlt : ∀ y, (havL B g m y).length ≤ f := fun y => by have := havL_lt (hgn h1g) hsp y; omega
    have hstep : ∀ (l : List Nat) y, l.Sublist (havL B g m y) → leastL B mean f l ≤ leastL B mean f (havL B g m y) := fun l y hly =>
      ih _ _ hly (hlt y) (hnd.filter _) (hd.hav m y) fun s hs => hX s (havL_mem hs)
    cases hsp' : splitL B g' m with
    | true =>
      rw [leastL, if_neg h1]
      refine Int.le_trans ((bestTo_min hcg' B.nv (Nat.le_refl _)).2 m hm hsp').2 (costL_mono hl fun y => hstep _ y (havL_sub hs m y))
    | false =>
      have hw := havL_whole hsp'
      have hmem : g'.getD 0 0 ∈ g := hs.subset (getD_mem (by omega))
      obtain ⟨x0, x1⟩ := hX _ hmem m hm
      obtain ⟨v, hv⟩ : ∃ v : Nat, B.X (g'.getD 0 0) m = v := ⟨(B.X (g'.getD 0 0) m).toNat, by omega⟩
      rw [hv] at hw x1
      have hsub : g'.Sublist (havL B g m v) := by
        have := havL_sub (B := B) hs m (v : Int)
        rw [hw] at this
        exact this
      have := hsub.length_le
      have := hlt v
      rw [leastL_fuel B mean f g' (by omega)]
      exact Int.le_trans (hstep _ _ hsub) (costL_part hq (by omega))

/-! ### the same sorts under other numbers -/

theorem havL_map {B C : KB} {r : Nat → Nat} (hx : ∀ i m, C.X i m = B.X (r i) m) (g : List Nat) (m : Nat) (y : Int) : (havL C g m y).map r = havL B (g.map r) m y := by
  unfold havL; rw [List.filter_map]; congr 1; refine List.filter_congr fun s _ => ?_; simp [hx]
theorem splitL_map {B C : KB} {r : Nat → Nat} (hx : ∀ i m, C.X i m = B.X (r i) m) (g : List Nat) (m : Nat) (h : g ≠ []) : splitL C g m = splitL B (g.map r) m := by
  have h0 : C.X (g.getD 0 0) m = B.X ((g.map r).getD 0 0) m := by
    cases g with
    | nil => exact absurd rfl h
    | cons a l => simp [hx]
  unfold splitL
  rw [← h0, ← havL_map hx, List.length_map, List.length_map]
theorem costL_map {B C : KB} {mean : Bool} {r : Nat → Nat} (hV : C.V = B.V) (hx : ∀ i m, C.X i m = B.X (r i) m) {g : List Nat} {m : Nat} {L L' : List Nat → Int} (h : ∀ l, L l = L' (l.map r)) : costL C mean g m L = costL B mean (g.map r) m L' := by
  unfold costL
  rw [hV, List.length_map]
  have : ∀ y, L (havL C g m y) = L' (havL B (g.map r) m y) := fun y => by rw [h, havL_map hx]
  split
  · exact totalTo_congr fun i _ => this i
  · exact worstTo_congr fun i _ => this i
theorem leastL_map {B C : KB} {mean : Bool} {r : Nat → Nat} (hn : C.nv = B.nv) (hV : C.V = B.V) (hx : ∀ i m, C.X i m = B.X (r i) m) : ∀ f g, leastL C mean f g = leastL B mean f (g.map r) := by
  intro f
  induction f with
  | zero => intro g; rfl
  | succ f ih =>
    intro g
    by_cases h1 : g.length ≤ 1
    · rw [leastL_small _ _ _ _ h1, leastL_small _ _ _ _ (by rw [List.length_map]; exact h1)]
    · have hg : g ≠ [] := fun e => by rw [e] at h1; simp at h1
      rw [leastL, leastL, List.length_map, if_neg h1, if_neg h1, hn]
      have : ∀ n, bestTo C mean g (leastL C mean f) n = bestTo B mean (g.map r) (leastL B mean f) n := by
        intro n
        induction n with
        | zero => rfl
        | succ n ihn => simp only [bestTo]; rw [splitL_map hx g n hg, ihn, costL_map hV hx ih]
      exact this _

/-! ### the book with one sort less -/

/-- the number of a sort, ahead of the one left out and behind it -/
def skipN (k i : Nat) : Nat := if i < k then i else i + 1
/-- the nodes that stand alone: one end that names nothing -/
def loneN : Nd := { n := 1, M := fun _ => -1, q := fun _ => 0, T := fun _ _ => 0, S := fun _ => -1 }
def lessB (B : KB) (k : Nat) : KB := { B with ns := B.ns - 1, L := fun i => B.L (skipN k i), X := fun i => B.X (skipN k i), D := loneN }
theorem skip_lt {k i n : Nat} (hk : k < n) (hi : i < n - 1) : skipN k i < n := by unfold skipN; split <;> omega
theorem skip_ne (k i : Nat) : skipN k i ≠ k := by unfold skipN; split <;> omega
theorem skip_mono {k i j : Nat} (h : i < j) : skipN k i < skipN k j := by unfold skipN; split <;> split <;> omega
theorem less_ok {B : KB} {k : Nat} (h : okKB B = true) (hk : k < B.ns) : okKB (lessB B k) = true := by
  unfold okKB at h ⊢
  rw [Bool.and_eq_true, Bool.and_eq_true] at h ⊢
  refine ⟨⟨h.1.1, ?_⟩, ?_⟩
  · have h2 := h.1.2
    unfold okS at h2 ⊢
    rw [Bool.and_eq_true, allB_true, decide_eq_true_eq] at h2 ⊢
    refine ⟨?_, fun i hi => h2.2 _ (skip_lt hk hi)⟩
    show B.ns - 1 ≤ 8
    omega
  · rfl
theorem less_map (B : KB) {k : Nat} (hk : k < B.ns) : ((List.range (B.ns - 1)).map (skipN k)).Sublist (List.range B.ns) := by
  have key : ∀ n, ((List.range n).map (skipN k)).Sublist (List.range (skipN k n)) := by
    intro n
    induction n with
    | zero => simp
    | succ n ih =>
      rw [List.range_succ, List.map_append]
      have e : (List.range (skipN k n) ++ [skipN k n]).Sublist (List.range (skipN k (n + 1))) := by
        rw [← List.range_succ]
        exact List.range_sublist.2 (skip_mono (Nat.lt_succ_self n))
      exact (ih.append (List.Sublist.refl _)).trans e
  refine (key _).trans (List.range_sublist.2 ?_)
  unfold skipN
  split <;> omega
theorem diffB_difM {B : KB} (hd : diffB B = true) : DifM B (List.range B.ns) := by
  unfold diffB at hd
  have key : ∀ i j, j < i → i < B.ns → ∃ m, m < B.nv ∧ B.X i m ≠ B.X j m := fun i j hj hi => by
    have := of_decide_eq_true ((allB_true).1 ((allB_true).1 hd i hi) j hj)
    obtain ⟨m, hm⟩ := List.exists_mem_of_length_pos (Nat.pos_of_ne_zero this)
    exact ⟨m, apartL_mem.1 hm⟩
  intro a ha b hb hne
  rw [List.mem_range] at ha hb
  rcases Nat.lt_or_ge a b with h | h
  · obtain ⟨m, h1, h2⟩ := key b a h hb; exact ⟨m, h1, fun e => h2 e.symm⟩
  · exact key a b (by omega) ha

theorem less_least {B : KB} (hG : GoodB B) (hd : diffB B = true) {k : Nat} (hk : k < B.ns) (mean : Bool) :
    leastL (lessB B k) mean 8 (List.range (B.ns - 1)) ≤ leastL B mean 8 (List.range B.ns) := by
  rw [leastL_map (B := B) (C := lessB B k) (r := skipN k) rfl rfl (fun _ _ => rfl)]
  refine leastL_mono 8 _ _ (less_map B hk) (by rw [List.length_range]; exact hG.ns) List.nodup_range (diffB_difM hd) fun s hs m hm => ?_
  exact (hG.X s (List.mem_range.1 hs)).x m hm

theorem less_apart (B : KB) (k i j : Nat) : apartL (lessB B k) i j B.nv = apartL B (skipN k i) (skipN k j) B.nv := rfl
theorem less_apartS (B : KB) (k i j : Nat) : apartS (lessB B k) i j = apartS B (skipN k i) (skipN k j) := rfl
/-- no mark comes to Need -/
theorem less_need {B : KB} {k m : Nat} (hk : k < B.ns) (h : needI (lessB B k) m (B.ns - 1) = true) : needI B m B.ns = true := by
  obtain ⟨i, j, h1, h2, h3⟩ := needI_iff.1 h
  exact needI_iff.2 ⟨skipN k i, skipN k j, skip_mono h1, skip_lt hk h2, h3⟩
theorem less_diff {B : KB} (hd : diffB B = true) {k : Nat} (hk : k < B.ns) : diffB (lessB B k) = true := by
  unfold diffB at hd ⊢
  refine allB_true.2 fun i hi => allB_true.2 fun j hj => ?_
  exact allB_true.1 (allB_true.1 hd _ (skip_lt hk hi)) _ (skip_mono hj)
theorem less_tell {B : KB} {k m : Nat} (hk : k < B.ns) (h : tellL (pairsL B B.ns) m = true) : tellL (pairsL (lessB B k) (B.ns - 1)) m = true := by
  refine tellL_iff.2 fun i j h1 h2 => ?_
  exact tellL_iff.1 h _ _ (skip_mono h1) (skip_lt hk h2)
theorem fewF_of (l : List Nat) (nv : Nat) : ∀ k, (∀ m, m < k → tellL l m = true → fewF l nv k ≤ many m) ∧ (fewF l nv k = nv ∨ ∃ m, m < k ∧ tellL l m = true ∧ fewF l nv k = many m) := by
  intro k
  induction k with
  | zero => exact ⟨fun m hm => absurd hm (Nat.not_lt_zero m), .inl rfl⟩
  | succ k ih =>
    rw [fewF_succ]
    split
    · rename_i hp
      rw [Bool.and_eq_true, decide_eq_true_eq] at hp
      refine ⟨fun m hm ht => ?_, .inr ⟨k, by omega, hp.2, rfl⟩⟩
      rcases Nat.lt_succ_iff_lt_or_eq.1 hm with e | e
      · have := ih.1 m e ht; omega
      · subst e; exact Nat.le_refl _
    · rename_i hp
      refine ⟨fun m hm ht => ?_, ?_⟩
      · rcases Nat.lt_succ_iff_lt_or_eq.1 hm with e | e
        · exact ih.1 m e ht
        · subst e
          rw [Bool.and_eq_true, decide_eq_true_eq] at hp
          exact Nat.le_of_not_lt fun hc => hp ⟨hc, ht⟩
      · rcases ih.2 with e | ⟨m, hm, e⟩
        · exact .inl e
        · exact .inr ⟨m, by omega, e⟩
/-- Few is no greater -/
theorem less_few {B : KB} {k : Nat} (hk : k < B.ns) : fewF (pairsL (lessB B k) (B.ns - 1)) B.nv (2 ^ B.nv) ≤ fewF (pairsL B B.ns) B.nv (2 ^ B.nv) := by
  rcases (fewF_of (pairsL B B.ns) B.nv (2 ^ B.nv)).2 with e | ⟨m, hm, ht, e⟩
  · rw [e]; exact fewF_le _ _ _
  · rw [e]; exact (fewF_of _ _ _).1 m hm (less_tell hk ht)
/-- marks that tell all apart are no fewer than Few, and hold each mark of Need -/
theorem tell_few {B : KB} {m : Nat} (hm : m < 2 ^ B.nv) (h : tellL (pairsL B B.ns) m = true) : fewF (pairsL B B.ns) B.nv (2 ^ B.nv) ≤ many m := (fewF_of _ _ _).1 m hm h
theorem tell_diff {B : KB} (hG : GoodB B) {m : Nat} (h : tellL (pairsL B B.ns) m = true) : diffB B = true := by
  refine (diffB_iff hG.nv).2 fun d hd => ?_
  obtain ⟨i, j, h1, h2, rfl⟩ := pairsL_mem hd
  have := tellL_iff.1 h i j h1 h2
  intro e
  rw [apartS_many B i j hG.nv] at e
  refine this (Nat.eq_of_testBit_eq fun b => ?_)
  rw [Nat.testBit_and, apartS_bit hG]
  cases hb : (decide (b < B.nv) && decide (B.X i b ≠ B.X j b)) with
  | false => simp
  | true =>
    rw [Bool.and_eq_true, decide_eq_true_eq, decide_eq_true_eq, ← apartL_mem (n := B.nv)] at hb
    have := List.length_pos_of_mem hb
    omega
theorem tell_need {B : KB} (hG : GoodB B) {m n : Nat} (h : tellL (pairsL B B.ns) m = true) (hn : needI B n B.ns = true) : m.testBit n = true := by
  obtain ⟨i, j, h1, h2, h3⟩ := needI_iff.1 hn
  have := tellL_iff.1 h i j h1 h2
  cases hb : m.testBit n with
  | true => rfl
  | false =>
    refine absurd (Nat.eq_of_testBit_eq fun b => ?_) this
    rw [Nat.testBit_and, apartS_bit hG, Nat.zero_testBit]
    by_cases e : b = n
    · subst e; rw [hb]; simp
    · have : ¬ (b < B.nv ∧ B.X i b ≠ B.X j b) := fun hh => by
        have := apartL_mem.2 hh
        rw [h3] at this
        exact e (List.mem_singleton.1 this)
      cases hc : (decide (b < B.nv) && decide (B.X i b ≠ B.X j b)) with
      | false => simp
      | true => rw [Bool.and_eq_true, decide_eq_true_eq, decide_eq_true_eq] at hc; exact absurd hc this
theorem sel_mono {p q : Nat → Bool} (h : ∀ i, p i = true → q i = true) : ∀ n, (sel p n).length ≤ (sel q n).length := by
  intro n
  induction n with
  | zero => exact Nat.le_refl _
  | succ n ih =>
    cases hp : p n with
    | true => rw [sel_hit hp, sel_hit (h n hp), List.length_append, List.length_append]; simpa using ih
    | false =>
      rw [sel_miss hp]
      cases hq : q n with
      | true => rw [sel_hit hq, List.length_append]; omega
      | false => rw [sel_miss hq]; exact ih

end Go.Proofs.Ytbieglmpkljjjaa
