/-
  JTrn: what is the same if judges, or plates, come in another order (no memory).
-/
import Derived.Test.YtffnlimgjnhmpaaJKO
import Derived.Test.YtffnlimgjnhmpaaJLink
namespace Go.Proofs.Ytffnlimgjnhmpaa

/-- plate i of a show is plate f i of another one, and its judges come in some other order -/
structure Trn (S S' : JB) (f g : Nat → Nat) : Prop where
  np : S'.np = S.np
  J : S'.J = S.J
  D : S'.D = S.D
  Z : S'.Z = S.Z
  lt : ∀ i, i < S.np → f i < S.np
  inj : ∀ i j, i < S.np → j < S.np → f i = f j → i = j
  bk : ∀ j, j < S.np → g j < S.np ∧ f (g j) = j
  sz : ∀ i, i < S.np → S'.sz (f i) = S.sz i
  pts : ∀ i, i < S.np → (S'.pts (f i)).Perm (S.pts i)
theorem range_turn {n : Nat} {f g : Nat → Nat} (lt : ∀ i, i < n → f i < n) (inj : ∀ i j, i < n → j < n → f i = f j → i = j) (bk : ∀ j, j < n → g j < n ∧ f (g j) = j) : ((List.range n).map f).Perm (List.range n) := by
  refine (List.perm_ext_iff_of_nodup ?_ List.nodup_range).2 fun x => ?_
  · unfold List.Nodup
    rw [List.pairwise_map, List.pairwise_iff_getElem]
    intro i j hi hj hij e
    rw [List.getElem_range, List.getElem_range] at e
    rw [List.length_range] at hi hj
    have := inj i j hi hj e
    omega
  · rw [List.mem_map, List.mem_range]
    constructor
    · rintro ⟨i, hi, rfl⟩; exact lt i (List.mem_range.1 hi)
    · intro hx; exact ⟨g x, List.mem_range.2 (bk x hx).1, (bk x hx).2⟩
theorem cnt_turn {n : Nat} {f g : Nat → Nat} (lt : ∀ i, i < n → f i < n) (inj : ∀ i j, i < n → j < n → f i = f j → i = j) (bk : ∀ j, j < n → g j < n ∧ f (g j) = j) {p q : Nat → Bool} (h : ∀ i, i < n → p (f i) = q i) : cnt n p = cnt n q := by
  rw [← cnt_range, ← cnt_range, ← (range_turn lt inj bk).countP_eq, List.countP_map]
  exact List.countP_congr fun i hi => by
    show p (f i) = true ↔ q i = true
    rw [h i (List.mem_range.1 hi)]
variable {S S' : JB} {f g : Nat → Nat}
theorem Trn.placeN (h : Trn S S' f g) {t t' : Nat → Int} (ht : ∀ i, i < S.np → t' (f i) = t i) {i : Nat} (hi : i < S.np) : placeN t' S'.sz S'.np (f i) = Proofs.Ytffnlimgjnhmpaa.placeN t S.sz S.np i := by
  unfold Proofs.Ytffnlimgjnhmpaa.placeN
  rw [cnt_range, cnt_range, h.np]
  congr 1
  refine cnt_turn h.lt h.inj h.bk fun j hj => ?_
  unfold bet
  rw [ht i hi, ht j hj, h.sz i hi, h.sz j hj]
theorem fil_perm {l m : List Int} (h : l.Perm m) (n : Int) : (fil n l).Perm (fil n m) := h.map _
theorem Trn.lo (h : Trn S S' f g) {i : Nat} (hi : i < S.np) : loT S' (f i) = loT S i := by
  unfold loT; rw [h.D]; exact tot_perm (fil_perm (h.pts i hi) 0)
theorem Trn.hi (h : Trn S S' f g) {i : Nat} (hi : i < S.np) : hiT S' (f i) = hiT S i := by
  unfold hiT; rw [h.D]; exact tot_perm (fil_perm (h.pts i hi) 20)
theorem Trn.tot (h : Trn S S' f g) {i : Nat} (hi : i < S.np) : totI S' (f i) = totI S i := by
  unfold totI; rw [h.D]; exact tot_perm (h.pts i hi)
theorem Trn.upd (h : Trn S S' f g) {t t' : Nat → Int} (ht : ∀ i, i < S.np → t' (f i) = t i) {i : Nat} (hi : i < S.np) (x : Int) : ∀ j, j < S.np → Proofs.Ytffnlimgjnhmpaa.upd t' (f i) x (f j) = Proofs.Ytffnlimgjnhmpaa.upd t i x j := fun j hj => by
  unfold Proofs.Ytffnlimgjnhmpaa.upd
  by_cases e : j = i
  · subst e; rw [if_pos rfl, if_pos rfl]
  · rw [if_neg e, if_neg (fun e2 => e (h.inj j i hj hi e2)), ht j hj]
theorem Trn.plLo (h : Trn S S' f g) {i : Nat} (hi : i < S.np) : Proofs.Ytffnlimgjnhmpaa.plLo S' (f i) = Proofs.Ytffnlimgjnhmpaa.plLo S i := by
  unfold Proofs.Ytffnlimgjnhmpaa.plLo
  rw [h.hi hi]
  exact h.placeN (h.upd (fun _ hj => h.lo hj) hi _) hi
theorem Trn.plHi (h : Trn S S' f g) {i : Nat} (hi : i < S.np) : Proofs.Ytffnlimgjnhmpaa.plHi S' (f i) = Proofs.Ytffnlimgjnhmpaa.plHi S i := by
  unfold Proofs.Ytffnlimgjnhmpaa.plHi
  rw [h.lo hi]
  exact h.placeN (h.upd (fun _ hj => h.hi hj) hi _) hi
theorem Trn.prz (h : Trn S S' f g) {i : Nat} (hi : i < S.np) : Proofs.Ytffnlimgjnhmpaa.prz S' (f i) = Proofs.Ytffnlimgjnhmpaa.prz S i := by
  unfold Proofs.Ytffnlimgjnhmpaa.prz
  rw [h.plLo hi, h.plHi hi, h.Z]
theorem Trn.nds (h : Trn S S' f g) {i : Nat} (hi : i < S.np) : Proofs.Ytffnlimgjnhmpaa.nds S' (f i) = Proofs.Ytffnlimgjnhmpaa.nds S i := by
  funext n
  unfold Proofs.Ytffnlimgjnhmpaa.nds
  rw [h.placeN (h.upd (fun _ hj => h.hi hj) hi n) hi, h.Z]
theorem Trn.ndF (h : Trn S S' f g) {i : Nat} (hi : i < S.np) : Proofs.Ytffnlimgjnhmpaa.ndF S' (f i) = Proofs.Ytffnlimgjnhmpaa.ndF S i := by
  unfold Proofs.Ytffnlimgjnhmpaa.ndF
  rw [h.nds hi, h.lo hi, h.hi hi]
theorem Trn.plc (h : Trn S S' f g) {i : Nat} (hi : i < S.np) : Proofs.Ytffnlimgjnhmpaa.plc S' (f i) = Proofs.Ytffnlimgjnhmpaa.plc S i := by
  unfold Proofs.Ytffnlimgjnhmpaa.plc
  exact h.placeN (fun _ hj => h.tot hj) hi
theorem Trn.gotP (h : Trn S S' f g) {i : Nat} (hi : i < S.np) : Proofs.Ytffnlimgjnhmpaa.gotP S' (f i) = Proofs.Ytffnlimgjnhmpaa.gotP S i := by
  unfold Proofs.Ytffnlimgjnhmpaa.gotP
  rw [h.plc hi, h.Z]
/-- two shows get the same prizes just if they do in another order -/
theorem Trn.same {T T' : JB} (h : Trn S S' f g) (ht : Trn T T' f g) (hn : T.np = S.np) : decide (getL T' = getL S') = decide (getL T = getL S) := by
  refine decide_eq_decide.2 ?_
  have e1 : T'.np = S'.np := by rw [ht.np, h.np, hn]
  unfold getL
  rw [e1, hn, sel_eq, sel_eq, h.np]
  constructor
  · intro hh i hi
    have := hh (f i) (h.lt i hi)
    rw [ht.gotP (by rw [hn]; exact hi), h.gotP hi] at this
    exact this
  · intro hh j hj
    obtain ⟨h1, h2⟩ := h.bk j hj
    have := hh (g j) h1
    rw [← ht.gotP (by rw [hn]; exact h1), ← h.gotP h1, h2] at this
    exact this
theorem Trn.allIn (h : Trn S S' f g) : Proofs.Ytffnlimgjnhmpaa.allIn S' = Proofs.Ytffnlimgjnhmpaa.allIn S := by
  have e : Proofs.Ytffnlimgjnhmpaa.allIn S' = true ↔ Proofs.Ytffnlimgjnhmpaa.allIn S = true := by
    rw [allIn_iff, allIn_iff, h.np]
    constructor
    · intro hh i hi x hx
      exact hh (f i) (h.lt i hi) x ((h.pts i hi).mem_iff.2 hx)
    · intro hh j hj x hx
      obtain ⟨h1, h2⟩ := h.bk j hj
      rw [← h2] at hx
      exact hh (g j) h1 x ((h.pts (g j) h1).mem_iff.1 hx)
  cases h1 : Proofs.Ytffnlimgjnhmpaa.allIn S' <;> cases h2 : Proofs.Ytffnlimgjnhmpaa.allIn S <;> simp_all
theorem Trn.good (h : Trn S S' f g) (hG : GoodS S) : GoodS S' :=
  ⟨by rw [h.J]; exact hG.J1, by rw [h.J]; exact hG.J5, by rw [h.D]; exact hG.D0, by rw [h.D, h.J]; exact hG.DJ, by rw [h.Z]; exact hG.Z0, by rw [h.Z]; exact hG.Z6, by rw [h.np]; exact hG.np, fun j hj => by
    rw [h.np] at hj
    obtain ⟨h1, h2⟩ := h.bk j hj
    rw [← h2, h.sz _ h1]; exact hG.sz _ h1, fun j hj => by
    rw [h.np] at hj
    obtain ⟨h1, h2⟩ := h.bk j hj
    rw [← h2, (h.pts _ h1).length_eq, h.J]; exact hG.len _ h1, fun j hj x hx => by
    rw [h.np] at hj
    obtain ⟨h1, h2⟩ := h.bk j hj
    rw [← h2] at hx
    exact hG.pt _ h1 x ((h.pts _ h1).mem_iff.1 hx)⟩

end Go.Proofs.Ytffnlimgjnhmpaa
