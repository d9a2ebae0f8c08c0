/-
  JReady: ready, holds, isSo, inside, sharper of the chapter; what Room and Rank promise, in words.
-/
import Derived.Test.YtffnlimgjnhmpaaJLaw
import Derived.Test.YtffnlimgjnhmpaaJRank
namespace Go.Proofs.Ytffnlimgjnhmpaa
open Go.RowKit

set_option maxHeartbeats 400000 in
theorem ready_any (N : Nat) (v : Value) (S : JB) (w : World) (h : ShowAt N w v S) :
    Calls Try.prog 12 #[v] w fun e w' => e = .returned (.bool (!farS S && okS S)) ∧ Below w.heap.size w w' := by
  obtain ⟨a1, c1, rfl⟩ := h.form
  obtain ⟨ws, hws, HB, hsz, hblk⟩ := box1 w (.cells #[.int .i64 S.J, .int .i64 S.D, .int .i64 S.Z, .slice a1 S.np c1] 24)
  have q0 := cell_blk hblk 0 rfl
  have q1 := cell_blk hblk 1 rfl
  have q2 := cell_blk hblk 2 rfl
  have q3 := cell_blk hblk 3 rfl
  have HNZ : Hid (N ≤ w.heap.size) := h.1
  have HBK := Lib.hid (h.go HB.out)
  have HB0 : Hid (Below ws.heap.size ws ws) := Below.refl _ _
  have HNS : Hid (N ≤ ws.heap.size) := HBK.out.1
  have hlen := h.len
  clear hblk h
  cases hfar : farS S with
  | true =>
    have HFA := Lib.hid hfar
    clear hfar
    go_enter Try.func12, Try.ntmps12
    go_wp2_with (go_at_call 42; refine (Far_any N _ S _ HBK.out).mono ?_; rw [HFA.out]; rintro e w1 ⟨rfl, hb1⟩; have HB1 : Hid (Below ws.heap.size ws w1) := hb1; clear hb1)
    go_ret
    exact ⟨ret_bool (by rfl), fin HB.out HB1.out⟩
  | false =>
    have HFA := Lib.hid hfar
    clear hfar
    cases hok : okS S with
    | true =>
      have HE : Hid (errS S = 0) := by unfold Hid errS; rw [hok]; rfl
      clear hok
      go_enter Try.func12, Try.ntmps12
      go_wp2_with (first
        | (go_at_call 42; refine (Far_any N _ S _ HBK.out).mono ?_; rw [HFA.out]; rintro e w1 ⟨rfl, hb1⟩; ((try clear c0); have HB1 := Lib.hid (bel HB0.out hb1); have c1 := (old_of HB1.out).1; clear hb1); (have r0 := (HB1.out.cell (p := ⟨w.heap.size, 0, none⟩) hsz).trans q0; have r1 := (HB1.out.cell (p := ⟨w.heap.size, 1, none⟩) hsz).trans q1; have r2 := (HB1.out.cell (p := ⟨w.heap.size, 2, none⟩) hsz).trans q2; have r3 := (HB1.out.cell (p := ⟨w.heap.size, 3, none⟩) hsz).trans q3))
        | (go_at_call 44; refine (rCheck_any N _ S _ (HBK.out.go HB1.out)).mono ?_; rw [HE.out]; rintro e w2 ⟨rfl, hb2⟩; ((try clear c1); have HB2 := Lib.hid (bel HB1.out hb2); have c2 := (old_of HB2.out).1; clear hb2)))
      go_ret
      exact ⟨ret_bool (by rfl), fin HB.out HB2.out⟩
    | false =>
      have HE : Hid (errS S = 80) := by unfold Hid errS; rw [hok]; rfl
      clear hok
      go_enter Try.func12, Try.ntmps12
      go_wp2_with (first
        | (go_at_call 42; refine (Far_any N _ S _ HBK.out).mono ?_; rw [HFA.out]; rintro e w1 ⟨rfl, hb1⟩; ((try clear c0); have HB1 := Lib.hid (bel HB0.out hb1); have c1 := (old_of HB1.out).1; clear hb1); (have r0 := (HB1.out.cell (p := ⟨w.heap.size, 0, none⟩) hsz).trans q0; have r1 := (HB1.out.cell (p := ⟨w.heap.size, 1, none⟩) hsz).trans q1; have r2 := (HB1.out.cell (p := ⟨w.heap.size, 2, none⟩) hsz).trans q2; have r3 := (HB1.out.cell (p := ⟨w.heap.size, 3, none⟩) hsz).trans q3))
        | (go_at_call 44; refine (rCheck_any N _ S _ (HBK.out.go HB1.out)).mono ?_; rw [HE.out]; rintro e w2 ⟨rfl, hb2⟩; ((try clear c1); have HB2 := Lib.hid (bel HB1.out hb2); have c2 := (old_of HB2.out).1; clear hb2)))
      go_ret
      exact ⟨ret_bool (by rfl), fin HB.out HB2.out⟩

theorem holds_any (a b n : Int) (w : World) :
    Calls Try.prog 19 #[.agg #[.int .i64 a, .int .i64 b], .int .i64 n] w fun e w' => e = .returned (.bool (decide (a ≤ n) && decide (n ≤ b))) ∧ Below w.heap.size w w' := by
  obtain ⟨ws, hws, HB, hsz, hblk⟩ := box1 w (.cells #[.int .i64 a, .int .i64 b] 30)
  have q0 := cell_blk hblk 0 rfl
  have q1 := cell_blk hblk 1 rfl
  clear hblk
  by_cases h1 : a ≤ n
  all_goals by_cases h2 : n ≤ b
  all_goals
    go_enter Try.func19, Try.ntmps19
    go_wp2_with fail
    go_ret
    exact ⟨ret_bool (by simp [h1, h2]), HB.out⟩
theorem isSo_any (k : Int) (b : Bool) (w : World) :
    Calls Try.prog 21 #[.int .i64 k, .bool b] w fun e w' => e = .returned (.bool (decide (k = 3) || ((decide (k = 1) && b) || (decide (k = 2) && !b)))) ∧ w' = w := by
  by_cases h3 : k = 3
  · subst h3
    go_enter Try.func21, Try.ntmps21
    go_wp2_with fail
    go_ret
    exact ⟨ret_bool (by simp), rfl⟩
  · by_cases h1 : k = 1
    · subst h1
      cases b
      all_goals
        go_enter Try.func21, Try.ntmps21
        go_wp2_with fail
        go_ret
        exact ⟨ret_bool (by simp), rfl⟩
    · by_cases h2 : k = 2
      · subst h2
        cases b
        all_goals
          go_enter Try.func21, Try.ntmps21
          go_wp2_with fail
          go_ret
          exact ⟨ret_bool (by simp), rfl⟩
      · go_enter Try.func21, Try.ntmps21
        go_wp2_with fail
        go_ret
        exact ⟨ret_bool (by simp [h1, h2, h3]), rfl⟩

/-- the totals when the points of a mark are a number -/
def TQ (S : JB) (q k : Nat) (x : Int) : Int := tot S.D.toNat ((S.pts q).set k x)
theorem with_tot {S : JB} (q k : Nat) (x : Int) : totI (withP S q k x) = upd (totI S) q (TQ S q k x) := by
  funext j
  unfold totI upd
  by_cases e : j = q
  · subst e; rw [if_pos rfl]; show tot S.D.toNat (if j = j then (S.pts j).set k x else S.pts j) = _; rw [if_pos rfl]; rfl
  · rw [if_neg e]; show tot S.D.toNat (if j = q then (S.pts j).set k x else S.pts j) = _; rw [if_neg e]
theorem TQ_mono {S : JB} {q k : Nat} {x y : Int} (h : x ≤ y) : TQ S q k x ≤ TQ S q k y := by
  unfold TQ
  refine tot_mono _ (by simp) fun i h1 h2 => ?_
  rw [List.getElem_set, List.getElem_set]
  split
  · exact h
  · exact Int.le_refl _
theorem TQ_now {S : JB} {q k : Nat} (hk : k < (S.pts q).length) : withP S q k ((S.pts q).getD k 0) = S := by
  unfold withP
  have : (fun i => if i = q then (S.pts i).set k ((S.pts q).getD k 0) else S.pts i) = S.pts := by
    funext i
    by_cases e : i = q
    · subst e; rw [if_pos rfl, List.getD_eq_getElem?_getD, List.getElem?_eq_getElem hk]; exact List.set_getElem_self hk
    · rw [if_neg e]
  rw [this]
/-- the same plates get prizes -/
def smG (S : JB) (q k : Nat) (x : Int) : Prop := getL (withP S q k x) = getL S
theorem with_get {S : JB} {q k : Nat} {x y : Int} : getL (withP S q k x) = getL (withP S q k y) ↔ ∀ j, j < S.np → decide ((placeN (upd (totI S) q (TQ S q k x)) S.sz S.np j : Int) ≤ S.Z) = decide ((placeN (upd (totI S) q (TQ S q k y)) S.sz S.np j : Int) ≤ S.Z) := by
  show sel (gotP (withP S q k x)) S.np = sel (gotP (withP S q k y)) S.np ↔ _
  rw [sel_eq]
  have e : ∀ z j, gotP (withP S q k z) j = decide ((placeN (upd (totI S) q (TQ S q k z)) S.sz S.np j : Int) ≤ S.Z) := fun z j => by
    unfold gotP plc
    rw [with_tot]; rfl
  constructor
  · intro h j hj; rw [← e, ← e]; exact h j hj
  · intro h j hj; rw [e, e]; exact h j hj
theorem smG_between {S : JB} {q k : Nat} {x y z : Int} (h1 : x ≤ y) (h2 : y ≤ z) (hx : smG S q k x) (hz : smG S q k z) : smG S q k y := by
  unfold smG at *
  rw [← hx]
  refine with_get.2 fun j hj => get_between (TQ_mono h1) (TQ_mono h2) (fun i hi => with_get.1 (hx.trans hz.symm) i hi) j hj
theorem room_is {S : JB} {q k : Nat} (hk : k < (S.pts q).length) : ∀ m : Nat, smG S q k (room S q k m).1 ∧ smG S q k (room S q k m).2 ∧ (room S q k m).1 ≤ (S.pts q).getD k 0 ∧ (S.pts q).getD k 0 ≤ (room S q k m).2 ∧ ∀ x : Nat, x < m → smG S q k x → (room S q k m).1 ≤ x ∧ (x : Int) ≤ (room S q k m).2 := by
  intro m
  induction m with
  | zero =>
    refine ⟨?_, ?_, Int.le_refl _, Int.le_refl _, fun x hx => absurd hx (Nat.not_lt_zero x)⟩
    · show getL (withP S q k ((S.pts q).getD k 0)) = _; rw [TQ_now hk]
    · show getL (withP S q k ((S.pts q).getD k 0)) = _; rw [TQ_now hk]
  | succ m ih =>
    obtain ⟨a, b, c, d, e⟩ := ih
    unfold room
    split
    · rename_i hm
      refine ⟨?_, ?_, by simp only; omega, by simp only; omega, fun x hx hs => ?_⟩
      · show smG S q k (min (room S q k m).1 m)
        rcases Int.le_total (room S q k m).1 (m : Int) with h | h
        · rw [Int.min_eq_left h]; exact a
        · rw [Int.min_eq_right h]; exact hm
      · show smG S q k (max (room S q k m).2 m)
        rcases Int.le_total (room S q k m).2 (m : Int) with h | h
        · rw [Int.max_eq_right h]; exact hm
        · rw [Int.max_eq_left h]; exact b
      · simp only
        by_cases hxm : x = m
        · subst hxm; omega
        · have := e x (by omega) hs; omega
    · rename_i hm
      refine ⟨a, b, c, d, fun x hx hs => ?_⟩
      by_cases hxm : x = m
      · subst hxm; exact absurd hs hm
      · exact e x (by omega) hs
theorem room_holds {S : JB} {q k : Nat} (hk : k < (S.pts q).length) {x : Nat} (hx : x ≤ 20) : (decide ((room S q k 21).1 ≤ (x : Int)) && decide ((x : Int) ≤ (room S q k 21).2)) = decide (getL (withP S q k x) = getL S) := by
  obtain ⟨a, b, _, _, e⟩ := room_is hk 21
  by_cases h : getL (withP S q k x) = getL S
  · have := e x (by omega) h
    rw [decide_eq_true h, decide_eq_true this.1, decide_eq_true this.2]; rfl
  · rw [decide_eq_false h]
    by_cases h1 : (room S q k 21).1 ≤ (x : Int)
    · by_cases h2 : (x : Int) ≤ (room S q k 21).2
      · exact absurd (smG_between h1 h2 a b) h
      · rw [decide_eq_false h2, Bool.and_false]
    · rw [decide_eq_false h1, Bool.false_and]

/-- the list of Rank: its numbers are those of plates -/
theorem rnk_at {S : JB} {i : Nat} (hi : i < (rnk S S.np).length) : ∃ p : Nat, (rnk S S.np).getD i 0 = (p : Int) ∧ p < S.np := by
  have hm : (rnk S S.np).getD i 0 ∈ rnk S S.np := by rw [List.getD_eq_getElem?_getD, List.getElem?_eq_getElem hi]; exact List.getElem_mem hi
  obtain ⟨p, h1, h2, _⟩ := mem_rnk.1 hm
  exact ⟨p, h2, h1⟩
theorem rnk_full {S : JB} (h : allIn S = true) : (rnk S S.np).length = S.np := by rw [(rnk_perm h).length_eq, upTo_len]
/-- .. none comes ahead of one that is better, and of those that are as good the first one comes first -/
theorem rnk_ord {S : JB} (h : allIn S = true) {i k p r : Nat} (hk : k < i) (hi : i < (rnk S S.np).length) (hp : (rnk S S.np).getD i 0 = (p : Int)) (hr : (rnk S S.np).getD k 0 = (r : Int)) (hpn : p < S.np) (hrn : r < S.np) :
    r ≠ p ∧ bet (totI S) S.sz p r = false ∧ (bet (totI S) S.sz r p = false → r < p) := by
  have hpw := List.pairwise_iff_getElem.1 (rnk_pw h S.np) k i (by omega) hi hk
  have e1 : (rnk S S.np)[k] = (r : Int) := by rw [← hr, List.getD_eq_getElem?_getD, List.getElem?_eq_getElem]; rfl
  have e2 : (rnk S S.np)[i] = (p : Int) := by rw [← hp, List.getD_eq_getElem?_getD, List.getElem?_eq_getElem]; rfl
  rw [e1, e2] at hpw
  have e : ∀ {i j : Nat}, i < S.np → j < S.np → ltS S i j = bet (totI S) S.sz i j := fun hi hj => by
    unfold ltS bet
    rw [Int.toNat_natCast, Int.toNat_natCast, in_hi h hi, in_hi h hj]
  have hne := bef_ne (ltS_wo S) hpw
  refine ⟨fun he => hne (by rw [he]), ?_, fun hb => ?_⟩
  · rcases hpw with h1 | h1
    · rw [← e hpn hrn]; exact (ltS_wo S).asym _ _ h1
    · rw [← e hpn hrn]; exact h1.1
  · rcases hpw with h1 | h1
    · rw [e hrn hpn, hb] at h1; cases h1
    · omega
theorem sel_both (p : Nat → Bool) (n : Nat) : (sel p n).length + (sel (fun i => !p i) n).length = n := by
  induction n with
  | zero => rfl
  | succ n ih =>
    cases h : p n with
    | true => rw [sel_hit h, sel_miss (p := fun i => !p i) (by simp [h])]; simp; omega
    | false => rw [sel_miss h, sel_hit (p := fun i => !p i) (by simp [h])]; simp; omega

end Go.Proofs.Ytffnlimgjnhmpaa
