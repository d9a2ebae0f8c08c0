/-
  JKN: slices.Equal, slices.Clone of plates, slices.Delete of one number; a jury with other points, or without a judge.
  JKM: the plates by what is known of their prize, in a map.
-/
import Derived.Test.YtffnlimgjnhmpaaJKF
import Derived.Maps.OwnRows
import Derived.Maps.Views
namespace Go.Proofs.Ytffnlimgjnhmpaa
open Go.RowKit

set_option maxHeartbeats 1600000 in
set_option maxRecDepth 100000 in
theorem equal_any (N M : Nat) (v u : Value) (l m : List Int) (w : World) (h : LI N w v l) (hu : LI M w u m) :
    Calls Try.prog 99 #[v, u] w fun e w' => e = .returned (.bool (decide (l = m))) ∧ ∃ q, w' = w.drewN q := by
  obtain ⟨a, c, rfl⟩ := h.form
  obtain ⟨b, d, rfl⟩ := hu.form
  have hl1 := h.len
  have hl2 := hu.len
  by_cases hnm : l.length = m.length
  · have HL := Lib.hid h
    have HU := Lib.hid hu
    obtain ⟨n, hn⟩ : ∃ n, l.length = n := ⟨_, rfl⟩
    have HN := Lib.hid hn
    have HM : Hid (m.length = n) := by rw [← hn]; exact hnm.symm
    rw [← hnm] at HU ⊢
    rw [hn] at HL HU hl1 ⊢
    clear hl2 h hu hn hnm
    have hne : ((n : Int) != (n : Int)) = false := by simp
    go_enter Try.func99, Try.ntmps99
    go_wp2_with fail
    go_loopw [13] (fun i wr => ∃ k : Nat, k ≤ n ∧ i = .int .i64 k ∧ Hid (∀ j, j < k → l.getD j 0 = m.getD j 0) ∧ Hid (∃ q, wr = w.drewN q)) (fun i _ => n - (intOf i).toNat)
    case atStart => exact ⟨0, Nat.zero_le _, rfl, fun j hj => absurd hj (Nat.not_lt_zero j), 0, rfl⟩
    case round =>
      obtain ⟨k, hk, rfl, HK, hw⟩ := hrel
      obtain ⟨q, rfl⟩ := hw
      by_cases hkn : k < n
      · obtain ⟨b1, o1, rfl, _, hr1⟩ := HL.out.cell (by rw [HN.out]; omega)
        obtain ⟨b2, o2, rfl, _, hr2⟩ := HU.out.cell (by rw [HM.out]; omega)
        have c1 := hr1 k (by rw [HN.out]; exact hkn)
        have c2 := hr2 k (by rw [HM.out]; exact hkn)
        obtain ⟨x, hx⟩ : ∃ x, l.getD k 0 = x := ⟨_, rfl⟩
        obtain ⟨y, hy⟩ : ∃ y, m.getD k 0 = y := ⟨_, rfl⟩
        have HXY := Lib.hid (And.intro hx hy)
        rw [hx] at c1
        rw [hy] at c2
        have hki : (k : Int) < (n : Int) := by omega
        clear hr1 hr2 hx hy
        by_cases hxy : x = y
        · have hb : (x != y) = false := by simp [hxy]
          have H := Lib.hid hxy
          clear hxy
          go_wp2_with fail
          go_quiet (fail)
          go_wp2_with fail
          go_roundw
          case rel => exact ⟨k + 1, by omega, by go_num, fun j hj => by
            rcases Nat.lt_succ_iff_lt_or_eq.1 hj with h1 | h1
            · exact HK.out j h1
            · rw [h1, HXY.out.1, HXY.out.2]; exact H.out, _, rfl⟩
          case measure => simp [intOf]; omega
        · have hb : (x != y) = true := by simp [hxy]
          have H := Lib.hid hxy
          have HE : Hid (decide (l = m) = false) := decide_eq_false fun e => H.out (by rw [← HXY.out.1, ← HXY.out.2, e])
          clear hxy
          go_wp2_with fail
          go_quiet (fail)
          go_wp2_with fail
          go_ret
          exact ⟨ret_bool HE.out.symm, _, World.drewN_drewN _ _ _⟩
      · have HE : Hid (decide (l = m) = true) := decide_eq_true (List.ext_getElem (by rw [HN.out, HM.out]) fun i h1 h2 => by
          have := HK.out i (by rw [HN.out] at h1; omega)
          rw [getD_at h1, getD_at h2] at this
          exact this)
        have hki : ¬ (k : Int) < (n : Int) := by omega
        go_wp2_with fail
        go_ret
        exact ⟨ret_bool HE.out.symm, _, rfl⟩
  · have hne : (((l.length : Nat) : Int) != ((m.length : Nat) : Int)) = true := by simp; omega
    have HE : Hid (decide (l = m) = false) := decide_eq_false fun e => hnm (by rw [e])
    clear h hu hnm
    go_enter Try.func99, Try.ntmps99
    go_wp2_with fail
    go_ret
    exact ⟨ret_bool HE.out.symm, 0, rfl⟩

set_option maxHeartbeats 1600000 in
set_option maxRecDepth 100000 in
theorem kcloneP_any (N : Nat) (ao : Option Addr) (np c : Nat) (x : Nat → Int) (y : Nat → Value) (w : World) (hN : N ≤ w.heap.size) (h40 : np ≤ 1000)
    (hc : 0 < np → ∃ b off, ao = some ⟨b, off, none⟩ ∧ b < N ∧ ∀ i, i < np → w.cell? ⟨b, off + i * 2, none⟩ = some (.int .i64 (x i)) ∧ w.cell? ⟨b, off + i * 2 + 1, none⟩ = some (y i)) :
    Calls Try.prog 97 #[.slice ao np c] w fun e w' => ∃ v', e = .returned v' ∧ PK w.heap.size w' v' np x y ∧ Below w.heap.size w w' := by
  have q22 : ∀ (w : World) (a : Option Addr) (n c n' c' : Nat), (binOp .eql 22 (.slice a n c) (.slice none n' c')).run Try.prog w = .ok (.bool a.isNone) w := fun w a n c n' c' => Lib.run_eql_slice_nil w _ _ a n c n' c' Try.underlying22
  cases ao with
  | none =>
    have h0 : np = 0 := by
      rcases Nat.eq_zero_or_pos np with h0 | h0
      · exact h0
      · obtain ⟨b, off, e, _⟩ := hc h0; cases e
    subst h0
    clear hc
    go_enter Try.func97, Try.ntmps97
    go_wp2_with fail
    go_ret
    exact ⟨_, rfl, .inl ⟨rfl, none, 0, rfl⟩, Below.refl _ _⟩
  | some ad =>
    have HC : Hid (∀ W, Below w.heap.size w W → 0 < np → ∃ b off, some ad = some ⟨b, off, none⟩ ∧ b < N ∧ ∀ i, i < np → W.cell? ⟨b, off + i * 2, none⟩ = some (.int .i64 (x i)) ∧ W.cell? ⟨b, off + i * 2 + 1, none⟩ = some (y i)) := fun W hW h0 => by
      obtain ⟨b, off, e, hb, hr⟩ := hc h0
      exact ⟨b, off, e, hb, fun i hi => ⟨(hW.cell (p := ⟨b, off + i * 2, none⟩) (by show b < _; omega)).trans (hr i hi).1, (hW.cell (p := ⟨b, off + i * 2 + 1, none⟩) (by show b < _; omega)).trans (hr i hi).2⟩⟩
    clear hc
    go_enter Try.func97, Try.ntmps97
    go_wp2_with (at_builtin; go_must (refine wpList_cloneP _ rfl _ _ rfl rfl N w.heap.size _ np _ x y rfl rfl (HC.out _ (below_alloc (Nat.le_refl _) _)) (by simp; omega) (by omega) ?_); intro v' w1 hi1 hb1)
    go_ret
    exact ⟨_, rfl, hi1.lower (by simp), (below_alloc (Nat.le_refl _) _).trans (hb1.mono (by simp))⟩

end Go.Proofs.Ytffnlimgjnhmpaa

namespace Go.Proofs.Ytffnlimgjnhmpaa
open Go.RowKit Go.Maps Go.ChangeMaps Go.WideElems Go.ChangeShapes

theorem keyInt : Keyed Try.prog 3 := int_keyed Try.underlying3
theorem zeroL (w : World) : (zeroValue 25).run Try.prog w = .ok (.slice none 0 0) w := by kernel_rfl
theorem groups_below {w w' : World} {base b n : Nat} {D : DataW Unit} (h : w.ownsGroups Try.prog 3 base 3 .i64 b n D) (hb : Below w.heap.size w w') : w'.ownsGroups Try.prog 3 base 3 .i64 b n D := by
  obtain ⟨es, clock, h1, F, h2, rfl, h3, h4, h5⟩ := h
  have ho : ∀ {v : Value} {zs : List Int}, w.ownsInts base 3 .i64 v zs → w'.ownsInts base 3 .i64 v zs := fun hz => ⟨own_below hz.1 hb, hz.2⟩
  obtain ⟨F1, hm, _⟩ := F.stay (R' := rowElem (H := Unit) w' base 3 .i64) (fun x _ z hz => by
    obtain ⟨zs, hzs, rfl⟩ := rowElem_inv hz
    exact rowElem_mk (ho hzs))
  refine ⟨es, clock, (hb.block b (Array.getElem?_eq_some_iff.1 h1).1).trans h1, F1, h2, by rw [hm], h3, fun x hx zs hz => ?_, h5⟩
  obtain ⟨y, hy⟩ := F.reads x hx
  obtain ⟨z, hz1, _⟩ := rd_val hy
  obtain ⟨zs0, hz0, _⟩ := rowElem_inv hz1
  rw [hz.unique (ho hz0)]
  exact h4 x hx zs0 hz0

theorem groups_lt {w : World} {base b n : Nat} {D : DataW Unit} (h : w.ownsGroups Try.prog 3 base 3 .i64 b n D) : b < w.heap.size := by
  obtain ⟨es, clock, h1, _⟩ := h
  exact (Array.getElem?_eq_some_iff.1 h1).1
/-- what a list reads as -/
def gD (l : List Int) : DataW Unit := if l = [] then .nil else .slice (lits .i64 l) []
theorem lits_inj {q : IntKind} {l m : List Int} (h : lits (H := Unit) q l = lits q m) : l = m := by
  unfold lits at h
  exact (List.map_inj_right (fun a b hab => by cases hab; rfl)).1 h
theorem gD_zs {w : World} {base : Nat} {v : Value} {zs l : List Int} (h : w.ownsInts base 3 .i64 v zs) (e : gD l = rowDatum .i64 v zs) : zs = l := by
  unfold gD at e
  rcases h.datum (H := Unit) with ⟨h1, h2⟩ | h1
  · rw [h1] at e
    split at e
    · rename_i h; rw [h2, h]
    · cases e
  · rw [h1] at e
    split at e
    · cases e
    · injection e with e1
      exact (lits_inj e1).symm
theorem gD_mk {w : World} {base : Nat} {v : Value} {zs : List Int} (h : w.ownsInts base 3 .i64 v zs) (hne : zs ≠ []) : rowDatum .i64 v zs = gD zs := by
  rw [h.datum_pos hne, gD, if_neg hne]

/-- block B is a map of at most n lists: for each key c the list f c -/
def GM (n : Nat) (W : World) (B : Nat) (f : Int → List Int) : Prop :=
  ∃ D : DataW Unit, W.ownsGroups Try.prog 3 (B + 1) 3 .i64 B n D ∧ Maps.IsMap D ∧ ∀ c : Int, D.atKey (.int .i64 c) .nil = gD (f c)
theorem GM.below {n : Nat} {W W' : World} {B : Nat} {f : Int → List Int} (h : GM n W B f) (hb : Below W.heap.size W W') : GM n W' B f := by
  obtain ⟨D, h1, h2⟩ := h; exact ⟨D, groups_below h1 hb, h2⟩
theorem GM.look {n : Nat} {W : World} {B : Nat} {f : Int → List Int} (h : GM n W B f) (hn : n ≤ 1000) (c : Int) (hc : (Lit.int .i64 c).wf = true) :
    ∃ v, (Instr.lookup 88 (.map (some B)) (.int .i64 c) false).run Try.prog W = .ok v W ∧ OwnI (B + 1) W v (f c) := by
  obtain ⟨D, h1, h2, h3⟩ := h
  obtain ⟨v, zs, h4, h5, h6, _⟩ := h1.at keyInt Try.underlying88 (zeroL _) (by unfold maxLen; omega) (keyOf_int_mk Try.underlying3 hc)
  have : zs = f c := gD_zs h6 (by rw [← h3, h5])
  subst this
  exact ⟨v, h4, h6.1⟩
/-- the plates of which this is known -/
def prL (S : JB) (c : Int) (m : Nat) : List Int := sel (fun i => decide (prz S i = c)) m
theorem prz_123 (S : JB) (i : Nat) : prz S i = 1 ∨ prz S i = 2 ∨ prz S i = 3 := by
  unfold prz; split
  · exact .inl rfl
  · split
    · exact .inr (.inl rfl)
    · exact .inr (.inr rfl)

set_option maxHeartbeats 6400000 in
set_option maxRecDepth 100000 in
theorem kprizes_any (N : Nat) (v : Value) (S : JB) (w : World) (h : ShowAt N w v S) (hR : RdJ S) :
    Calls Try.prog 69 #[v] w fun e w' => ∃ B, e = .returned (.map (some B)) ∧ w.heap.size ≤ B ∧ GM S.np w' B (fun c => prL S c S.np) ∧ Below w.heap.size w w' := by
  obtain ⟨a1, c1, rfl⟩ := h.form
  obtain ⟨ws, hws, HB, hsz, hblk⟩ := box1 w (.cells #[.int .i64 S.J, .int .i64 S.D, .int .i64 S.Z, .slice a1 S.np c1] 74)
  have q0 := cell_blk hblk 0 rfl
  have q1 := cell_blk hblk 1 rfl
  have q2 := cell_blk hblk 2 rfl
  have q3 := cell_blk hblk 3 rfl
  have HNZ : Hid (N ≤ w.heap.size) := h.1
  have HBK := Lib.hid (h.go HB.out)
  have HB0 : Hid (Below ws.heap.size ws ws) := Below.refl _ _
  have HNS : Hid (N ≤ ws.heap.size) := HBK.out.1
  have hlen := h.len
  clear hblk h
  have HR := Lib.hid hR
  have hn40 : S.np ≤ 40 := hR.rd.np
  have hmm : ∀ w : World, (Instr.makeMap 88 none).run Try.prog w = .ok (.map (some w.heap.size)) (w.alloc (.map #[] 0)) := fun w => rfl
  obtain ⟨i0, hi0, hz0, hz1, hz2⟩ := info_parts Try.infoInt
  clear hR
  go_enter Try.func69, Try.ntmps69
  go_wp2_with fail
  have HBm : Hid (Below ws.heap.size ws (ws.alloc (.map #[] 0))) := below_alloc (Nat.le_refl _) _
  have HGM : Hid (GM 0 (ws.alloc (.map #[] 0)) ws.heap.size (fun c => prL S c 0)) := ⟨_, World.ownsGroups_made _ _ _ _ _, Maps.isMap_empty, fun c => rfl⟩
  obtain ⟨B, hB⟩ : ∃ B, ws.heap.size = B := ⟨_, rfl⟩
  have HBB := Lib.hid hB
  rw [hB] at HGM ⊢
  clear hws hmm hB
  go_loopw [11] (fun i wr => ∃ k : Nat, k ≤ S.np ∧ i = .int .i64 k ∧ Hid (GM k wr B (fun c => prL S c k)) ∧ Hid (Below ws.heap.size ws wr)) (fun i _ => S.np - (intOf i).toNat)
  case atStart => exact ⟨0, Nat.zero_le _, rfl, HGM, HBm⟩
  case round =>
    obtain ⟨k, hk, rfl, HG, HBr⟩ := hrel
    have r0 := (HBr.out.cell (p := ⟨w.heap.size, 0, none⟩) hsz).trans q0
    have r1 := (HBr.out.cell (p := ⟨w.heap.size, 1, none⟩) hsz).trans q1
    have r2 := (HBr.out.cell (p := ⟨w.heap.size, 2, none⟩) hsz).trans q2
    have r3 := (HBr.out.cell (p := ⟨w.heap.size, 3, none⟩) hsz).trans q3
    by_cases hkn : k < S.np
    · have hki : (k : Int) < (S.np : Int) := by omega
      obtain ⟨pz, hpz⟩ : ∃ x, prz S k = x := ⟨_, rfl⟩
      have HPZ := Lib.hid hpz
      have HWF : Hid ((Lit.int .i64 pz).wf = true) := by rw [← hpz]; rcases prz_123 S k with h | h | h <;> rw [h] <;> rfl
      have HHIT : Hid (prL S pz (k + 1) = prL S pz k ++ [(k : Int)]) := sel_hit (p := fun i => decide (prz S i = pz)) (decide_eq_true hpz)
      have HMISS : Hid (∀ c, c ≠ pz → prL S c (k + 1) = prL S c k) := fun c hc => sel_miss (p := fun i => decide (prz S i = c)) (decide_eq_false (by rw [hpz]; exact fun e => hc e.symm))
      have HWK : Hid ((Lit.int .i64 (k : Int)).wf = true) := WalkArith.wf_i64 (by omega)
      clear hpz
      go_wp2_with (first
        | (go_at_call 58; refine (kprize_any N _ S k _ (HBK.out.go HBr.out) HR.out hkn).mono ?_; rw [HPZ.out]; rintro e w1 ⟨rfl, hb1⟩; have hg1 := HG.out.below hb1; have HB1 : Hid (Below ws.heap.size ws w1) := bel HBr.out hb1; clear hb1; obtain ⟨D, hD1, hD2, hD3⟩ := hg1; have HD1 := Lib.hid hD1; have HD2 := Lib.hid hD2; have HD3 := Lib.hid hD3; have HLT := Lib.hid (groups_lt hD1); clear hD1 hD2 hD3)
        | (at_lookup; refine wpList_lookup_groups _ rfl _ _ 88 rfl 3 25 3 .i64 keyInt Try.underlying88 (zeroL _) (B + 1) B k D rfl HD1.out (by unfold maxLen; omega) _ (.int .i64 pz) rfl (keyOf_int_mk Try.underlying3 HWF.out) ?_; intro v zs hat hoi hzl hback; have HAT := Lib.hid hat; have HOI := Lib.hid hoi; have HBK2 := Lib.hid hback; clear hat hoi hback)
        | (at_builtin; refine wpList_append_own_at _ rfl _ _ 25 rfl (B + 1) 3 i0 (.int .i64 0) 1 8 Try.underlying25 hi0 hz0 hz1 hz2 rfl (by decide) v zs.length (zs.map (Value.int .i64)) rfl (HOI.out.1.alloc _) ⟨w1.heap.size, 0, none⟩ 1 1 [.int .i64 k] rfl rfl (cell_one_new _ _ _) (by simp [Value.oneCell']) (by unfold maxLen; omega) (by omega) (by have := HLT.out; simp; omega) ?_; intro v' w4 hown4 hgrow _ hat4; have HO4 := Lib.hid (HOI.out.appended hown4 (by exact HWK.out)); have HG4 := Lib.hid hgrow; have HAT4 := Lib.hid hat4; clear hown4 hgrow hat4)
        | (at_mapUpdate; go_must (refine wpList_mapUpdate_back (v' := v') (key := .int .i64 pz) _ rfl _ _ _ 88 rfl HBK2.out rfl rfl rfl (World.grownBy.trans (World.grownBy_alloc _ _ _) HG4.out) HO4.out (by simp; omega) (HAT4.out.elim .inl fun h => .inr ⟨_, h, by simp⟩) ?_); intro w5 hg5 hgr5; have HG5 := Lib.hid hg5; have HGR5 := Lib.hid hgr5; clear hg5 hgr5))
      have hzs : zs = prL S pz k := gD_zs HOI.out (by rw [← HD3.out pz, HAT.out])
      have HGn : Hid (GM (k + 1) w5 B (fun c => prL S c (k + 1))) := by
        refine ⟨_, HG5.out, HD2.out.put _ _, fun c => ?_⟩
        by_cases e : c = pz
        · subst e
          rw [Maps.atKey_put_same (k := .int .i64 c) HD2.out trivial, gD_mk HO4.out (by simp), hzs, ← HHIT.out]
        · rw [Maps.atKey_put_other (by intro h; injection h with _ h; exact e h), HD3.out c]
          exact congrArg gD (HMISS.out c e).symm
      have HBn : Hid (Below ws.heap.size ws w5) := Below.groups HB1.out HOI.out (World.grownBy.trans (World.grownBy_alloc _ _ _) HG4.out) HGR5.out HB1.out.size (by have := HBB.out; omega) (by have := HBB.out; omega)
      clear hzs
      go_roundw
      case rel => exact ⟨k + 1, by omega, by go_num, HGn.out, HBn.out⟩
      case measure => simp [intOf]; omega
    · have hki : ¬ (k : Int) < (S.np : Int) := by omega
      have hke : k = S.np := by omega
      have HKE := Lib.hid hke
      clear hke
      go_wp2_with fail
      go_ret
      exact ⟨B, rfl, by have := HBB.out; have := hsz; omega, by have := HG.out; rw [HKE.out] at this; exact this, fin HB.out HBr.out⟩

end Go.Proofs.Ytffnlimgjnhmpaa
