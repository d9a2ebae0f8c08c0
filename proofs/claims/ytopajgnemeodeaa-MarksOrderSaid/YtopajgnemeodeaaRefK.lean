/-
  The chapter's own answers: Mistakes.
-/
import Derived.Test.YtopajgnemeodeaaRefI
import Derived.Test.YtopajgnemeodeaaRefJ
import Derived.Test.YtopajgnemeodeaaTold1
namespace Go.Proofs.Ytopajgnemeodeaa
open Go.RowKit

theorem sel_has {p : Nat → Bool} {k : Nat} (hp : p k = true) : ∀ {n}, k < n → anyB (sel p n).length (fun i => decide ((sel p n).getD i 0 = (k : Int))) = true
  | 0, h => absurd h (Nat.not_lt_zero _)
  | n + 1, h => by
    cases hq : p n with
    | false =>
      rw [sel_miss hq]
      exact sel_has hp (by rcases Nat.lt_succ_iff_lt_or_eq.1 h with h' | h' <;> first | exact h' | (subst h'; rw [hp] at hq; cases hq))
    | true =>
      rw [sel_hit hq]
      rcases Nat.lt_succ_iff_lt_or_eq.1 h with h' | h'
      · obtain ⟨i, hi, he⟩ := anyB_true.1 (sel_has (p := p) hp h')
        exact anyB_true.2 ⟨i, by rw [List.length_append]; omega, by
          rw [List.getD_eq_getElem?_getD, List.getElem?_append_left hi, ← List.getD_eq_getElem?_getD]; exact he⟩
      · subst h'
        exact anyB_true.2 ⟨(sel p k).length, by simp, by simp [List.getD_eq_getElem?_getD]⟩

theorem sel_in (p : Nat → Bool) {k n : Nat} (h : k < n) : anyB (sel p n).length (fun i => decide ((sel p n).getD i 0 = (k : Int))) = p k := by
  cases hp : p k with
  | true => exact sel_has hp h
  | false =>
    cases ha : anyB (sel p n).length (fun i => decide ((sel p n).getD i 0 = (k : Int))) with
    | false => rfl
    | true => rw [(sel_mem ha).2] at hp; cases hp

theorem vals_in {B : Bk} {R : Fr} {f m : Nat} (hg : Good B R) (hf : f < R.n) (hm : m < B.nv) (hx : ¬ R.X f m = -1) :
    anyB (vals B R f m).length (fun i => decide ((vals B R f m).getD i 0 = R.X f m)) = exAny B R f m (R.X f m) := by
  have h1 := (hg.X f hf m hm).resolve_left hx
  obtain ⟨k, hk⟩ : ∃ k : Nat, R.X f m = k := ⟨(R.X f m).toNat, by omega⟩
  rw [hk]
  exact sel_in (fun x => exAny B R f m x) (by omega)

theorem vals_len {B : Bk} {R : Fr} {f m : Nat} (hg : Good B R) (hm : m < B.nv) : (vals B R f m).length ≤ 140737488351232 := by
  have h1 : (vals B R f m).length ≤ (B.V m).toNat := sel_len _ _
  have h2 := (hg.V m hm).2
  omega

set_option maxHeartbeats 4000000 in
set_option maxRecDepth 100000 in
theorem rMistakes_any (N : Nat) (v u : Value) (B : Bk) (R : Fr) (w : World) (h : BookAt N w v B) (hf : FruitsAt N w u R) :
    Calls Try.prog 34 #[v, u] w (GivesPE w.heap.size w (eMistakes B R).1 (eMistakes B R).2) := by
  obtain ⟨i0, hi, hz0, hz1, hz2⟩ := info_parts Try.infoPlace
  have h' := h
  obtain ⟨_, a1, c1, a2, c2, a3, c3, rfl, _⟩ := h'
  obtain ⟨ws, hws, HB, hsz, hblk⟩ := box1 w (.cells #[.slice a1 B.nv c1, .slice a2 B.nf c2, .slice a3 B.ns c3, .int .i64 B.wr] 25)
  have q0 := cell_blk hblk 0 rfl
  have q1 := cell_blk hblk 1 rfl
  have q2 := cell_blk hblk 2 rfl
  have q3 := cell_blk hblk 3 rfl
  obtain ⟨HBF, HB0⟩ := entry HB.out h hf
  clear hblk h hf
  obtain ⟨er, her⟩ : ∃ er, (eKnown B R true).2 = er := ⟨_, rfl⟩
  have HE := Lib.hid her
  by_cases he : er = 0
  case neg =>
    have HX : Hid (eMistakes B R = ([], er)) := by
      unfold Hid eMistakes
      rw [← her]
      by_cases hc : chk B R = 0
      · rw [if_neg (by simp [hc]), known_true hc]
        by_cases h0 : (sorts B R).length = 0
        · simp [h0]
        · rw [known_true hc] at her; simp [h0] at her; omega
      · rw [if_pos hc]; unfold eKnown; rw [ask_chk hc, if_pos hc]
    have heb : (er != 0) = true := by simp [he]
    clear her he
    go_enter Try.func34, Try.ntmps34
    go_wp2_with (go_at_call 72; refine (known_any N _ _ B R _ _ (HBF.out.go HB0.out).1 (HBF.out.go HB0.out).2).mono ?_; rintro e w1 ⟨x1, rfl, ho1, hb1⟩; clear ho1; rw [HE.out]; (try clear c0); have HB1 := Lib.hid (bel HB0.out hb1); have c1 := (old_of HB1.out).1; clear hb1)
    go_ret2
    rw [HX.out]
    exact ⟨_, rfl, ownP_nil _ _, fin HB.out HB1.out⟩
  have hk := known_err (her.trans he)
  subst he
  have hg := chk_good hk.1
  have HX : Hid (eMistakes B R = (mistakes B R, 0)) := by
    unfold Hid eMistakes; rw [if_neg (by simp [hk.1]), if_neg hk.2.2]
  have heb : ((0 : Int) != 0) = false := rfl
  have HG := Lib.hid hg
  have hnv6 := hg.nv
  have hn5 := hg.n
  clear hk hg her
  go_enter Try.func34, Try.ntmps34
  go_wp2_with (go_at_call 72; refine (known_any N _ _ B R _ _ (HBF.out.go HB0.out).1 (HBF.out.go HB0.out).2).mono ?_; rintro e w1 ⟨x1, rfl, ho1, hb1⟩; clear ho1; rw [HE.out]; (try clear c0); have HB1 := Lib.hid (bel HB0.out hb1); have c1 := (old_of HB1.out).1; clear hb1)
  clear hws
  obtain ⟨af, cf, rfl, _, _⟩ := id HBF.out.2
  go_loopw [8, 9] (fun t i wr => ∃ k : Nat, k ≤ R.n ∧ i = .int .i64 k ∧ Hid (OwnP ws.heap.size wr t (allP (misB B R) B.nv k)) ∧ Hid (Below ws.heap.size ws wr)) (fun _ i _ => R.n - (intOf i).toNat)
  case atStart => exact ⟨0, Nat.zero_le _, rfl, World.ownsRow_nil _ _ _ _, HB1⟩
  case round =>
    obtain ⟨k, hk, rfl, ho, HBr⟩ := hrel
    clear c1
    have cr := (old_of HBr.out).1
    have hszr := Nat.lt_of_lt_of_le hsz HBr.out.size
    by_cases hkn : k < R.n
    · have HKN := Lib.hid hkn
      have hal : (allP (misB B R) B.nv k).length ≤ 40 := by
        have h1 := allP_len (misB B R) B.nv k
        have h2 : k * B.nv ≤ 5 * 8 := Nat.mul_le_mul (by omega) (by omega)
        omega
      go_wp2
      obtain ⟨wo, rfl⟩ : ∃ wo : World, wo = wr := ⟨_, rfl⟩
      have HO : Hid _ := ho
      have HBo : Hid (Below ws.heap.size ws wo) := HBr
      clear ho HBr cr
      go_loopw [8, 10] (fun t i wr => ∃ j : Nat, j ≤ B.nv ∧ i = .int .i64 j ∧ Hid (OwnP ws.heap.size wr t (allP (misB B R) B.nv k ++ rowP (misB B R) k j)) ∧ Hid (Below ws.heap.size ws wr)) (fun _ i _ => B.nv - (intOf i).toNat)
      case atStart => exact ⟨0, Nat.zero_le _, rfl, by unfold rowP; rw [List.append_nil]; exact HO, HBo⟩
      case round =>
        obtain ⟨j, hj, rfl, ho, HBr⟩ := hrel
        by_cases hjn : j < B.nv
        · have HJN := Lib.hid hjn
          have hjL : j < R.L k := by rw [HG.out.L k HKN.out]; exact hjn
          have hji : (j : Int) < (R.L k : Int) := by omega
          obtain ⟨b5, o5, b6, o6, cap6, rfl, hb5, hb6, hq5, hq6⟩ := fruit_at HBF.out.2 HKN.out hjL
          obtain ⟨wa, hwa, HBa', hsza, hblka⟩ := box1 wr (.cells #[.int .i64 k, .int .i64 j] 40)
          have p0 := cell_blk hblka 0 rfl
          have p1 := cell_blk hblka 1 rfl
          have HBa := Lib.hid (bel HBr.out HBa'.out)
          have ca := (old_of HBa.out).1
          have hszwa := Nat.lt_of_lt_of_le hsz HBa.out.size
          have cr := (old_of HBr.out).1
          have hszr := Nat.lt_of_lt_of_le hsz HBr.out.size
          have g5 : b5 < ws.heap.size := Nat.lt_of_lt_of_le hb5 HBF.out.1.1
          have g6 : b6 < ws.heap.size := Nat.lt_of_lt_of_le hb6 HBF.out.1.1
          have hown : OwnP ws.heap.size wa _ _ := own_below ho.out HBa'.out
          clear hblka
          by_cases hx : R.X k j = -1
          · have hxb : (R.X k j != -1) = false := by simp [hx]
            have HP : Hid (rowP (misB B R) k (j + 1) = rowP (misB B R) k j) := by unfold Hid; simp [rowP, misB, hx]
            have HOW := Lib.hid hown
            clear hx hown ho
            go_wp2
            go_roundw
            case rel => exact ⟨j + 1, by omega, by go_num, by rw [HP.out]; exact HOW, HBa⟩
            case measure => simp [intOf]; omega
          · have hxb : (R.X k j != -1) = true := by simp [hx]
            have HVI := Lib.hid (vals_in HG.out hkn hjn hx)
            have HVL := Lib.hid (vals_len (R := R) (f := k) HG.out hjn)
            have hrl := rowP_len (misB B R) k j
            cases hex : exAny B R k j (R.X k j) with
            | true =>
              have HEX := Lib.hid hex
              have HP : Hid (rowP (misB B R) k (j + 1) = rowP (misB B R) k j) := by unfold Hid; simp [rowP, misB, hex]
              have HOW := Lib.hid hown
              clear hx hex hown ho
              go_wp2_with (first
                | (go_at_call 77; refine (valuesOf_any N _ _ B R k j _ (HBF.out.go HBa.out).1 (HBF.out.go HBa.out).2 HG.out HKN.out HJN.out).mono ?_; rintro e w3 ⟨x3, rfl, ho3, hb3⟩; obtain ⟨ao3, co3, rfl⟩ := ho3.form; have HO3 := Lib.hid ho3; have HOX := Lib.hid (own_below HOW.out hb3); clear ho3; (try clear ca); have HB3 := Lib.hid (bel HBa.out hb3); have c3 := (old_of HB3.out).1; clear hb3)
                | (go_at_call 48; refine (in_any _ _ _ _ _ _ (HO3.out.ints HVL.out)).mono ?_; rintro e wz ⟨rfl, hw⟩; obtain rfl := hw.symm; rw [HVI.out, HEX.out]))
              go_roundw
              case rel => exact ⟨j + 1, by omega, by go_num, by rw [HP.out]; exact HOX, HB3⟩
              case measure => simp [intOf]; omega
            | false =>
              have HEX := Lib.hid hex
              have HP : Hid (rowP (misB B R) k (j + 1) = rowP (misB B R) k j ++ [(k, j)]) := by unfold Hid; simp [rowP, misB, hex, hx]
              have HOW := Lib.hid hown
              have hrl2 : (allP (misB B R) B.nv k ++ rowP (misB B R) k j).length ≤ 60 := by
                rw [List.length_append]; omega
              clear hx hex hown ho
              generalize hll : allP (misB B R) B.nv k ++ rowP (misB B R) k j = l at *
              have HLL : Hid _ := Lib.hid hll
              clear hll
              go_wp2_with (first
                | (go_at_call 77; refine (valuesOf_any N _ _ B R k j _ (HBF.out.go HBa.out).1 (HBF.out.go HBa.out).2 HG.out HKN.out HJN.out).mono ?_; rintro e w3 ⟨x3, rfl, ho3, hb3⟩; obtain ⟨ao3, co3, rfl⟩ := ho3.form; have HO3 := Lib.hid ho3; have HOX := Lib.hid (own_below HOW.out hb3); have p0' := (hb3.cell (p := ⟨wr.heap.size, 0, none⟩) hsza).trans p0; have p1' := (hb3.cell (p := ⟨wr.heap.size, 1, none⟩) hsza).trans p1; have hsza3 := Nat.lt_of_lt_of_le hsza hb3.size; clear ho3; (try clear ca); have HB3 := Lib.hid (bel HBa.out hb3); have c3 := (old_of HB3.out).1; clear hb3; have hs3 := HB3.out.size)
                | (go_at_call 48; refine (in_any _ _ _ _ _ _ (HO3.out.ints HVL.out)).mono ?_; rintro e wz ⟨rfl, hw⟩; obtain rfl := hw.symm; rw [HVI.out, HEX.out])
                | (at_builtin; refine wpList_append_own _ rfl _ _ 48 rfl ws.heap.size 40 i0 (.agg #[.int .i64 0, .int .i64 0]) 2 16 Try.underlying48 hi hz0 hz1 hz2 rfl (by decide) _ _ _ rfl (HOX.out.alloc _) ⟨w3.heap.size, 0, none⟩ 1 1 [.int .i64 k, .int .i64 j] rfl rfl (cells_new _ _ _) (by simp [Value.oneCell']) (by unfold maxLen; omega) (by omega) (by simp; omega) ?_; intro v' w4 hown4 hgrow _))
              go_roundw
              case rel => exact ⟨j + 1, by omega, by go_num, by
                  rw [HP.out, ← List.append_assoc, HLL.out]; unfold Hid OwnP; rw [List.length_append, List.flatMap_append]; exact hown4, (Below.alloc HB3.out (by have := HB3.out.size; omega) _).grown hgrow (by simp; omega) (fun j e => (HOX.out.lt j e).1)⟩
              case measure => simp [intOf]; omega
        · have Hj : Hid (j = B.nv) := by show j = _; omega
          have HP : Hid (allP (misB B R) B.nv (k + 1) = allP (misB B R) B.nv k ++ rowP (misB B R) k j) := by
            unfold Hid; rw [Hj.out]; rfl
          have cr := (old_of HBr.out).1
          have hszr := Nat.lt_of_lt_of_le hsz HBr.out.size
          go_wp2
          go_roundw
          case rel => exact ⟨k + 1, by omega, by go_num, by rw [HP.out]; exact ho, HBr⟩
          case measure => simp [intOf]; omega
    · have Hk : Hid (k = R.n) := by show k = _; omega
      go_wp2
      go_ret2
      rw [HX.out]
      exact ⟨_, rfl, by show OwnP _ _ _ (mistakes B R); unfold mistakes; rw [← Hk.out]; exact own_mono ho.out HB.out.size, fin HB.out HBr.out⟩

end Go.Proofs.Ytopajgnemeodeaa
