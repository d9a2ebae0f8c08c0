/-
  The chapter's own answers: ApartOf, Apart, Twins.
-/
import Derived.Test.YtopajgnemeodeaaRefC
import Derived.Test.YtopajgnemeodeaaApart
namespace Go.Proofs.Ytopajgnemeodeaa
open Go.RowKit

/-- no fruits -/
def R0 : Fr := ⟨0, fun _ => 0, fun _ _ => 0⟩
theorem good0 {B : Bk} (h : okBook B = true) : Good B R0 := good_of h (by simp [okFruits, allB, R0])
theorem nil_fruits (N : Nat) (w : World) : FruitsAt N w (.slice none 0 0) R0 := ⟨none, 0, rfl, by decide, fun h0 => absurd h0 (Nat.lt_irrefl 0)⟩
theorem chk0 (B : Bk) : chk B R0 = if okBook B then 0 else 10 := by unfold chk; rw [show okFruits B R0 = true by simp [okFruits, allB, R0]]; simp

theorem anyB_suc (p : Nat → Bool) (k : Nat) : anyB (k + 1) p = (anyB k p || p k) := by simp [anyB, List.range_succ]

theorem sel_congr {p q : Nat → Bool} : ∀ {n : Nat}, (∀ i, i < n → p i = q i) → sel p n = sel q n
  | 0, _ => rfl
  | n + 1, h => by
    have ih := sel_congr (n := n) fun i hi => h i (by omega)
    unfold sel
    rw [ih, h n (by omega)]

/-- where a sort's list of the values of a mark lies -/
theorem can_at {n : Nat} {w : World} {a1 a2 a3 : Option Addr} {c1 c2 c3 : Nat} {B : Bk} {s i : Nat} (h : BookAt n w (.agg #[.slice a1 B.nv c1, .slice a2 B.nf c2, .slice a3 B.ns c3, .int .i64 B.wr]) B) (hs : s < B.ns) (hi : i < B.nc s) :
    ∃ b3 o3 cap b4 o4 ao c4, a3 = some ⟨b3, o3, none⟩ ∧ b3 < n ∧ w.cell? ⟨b3, o3 + s, none⟩ = some (.slice (some ⟨b4, o4, none⟩) (B.nc s) cap) ∧ b4 < n ∧ w.cell? ⟨b4, o4 + i, none⟩ = some (.slice ao (B.ncc s i) c4) ∧
      Hid (IntsAt n w (.slice ao (B.ncc s i) c4) (B.ncc s i) (B.can s i)) ∧ B.nc s ≤ 140737488351232 := by
  obtain ⟨_, _, _, _, _, _, _, e, _, _, h3⟩ := h
  cases e
  obtain ⟨_, _, e3, _, hc3⟩ := h3
  cases e3
  obtain ⟨b3, off3, rfl, hb3, hr3⟩ := hc3 (by omega)
  obtain ⟨r3, hcell3, ao, cap, rfl, hnc, hcr⟩ := hr3 s hs
  obtain ⟨b4, off4, rfl, hb4, hr4⟩ := hcr (by omega)
  obtain ⟨r4, hcell4, hints⟩ := hr4 i hi
  obtain ⟨a5, c5, rfl, hn5, hc5⟩ := hints
  exact ⟨b3, off3, cap, b4, off4, a5, c5, rfl, hb3, hcell3, hb4, hcell4, ⟨a5, c5, rfl, hn5, hc5⟩, hnc⟩

/-- where a book's number of values of a mark lies -/
theorem val_at {n : Nat} {w : World} {a1 a2 a3 : Option Addr} {c1 c2 c3 : Nat} {B : Bk} {i : Nat} (h : BookAt n w (.agg #[.slice a1 B.nv c1, .slice a2 B.nf c2, .slice a3 B.ns c3, .int .i64 B.wr]) B) (hi : i < B.nv) :
    ∃ b1 o1, a1 = some ⟨b1, o1, none⟩ ∧ b1 < n ∧ w.cell? ⟨b1, o1 + i, none⟩ = some (.int .i64 (B.V i)) := by
  obtain ⟨_, _, _, _, _, _, _, e, h1, _, _⟩ := h
  cases e
  obtain ⟨_, _, e3, _, hc3⟩ := h1
  cases e3
  obtain ⟨b3, off3, rfl, hb3, hr3⟩ := hc3 (by omega)
  obtain ⟨r3, hcell3, rfl⟩ := hr3 i hi
  exact ⟨b3, off3, rfl, hb3, hcell3⟩

def cin (B : Bk) (s i : Nat) (v : Int) : Bool := anyB (B.ncc s i) fun j => decide (B.can s i j = v)
theorem cin_inCan (B : Bk) (s i : Nat) (v : Int) : cin B s i v = inCan B s i v := by
  unfold cin inCan; congr 1; funext j; rw [Bool.eq_iff_iff]; simp [eq_comm]

/-- a value below k that both sorts can have -/
def cmn (B : Bk) (s t i k : Nat) : Bool := anyB k fun v => cin B s i v && cin B t i v

theorem cmn_common {B : Bk} {s t i : Nat} (hg : Good B R0) (hs : s < B.ns) (hi : i < B.nv) : cmn B s t i (B.V i).toNat = common B s t i := by
  rw [Bool.eq_iff_iff]
  unfold cmn common
  simp only [anyB_true, Bool.and_eq_true, decide_eq_true_eq, cin]
  constructor
  · rintro ⟨v, _, ⟨j, hj, e1⟩, ⟨k, hk, e2⟩⟩; exact ⟨j, hj, k, hk, e1.trans e2.symm⟩
  · rintro ⟨j, hj, k, hk, e⟩
    have hc := hg.can s hs i hi
    simp only [okCan, Bool.and_eq_true, decide_eq_true_eq, allB_true] at hc
    have h1 := (hc.2 j hj).1
    have e2 : (((B.can s i j).toNat : Nat) : Int) = B.can s i j := Int.toNat_of_nonneg h1.1
    exact ⟨(B.can s i j).toNat, by omega, ⟨j, hj, e2.symm⟩, ⟨k, hk, by rw [e2]; exact e.symm⟩⟩

set_option maxHeartbeats 4000000 in
theorem apartOf_any (N : Nat) (v : Value) (B : Bk) (s t : Nat) (w : World) (h : BookAt N w v B) (hg : Good B R0) (hs : s < B.ns) (ht : t < B.ns) :
    Calls Try.prog 84 #[v, .int .i64 s, .int .i64 t] w (GivesI w.heap.size w (apartL B s t)) := by
  obtain ⟨i0, hi, hz0, hz1, hz2⟩ := info_parts Try.infoInt
  have hf := nil_fruits N w
  have h' := h
  obtain ⟨_, a1, c1, a2, c2, a3, c3, rfl, _⟩ := h'
  obtain ⟨ws, hws, HB, hsz, hblk⟩ := box1 w (.cells #[.slice a1 B.nv c1, .slice a2 B.nf c2, .slice a3 B.ns c3, .int .i64 B.wr] 25)
  have q0 := cell_blk hblk 0 rfl
  have q1 := cell_blk hblk 1 rfl
  have q2 := cell_blk hblk 2 rfl
  have q3 := cell_blk hblk 3 rfl
  obtain ⟨HBF, HB0⟩ := entry HB.out h hf
  clear hblk h hf
  have HG : Hid _ := Lib.hid hg
  have hn6 := hg.nv
  have HS : Hid _ := Lib.hid hs
  have HT : Hid _ := Lib.hid ht
  have hsi : (s : Int) < (B.ns : Int) := by omega
  have hti : (t : Int) < (B.ns : Int) := by omega
  have HAP : Hid (sel (fun i => !cmn B s t i (B.V i).toNat) B.nv = apartL B s t) := sel_congr fun i hi => by rw [cmn_common hg hs hi]
  clear hg hs ht
  go_enter Try.func84, Try.ntmps84
  go_wp2
  clear hws
  go_loopw [7, 8] (fun l i wr => ∃ k : Nat, k ≤ B.nv ∧ i = .int .i64 k ∧ Hid (OwnI ws.heap.size wr l (sel (fun i => !cmn B s t i (B.V i).toNat) k)) ∧ Hid (Below ws.heap.size ws wr)) (fun _ i _ => B.nv - (intOf i).toNat)
  case atStart => exact ⟨0, Nat.zero_le _, rfl, World.ownsRow_nil _ _ _ _, Below.refl _ _⟩
  case round =>
    obtain ⟨k, hk, rfl, ho, HBr⟩ := hrel
    have cr := (old_of HBr.out).1
    have hszr := Nat.lt_of_lt_of_le hsz HBr.out.size
    have HBFr := HBF
    have HBF := Lib.hid (HBF.out.go HBr.out)
    clear HBFr
    have HB0 : Hid (Below wr.heap.size wr wr) := Below.refl _ _
    by_cases hkn : k < B.nv
    · have hsl := sel_len (fun i => !cmn B s t i (B.V i).toNat) k
      have hV := HG.out.V k hkn
      obtain ⟨n, hn⟩ : ∃ n : Nat, B.V k = n := ⟨(B.V k).toNat, by omega⟩
      have HV : Hid ((B.V k).toNat = n) := by unfold Hid; omega
      obtain ⟨b1, o1, rfl, hb1, hq1⟩ := val_at HBF.out.1 hkn
      rw [hn] at hq1 hV
      have hks : k < B.nc s := by rw [HG.out.nc s HS.out]; exact hkn
      have hkt : k < B.nc t := by rw [HG.out.nc t HT.out]; exact hkn
      obtain ⟨b3, o3, cap, b4, o4, ao, c4, rfl, hb3, hq3, hb4, hq4, HI1, _⟩ := can_at HBF.out.1 HS.out hks
      obtain ⟨_, _, cap', b5, o5, ao', c5, e, _, hq5, hb5, hq6, HI2, _⟩ := can_at HBF.out.1 HT.out hkt
      cases e
      have hksi : (k : Int) < (B.nc s : Int) := by omega
      have hkti : (k : Int) < (B.nc t : Int) := by omega
      clear hn hks hkt
      go_wp2
      go_loop [9, 10] (fun c i => ∃ j : Nat, j ≤ n ∧ i = .int .i64 j ∧ c = .bool (cmn B s t k j)) (fun _ i => n - (intOf i).toNat)
      case atStart => exact ⟨0, Nat.zero_le _, rfl, rfl⟩
      case round =>
        obtain ⟨j, hj, rfl, rfl⟩ := hrel
        by_cases hjn : j < n
        · have HE : Hid (cmn B s t k (j + 1) = (cmn B s t k j || (cin B s k j && cin B t k j))) := anyB_suc _ _
          cases h0 : cmn B s t k j
          all_goals
            cases h1 : cin B s k j
            all_goals
              cases h2 : cin B t k j
              all_goals
                have H0 : Hid _ := Lib.hid h0
                have H1 : Hid _ := Lib.hid h1
                have H2 : Hid _ := Lib.hid h2
                clear h0 h1 h2
                go_wp2_with (first
                  | (go_at_call 48; have _t := tok1; refine (in_any _ _ _ _ _ _ HI2.out).mono ?_; rintro e w' ⟨rfl, rfl⟩; rw [show (anyB (B.ncc t k) fun i => decide (B.can t k i = (j : Int))) = _ from H2.out])
                  | (go_at_call 48; refine (in_any _ _ _ _ _ _ HI1.out).mono ?_; rintro e w' ⟨rfl, rfl⟩; rw [show (anyB (B.ncc s k) fun i => decide (B.can s k i = (j : Int))) = _ from H1.out]; have tok1 := True.intro))
                go_round
                case rel => exact ⟨j + 1, by omega, by go_num, by rw [HE.out, H0.out, H1.out, H2.out]; rfl⟩
                case measure => simp [intOf]; omega
        · have Hj : Hid (cmn B s t k j = cmn B s t k (B.V k).toNat) := by unfold Hid; rw [HV.out, show j = n by omega]
          cases hc : cmn B s t k j with
          | true =>
            have HP : Hid (sel (fun i => !cmn B s t i (B.V i).toNat) (k + 1) = sel (fun i => !cmn B s t i (B.V i).toNat) k) := sel_miss (by rw [← Hj.out, hc]; rfl)
            have HC : Hid _ := Lib.hid hc
            clear hc
            generalize sel (fun i => !cmn B s t i (B.V i).toNat) k = l at *
            go_wp2
            go_roundw
            case rel => exact ⟨k + 1, by omega, by go_num, by rw [HP.out]; exact ho, HBr⟩
            case measure => simp [intOf]; omega
          | false =>
            have HP : Hid (sel (fun i => !cmn B s t i (B.V i).toNat) (k + 1) = sel (fun i => !cmn B s t i (B.V i).toNat) k ++ [(k : Int)]) := sel_hit (by rw [← Hj.out, hc]; rfl)
            have HC : Hid _ := Lib.hid hc
            clear hc
            generalize sel (fun i => !cmn B s t i (B.V i).toNat) k = l at *
            go_wp2_with (at_builtin; refine wpList_append_own _ rfl _ _ 22 rfl ws.heap.size 3 i0 (.int .i64 0) 1 8 Try.underlying22 hi hz0 hz1 hz2 rfl (by decide) _ _ _ rfl (ho.out.alloc _) ⟨wr.heap.size, 0, none⟩ 1 1 [.int .i64 k] rfl rfl (cell_one_new _ _ _) (by simp [Value.oneCell']) (by unfold maxLen; omega) (by omega) (by have := HBr.out.size; simp; omega) ?_; intro v' w2 hown2 hgrow _)
            go_roundw
            case rel => exact ⟨k + 1, by omega, by go_num, by rw [HP.out]; unfold Hid OwnI; rw [List.length_append, List.map_append]; exact hown2, (HBr.out.alloc HBr.out.size _).grown hgrow (by have := HBr.out.size; simp; omega) (fun j e => (ho.out.lt j e).1)⟩
            case measure => simp [intOf]; omega
    · have Hk : Hid (k = B.nv) := by show k = _; omega
      go_wp2
      go_ret
      exact ⟨_, rfl, by rw [← HAP.out, ← Hk.out]; exact own_mono ho.out HB.out.size, fin HB.out HBr.out⟩

theorem ask0 (B : Bk) (is : Bool) : eAsk B R0 is = if okBook B then (if is then 0 else 1) else 10 := by
  unfold eAsk; rw [chk0]; cases okBook B <;> simp

set_option maxHeartbeats 4000000 in
theorem rApart_any (N : Nat) (v : Value) (B : Bk) (s t : Int) (w : World) (h : BookAt N w v B) :
    Calls Try.prog 41 #[v, .int .i64 s, .int .i64 t] w (GivesIE w.heap.size w (eApart B s t).1 (eApart B s t).2) := by
  have hf := nil_fruits N w
  have h' := h
  obtain ⟨_, a1, c1, a2, c2, a3, c3, rfl, _⟩ := h'
  obtain ⟨ws, hws, HB, hsz, hblk⟩ := box1 w (.cells #[.slice a1 B.nv c1, .slice a2 B.nf c2, .slice a3 B.ns c3, .int .i64 B.wr] 25)
  have q0 := cell_blk hblk 0 rfl
  have q1 := cell_blk hblk 1 rfl
  have q2 := cell_blk hblk 2 rfl
  have q3 := cell_blk hblk 3 rfl
  obtain ⟨HBF, HB0⟩ := entry HB.out h hf
  clear hblk h hf
  have S0d := old_of HB0.out.drew; have HB0d := S0d.2
  obtain ⟨is, his⟩ : ∃ is, (decide (0 ≤ s) && decide (s < (B.ns : Int))) = is := ⟨_, rfl⟩
  obtain ⟨it, hit⟩ : ∃ it, (decide (0 ≤ t) && decide (t < (B.ns : Int))) = it := ⟨_, rfl⟩
  have HIS : Hid _ := Lib.hid his
  have HIT : Hid _ := Lib.hid hit
  cases is with
  | false =>
    clear his hit
    obtain ⟨er, her⟩ : ∃ er, eAsk B R0 false = er := ⟨_, rfl⟩
    have he0 : (er != 0) = true := by rw [← her, ask0]; cases okBook B <;> simp
    have HE : Hid _ := Lib.hid her
    have HX : Hid (eApart B s t = ([], er)) := by
      unfold Hid eApart; rw [← her, ask0, HIS.out]; cases okBook B <;> simp
    clear her
    go_enter Try.func41, Try.ntmps41
    go_wp2
    clear hws
    refine wp_region_held_drew (S := (fun w' => (∀ b o, b < ws.heap.size → w'.cell? ⟨b, o, none⟩ = ws.cell? ⟨b, o, none⟩) ∧ Hid (Below ws.heap.size ws w'))) (by kernel_rfl) S0d (fun hHeld => ?_)
    (refine wpAnyH_take (i := 0) (v := ?_) rfl (by kernel_rfl) (by kernel_rfl) (by kernel_rfl) (fun _ _ _ h => h) (Or.inl ⟨by rfl, ?_⟩) (by assumption) ?_; rotate_left; (focus (intro w hSw; (try dsimp only at hSw); go_simp; (try with_reducible rfl))); (try simp only [List.getElem_toArray, List.getElem_cons_zero, List.getElem_cons_succ, Act.put, List.setIfInBounds_toArray, List.set_cons_zero, List.set_cons_succ]))
    (refine wpAnyH_take (i := 1) (v := ?_) rfl (by kernel_rfl) (by kernel_rfl) (by kernel_rfl) (fun _ _ _ h => h) (Or.inl ⟨by rfl, ?_⟩) (by assumption) ?_; rotate_left; (focus (intro w hSw; (try dsimp only at hSw); go_simp; (try with_reducible rfl))); (try simp only [List.getElem_toArray, List.getElem_cons_zero, List.getElem_cons_succ, Act.put, List.setIfInBounds_toArray, List.set_cons_zero, List.set_cons_succ]))
    (refine wpAnyH_take (i := 2) (v := ?_) rfl (by kernel_rfl) (by kernel_rfl) (by kernel_rfl) (fun _ _ _ h => h) (Or.inl ⟨by rfl, ?_⟩) (by assumption) ?_; rotate_left; (focus (intro w hSw; (try dsimp only at hSw); go_simp; (try with_reducible rfl))); (try simp only [List.getElem_toArray, List.getElem_cons_zero, List.getElem_cons_succ, Act.put, List.setIfInBounds_toArray, List.set_cons_zero, List.set_cons_succ]))
    refine wpAnyH_ready (rs := [3]) (by kernel_rfl) (by simp) ?_; refine AllReadyH.cons rfl (fun K hK => ?_) AllReadyH.nil; go_simp
    go_at_call 54
    refine (isSort_any N _ B s _ (HBF.out.go HB0d.out).1).mono ?_
    rintro e w1 ⟨rfl, hb1⟩
    rw [HIS.out]
    have S1 := old_of (bel HB0d.out hb1); have HB1 := S1.2; clear hb1
    refine hK.out _ _ S1 (fun hHeld => ?_); clear hK K; (try simp only [List.getElem_toArray, List.getElem_cons_zero, List.getElem_cons_succ, Act.put, List.setIfInBounds_toArray, List.set_cons_zero, List.set_cons_succ])
    (refine wpAnyH_take (i := 4) (v := ?_) rfl (by kernel_rfl) (by kernel_rfl) (by kernel_rfl) (fun _ _ _ h => h) (Or.inl ⟨by rfl, ?_⟩) (by assumption) ?_; rotate_left; (focus (intro w hSw; (try dsimp only at hSw); go_simp; (try with_reducible rfl))); (try simp only [List.getElem_toArray, List.getElem_cons_zero, List.getElem_cons_succ, Act.put, List.setIfInBounds_toArray, List.set_cons_zero, List.set_cons_succ]))
    (refine wpAnyH_take (i := 5) (v := undef) rfl (by kernel_rfl) (by kernel_rfl) (by kernel_rfl) (fun _ _ _ h => h) (Or.inr ⟨by rfl, rfl⟩) (by assumption) ?_; (try simp only [List.getElem_toArray, List.getElem_cons_zero, List.getElem_cons_succ, Act.put, List.setIfInBounds_toArray, List.set_cons_zero, List.set_cons_succ]))
    (refine wpAnyH_take (i := 6) (v := undef) rfl (by kernel_rfl) (by kernel_rfl) (by kernel_rfl) (fun _ _ _ h => h) (Or.inr ⟨by rfl, rfl⟩) (by assumption) ?_; (try simp only [List.getElem_toArray, List.getElem_cons_zero, List.getElem_cons_succ, Act.put, List.setIfInBounds_toArray, List.set_cons_zero, List.set_cons_succ]))
    (refine wpAnyH_take (i := 7) (v := undef) rfl (by kernel_rfl) (by kernel_rfl) (by kernel_rfl) (fun _ _ _ h => h) (Or.inr ⟨by rfl, rfl⟩) (by assumption) ?_; (try simp only [List.getElem_toArray, List.getElem_cons_zero, List.getElem_cons_succ, Act.put, List.setIfInBounds_toArray, List.set_cons_zero, List.set_cons_succ]))
    (refine wpAnyH_take (i := 8) (v := ?_) rfl (by kernel_rfl) (by kernel_rfl) (by kernel_rfl) (fun _ _ _ h => h) (Or.inl ⟨by rfl, ?_⟩) (by assumption) ?_; rotate_left; (focus (intro w hSw; (try dsimp only at hSw); go_simp; (try with_reducible rfl))); (try simp only [List.getElem_toArray, List.getElem_cons_zero, List.getElem_cons_succ, Act.put, List.setIfInBounds_toArray, List.set_cons_zero, List.set_cons_succ]))
    refine wpAnyH_ready (rs := [9]) (by kernel_rfl) (by simp) ?_; refine AllReadyH.cons rfl (fun K hK => ?_) AllReadyH.nil; go_simp
    go_at_call 68
    refine (ask_any N _ _ B R0 false _ (HBF.out.go HB1.out).1 (HBF.out.go HB1.out).2).mono ?_
    rintro e w2 ⟨rfl, hb2⟩
    rw [HE.out]
    have S2 := old_of (bel HB1.out hb2); have HB2 := S2.2; clear hb2
    refine hK.out _ _ S2 (fun hHeld => ?_); clear hK K; (try simp only [List.getElem_toArray, List.getElem_cons_zero, List.getElem_cons_succ, Act.put, List.setIfInBounds_toArray, List.set_cons_zero, List.set_cons_succ])
    (refine wpAnyH_take (i := 10) (v := ?_) rfl (by kernel_rfl) (by kernel_rfl) (by kernel_rfl) (fun _ _ _ h => h) (Or.inl ⟨by rfl, ?_⟩) (by assumption) ?_; rotate_left; (focus (intro w hSw; (try dsimp only at hSw); go_simp; (try with_reducible rfl))); (try simp only [List.getElem_toArray, List.getElem_cons_zero, List.getElem_cons_succ, Act.put, List.setIfInBounds_toArray, List.set_cons_zero, List.set_cons_succ]))
    refine wpAnyH_done (by kernel_rfl) ?_ _; clear hHeld
    have HB2 := S2.2; have c2 := S2.1; clear S2 S0d
    clear S1
    go_wp2
    go_ret2
    rw [HX.out]
    exact ⟨_, rfl, own_nil _ _, fin HB.out HB2.out⟩
  | true =>
    obtain ⟨k, rfl, hk⟩ : ∃ k : Nat, s = k ∧ k < B.ns := ⟨s.toNat, by simp at his; omega, by simp at his; omega⟩
    by_cases hc : eAsk B R0 it = 0
    · obtain ⟨hc0, rfl⟩ := ask_good hc
      obtain ⟨j, rfl, hj⟩ : ∃ j : Nat, t = j ∧ j < B.ns := ⟨t.toNat, by simp at hit; omega, by simp at hit; omega⟩
      have hok : okBook B = true := by rw [chk0] at hc0; cases h : okBook B <;> simp [h] at hc0 ⊢
      have HG : Hid (Good B R0) := good0 hok
      have HE : Hid _ := Lib.hid hc
      have HX : Hid (eApart B k j = (apartL B k j, 0)) := by unfold Hid eApart; rw [hok, if_neg (by simp), if_pos ⟨HIS.out, HIT.out⟩]; rfl
      have HK : Hid _ := Lib.hid hk
      have HJ : Hid _ := Lib.hid hj
      clear his hit hc hk hj hok hc0
      go_enter Try.func41, Try.ntmps41
      go_wp2
      clear hws
      go_region_held3 (fun w' => (∀ b o, b < ws.heap.size → w'.cell? ⟨b, o, none⟩ = ws.cell? ⟨b, o, none⟩) ∧ Hid (Below ws.heap.size ws w')) (assumption) (first
        | (go_at_call 54; have _t := HB1; refine (isSort_any N _ B j _ (HBF.out.go HB1.out).1).mono ?_; rintro e w2 ⟨rfl, hb2⟩; rw [HIT.out]; have S2 := old_of (bel HB1.out hb2); have HB2 := S2.2; clear hb2)
        | (go_at_call 54; refine (isSort_any N _ B k _ (HBF.out.go HB0d.out).1).mono ?_; rintro e w1 ⟨rfl, hb1⟩; rw [HIS.out]; have S1 := old_of (bel HB0d.out hb1); have HB1 := S1.2; clear hb1)
        | (go_at_call 68; refine (ask_any N _ _ B R0 true _ (HBF.out.go HB2.out).1 (HBF.out.go HB2.out).2).mono ?_; rintro e w3 ⟨rfl, hb3⟩; rw [HE.out]; have S3 := old_of (bel HB2.out hb3); have HB3 := S3.2; clear hb3))
      have HB3 := S3.2; have c3 := S3.1; clear S3 S0d
      clear S1 S2
      go_wp2_with (go_at_call 84; refine (apartOf_any N _ B k j _ (HBF.out.go HB3.out).1 HG.out HK.out HJ.out).mono ?_; rintro e w4 ⟨x4, rfl, ho4, hb4⟩; obtain ⟨_, _, rfl⟩ := ho4.form; have HO : Hid _ := Lib.hid ho4; clear ho4; (try clear c3); have HB4 := Lib.hid (bel HB3.out hb4); have c4 := (old_of HB4.out).1; clear hb4)
      go_ret2
      rw [HX.out]
      exact ⟨_, rfl, own_mono HO.out (fin HB.out HB3.out).size, fin HB.out HB4.out⟩
    · obtain ⟨er, her⟩ : ∃ er, eAsk B R0 it = er := ⟨_, rfl⟩
      have he0 : (er != 0) = true := by rw [← her]; simpa using hc
      have HE : Hid _ := Lib.hid her
      have HX : Hid (eApart B k t = ([], er)) := by
        unfold Hid eApart; rw [← her, ask0] at *; rw [HIS.out, HIT.out]; cases h : okBook B <;> cases it <;> simp [h] at hc ⊢
      clear her his hit hc
      go_enter Try.func41, Try.ntmps41
      go_wp2
      clear hws
      go_region_held3 (fun w' => (∀ b o, b < ws.heap.size → w'.cell? ⟨b, o, none⟩ = ws.cell? ⟨b, o, none⟩) ∧ Hid (Below ws.heap.size ws w')) (assumption) (first
        | (go_at_call 54; have _t := HB1; refine (isSort_any N _ B t _ (HBF.out.go HB1.out).1).mono ?_; rintro e w2 ⟨rfl, hb2⟩; rw [HIT.out]; have S2 := old_of (bel HB1.out hb2); have HB2 := S2.2; clear hb2)
        | (go_at_call 54; refine (isSort_any N _ B k _ (HBF.out.go HB0d.out).1).mono ?_; rintro e w1 ⟨rfl, hb1⟩; rw [HIS.out]; have S1 := old_of (bel HB0d.out hb1); have HB1 := S1.2; clear hb1)
        | (go_at_call 68; refine (ask_any N _ _ B R0 it _ (HBF.out.go HB2.out).1 (HBF.out.go HB2.out).2).mono ?_; rintro e w3 ⟨rfl, hb3⟩; rw [HE.out]; have S3 := old_of (bel HB2.out hb3); have HB3 := S3.2; clear hb3))
      have HB3 := S3.2; have c3 := S3.1; clear S3 S0d
      clear S1 S2
      go_wp2
      go_ret2
      rw [HX.out]
      exact ⟨_, rfl, own_nil _ _, fin HB.out HB3.out⟩

end Go.Proofs.Ytopajgnemeodeaa

namespace Go.Proofs.Ytopajgnemeodeaa
open Go.RowKit

set_option maxHeartbeats 4000000 in
theorem rTwins_any (N : Nat) (v : Value) (B : Bk) (s : Int) (w : World) (h : BookAt N w v B) :
    Calls Try.prog 43 #[v, .int .i64 s] w (GivesIE w.heap.size w (eTwins B s).1 (eTwins B s).2) := by
  obtain ⟨i0, hi, hz0, hz1, hz2⟩ := info_parts Try.infoInt
  have hf := nil_fruits N w
  have h' := h
  obtain ⟨_, a1, c1, a2, c2, a3, c3, rfl, _⟩ := h'
  obtain ⟨ws, hws, HB, hsz, hblk⟩ := box1 w (.cells #[.slice a1 B.nv c1, .slice a2 B.nf c2, .slice a3 B.ns c3, .int .i64 B.wr] 25)
  have q0 := cell_blk hblk 0 rfl
  have q1 := cell_blk hblk 1 rfl
  have q2 := cell_blk hblk 2 rfl
  have q3 := cell_blk hblk 3 rfl
  obtain ⟨HBF, HB0⟩ := entry HB.out h hf
  clear hblk h hf
  have S0d := old_of HB0.out.drew; have HB0d := S0d.2
  obtain ⟨is, his⟩ : ∃ is, (decide (0 ≤ s) && decide (s < (B.ns : Int))) = is := ⟨_, rfl⟩
  have HIS : Hid _ := Lib.hid his
  by_cases hc : eAsk B R0 is = 0
  · obtain ⟨hc0, rfl⟩ := ask_good hc
    obtain ⟨k, rfl, hk⟩ : ∃ k : Nat, s = k ∧ k < B.ns := ⟨s.toNat, by simp at his; omega, by simp at his; omega⟩
    have hok : okBook B = true := by rw [chk0] at hc0; cases h : okBook B <;> simp [h] at hc0 ⊢
    have HG : Hid (Good B R0) := good0 hok
    have H8 := (good0 hok).ns
    have HE : Hid _ := Lib.hid hc
    have HX : Hid (eTwins B k = (twinsL B k, 0)) := by unfold Hid eTwins; rw [hok, if_neg (by simp), if_neg (by rw [HIS.out]; simp)]; rfl
    have HK : Hid _ := Lib.hid hk
    have hki : (k : Int) < 8 := by omega
    clear his hc hk hok hc0
    go_enter Try.func43, Try.ntmps43
    go_wp2
    clear hws
    go_region_held3 (fun w' => (∀ b o, b < ws.heap.size → w'.cell? ⟨b, o, none⟩ = ws.cell? ⟨b, o, none⟩) ∧ Hid (Below ws.heap.size ws w')) (assumption) (first
      | (go_at_call 54; refine (isSort_any N _ B k _ (HBF.out.go HB0d.out).1).mono ?_; rintro e w1 ⟨rfl, hb1⟩; rw [HIS.out]; have S1 := old_of (bel HB0d.out hb1); have HB1 := S1.2; clear hb1)
      | (go_at_call 68; refine (ask_any N _ _ B R0 true _ (HBF.out.go HB1.out).1 (HBF.out.go HB1.out).2).mono ?_; rintro e w2 ⟨rfl, hb2⟩; rw [HE.out]; have S2 := old_of (bel HB1.out hb2); have HB2 := S2.2; clear hb2))
    have HB2 := S2.2; have c2 := S2.1; clear S2 S0d
    clear S1
    go_wp2
    clear c2
    go_loopw [7, 8] (fun u i wr => ∃ j : Nat, j ≤ B.ns ∧ i = .int .i64 j ∧ Hid (OwnI ws.heap.size wr u (sel (twinB B k) j)) ∧ Hid (Below ws.heap.size ws wr)) (fun _ i _ => B.ns - (intOf i).toNat)
    case atStart => exact ⟨0, Nat.zero_le _, rfl, World.ownsRow_nil _ _ _ _, HB2.out⟩
    clear HB1 HB2
    case round =>
    obtain ⟨j, hj, rfl, ho, HBr⟩ := hrel
    have cr := (old_of HBr.out).1
    have hszr := Nat.lt_of_lt_of_le hsz HBr.out.size
    have HBFr := HBF
    have HBF := Lib.hid (HBF.out.go HBr.out)
    clear HBFr
    have HB0 : Hid (Below wr.heap.size wr wr) := Below.refl _ _
    by_cases hjn : j < B.ns
    · have hsl := sel_len (twinB B k) j
      by_cases hjk : j = k
      · have hjb : ((j : Int) != (k : Int)) = false := by simp [hjk]
        have HP : Hid (sel (twinB B k) (j + 1) = sel (twinB B k) j) := sel_miss (by simp [twinB, hjk])
        clear hjk
        go_wp2
        go_roundw
        case rel => exact ⟨j + 1, by omega, by go_num, by rw [HP.out]; exact ho, HBr⟩
        case measure => simp [intOf]; omega
      · have hjb : ((j : Int) != (k : Int)) = true := by simp; omega
        by_cases h0 : (apartL B k j).length = 0
        · have h0b : (((apartL B k j).length : Int) == 0) = true := by simpa using h0
          have HP : Hid (sel (twinB B k) (j + 1) = sel (twinB B k) j ++ [(j : Int)]) := sel_hit (by simp only [twinB, h0, decide_true, Bool.and_true]; simpa using hjk)
          clear hjk h0
          generalize sel (twinB B k) j = l at *
          go_wp2_with (first
            | (go_at_call 84; refine (apartOf_any N _ B k j _ (HBF.out.go HB0.out).1 HG.out HK.out hjn).mono ?_; rintro e w4 ⟨x4, rfl, ho4, hb4⟩; obtain ⟨_, _, rfl⟩ := ho4.form; clear ho4; (try clear c0); have HB4 := Lib.hid (bel HB0.out hb4); have c4 := (old_of HB4.out).1; clear hb4; have hown := own_below ho.out HB4.out; have hw4 : ws.heap.size ≤ w4.heap.size := (fin HBr.out HB4.out).size)
            | (at_builtin; refine wpList_append_own _ rfl _ _ 22 rfl ws.heap.size 3 i0 (.int .i64 0) 1 8 Try.underlying22 hi hz0 hz1 hz2 rfl (by decide) _ _ _ rfl (hown.alloc _) ⟨w4.heap.size, 0, none⟩ 1 1 [.int .i64 j] rfl rfl (cell_one_new _ _ _) (by simp [Value.oneCell']) (by unfold maxLen; omega) (by omega) (by simp; omega) ?_; intro v' w5 hown2 hgrow _))
          go_roundw
          case rel => exact ⟨j + 1, by omega, by go_num, by rw [HP.out]; unfold Hid OwnI; rw [List.length_append, List.map_append]; exact hown2, ((fin HBr.out HB4.out).alloc hw4 _).grown hgrow (by simp; omega) (fun j e => (hown.lt j e).1)⟩
          case measure => simp [intOf]; omega
        · have h0b : (((apartL B k j).length : Int) == 0) = false := by simpa using h0
          have HP : Hid (sel (twinB B k) (j + 1) = sel (twinB B k) j) := sel_miss (by simp [twinB, h0])
          clear hjk h0
          generalize sel (twinB B k) j = l at *
          go_wp2_with (first
            | (go_at_call 84; refine (apartOf_any N _ B k j _ (HBF.out.go HB0.out).1 HG.out HK.out hjn).mono ?_; rintro e w4 ⟨x4, rfl, ho4, hb4⟩; obtain ⟨_, _, rfl⟩ := ho4.form; clear ho4; (try clear c0); have HB4 := Lib.hid (bel HB0.out hb4); have c4 := (old_of HB4.out).1; clear hb4; have HO : Hid _ := Lib.hid (own_below ho.out HB4.out)))
          go_roundw
          case rel => exact ⟨j + 1, by omega, by go_num, by rw [HP.out]; exact HO.out, fin HBr.out HB4.out⟩
          case measure => simp [intOf]; omega
    · have Hj : Hid (j = B.ns) := by show j = _; omega
      go_wp2
      go_ret2
      rw [HX.out]
      exact ⟨_, rfl, by show OwnI _ _ _ (twinsL B k); unfold twinsL; rw [← Hj.out]; exact own_mono ho.out HB.out.size, fin HB.out HBr.out⟩
  · obtain ⟨er, her⟩ : ∃ er, eAsk B R0 is = er := ⟨_, rfl⟩
    have he0 : (er != 0) = true := by rw [← her]; simpa using hc
    have HE : Hid _ := Lib.hid her
    have HX : Hid (eTwins B s = ([], er)) := by
      unfold Hid eTwins; rw [← her, ask0] at *; rw [HIS.out]; cases h : okBook B <;> cases is <;> simp [h] at hc ⊢
    clear her his hc
    go_enter Try.func43, Try.ntmps43
    go_wp2
    clear hws
    go_region_held3 (fun w' => (∀ b o, b < ws.heap.size → w'.cell? ⟨b, o, none⟩ = ws.cell? ⟨b, o, none⟩) ∧ Hid (Below ws.heap.size ws w')) (assumption) (first
      | (go_at_call 54; refine (isSort_any N _ B s _ (HBF.out.go HB0d.out).1).mono ?_; rintro e w1 ⟨rfl, hb1⟩; rw [HIS.out]; have S1 := old_of (bel HB0d.out hb1); have HB1 := S1.2; clear hb1)
      | (go_at_call 68; refine (ask_any N _ _ B R0 _ _ (HBF.out.go HB1.out).1 (HBF.out.go HB1.out).2).mono ?_; rintro e w2 ⟨rfl, hb2⟩; rw [HE.out]; have S2 := old_of (bel HB1.out hb2); have HB2 := S2.2; clear hb2))
    have HB2 := S2.2; have c2 := S2.1; clear S2 S0d
    clear S1
    go_wp2
    go_ret2
    rw [HX.out]
    exact ⟨_, rfl, own_nil _ _, fin HB.out HB2.out⟩

end Go.Proofs.Ytopajgnemeodeaa
