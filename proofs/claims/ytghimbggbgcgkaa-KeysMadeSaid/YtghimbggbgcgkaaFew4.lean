/-
  Few4: Need of the reference.
-/
import Derived.Test.YtghimbggbgcgkaaFew3
import Derived.Test.YtghimbggbgcgkaaLRight
namespace Go.Proofs.Ytghimbggbgcgkaa
open Go.RowKit

def oneP (B : KB) (m a b : Nat) : Bool := decide (apartL B a b B.nv = [m])
def needI (B : KB) (m i : Nat) : Bool := (List.range i).any fun a => (List.range a).any fun b => oneP B m a b
def needJ (B : KB) (m i j : Nat) : Bool := needI B m i || (List.range j).any fun b => oneP B m i b
theorem needJ_zero (B : KB) (m i : Nat) : needJ B m i 0 = needI B m i := by simp [needJ]
theorem needJ_succ (B : KB) (m i j : Nat) : needJ B m i (j + 1) = (needJ B m i j || oneP B m i j) := by
  unfold needJ; rw [List.range_succ, List.any_append, ← Bool.or_assoc]; simp
theorem needJ_full (B : KB) (m i : Nat) : needJ B m i i = needI B m (i + 1) := by
  unfold needJ needI; rw [List.range_succ, List.any_append]; simp
theorem needI_iff {B : KB} {m n : Nat} : needI B m n = true ↔ ∃ i j, j < i ∧ i < n ∧ apartL B i j B.nv = [m] := by
  unfold needI oneP
  simp only [List.any_eq_true, List.mem_range, decide_eq_true_eq]
  constructor
  · rintro ⟨i, h1, j, h2, h3⟩; exact ⟨i, j, h2, h1, h3⟩
  · rintro ⟨i, j, h2, h1, h3⟩; exact ⟨i, h1, j, h2, h3⟩

theorem needF_bit' (m : Nat) : ∀ (l : List Nat) (a : Nat), (l.foldl (fun a d => if many d = 1 then a ||| d else a) a).testBit m = (a.testBit m || l.any fun d => decide (many d = 1) && d.testBit m) := by
  intro l
  induction l with
  | nil => intro a; simp
  | cons d l ih =>
    intro a
    rw [List.foldl_cons, ih, List.any_cons]
    by_cases h : many d = 1
    · rw [if_pos h, Nat.testBit_or]; simp [h, Bool.or_assoc]
    · rw [if_neg h]; simp [h]
theorem needF_bit (l : List Nat) (m : Nat) : (needF l).testBit m = l.any fun d => decide (many d = 1) && d.testBit m := by
  unfold needF; rw [needF_bit']; simp
theorem one_iff {B : KB} (hG : GoodB B) (i j m : Nat) : (many (apartS B i j) = 1 ∧ (apartS B i j).testBit m = true) ↔ apartL B i j B.nv = [m] := by
  rw [apartS_many B i j hG.nv, apartS_bit hG, Bool.and_eq_true, decide_eq_true_eq, decide_eq_true_eq, ← apartL_mem (n := B.nv)]
  constructor
  · rintro ⟨h1, h2⟩
    obtain ⟨a, ha⟩ := List.length_eq_one_iff.1 h1
    rw [ha] at h2 ⊢
    rw [List.mem_singleton.1 h2]
  · intro h; rw [h]; simp
theorem need_bit {B : KB} (hG : GoodB B) (m : Nat) : (needF (pairsL B B.ns)).testBit m = needI B m B.ns := by
  rw [needF_bit, Bool.eq_iff_iff, List.any_eq_true, needI_iff]
  constructor
  · rintro ⟨d, hd, h⟩
    obtain ⟨i, j, h1, h2, rfl⟩ := pairsL_mem hd
    rw [Bool.and_eq_true, decide_eq_true_eq] at h
    exact ⟨i, j, h1, h2, (one_iff hG i j m).1 h⟩
  · rintro ⟨i, j, h1, h2, h3⟩
    refine ⟨_, pairsL_in h1 h2, ?_⟩
    rw [Bool.and_eq_true, decide_eq_true_eq]
    exact (one_iff hG i j m).2 h3
theorem needI_lt {B : KB} {m n : Nat} (h : needI B m n = true) : m < B.nv := by
  obtain ⟨i, j, _, _, e⟩ := needI_iff.1 h
  have : m ∈ apartL B i j B.nv := by rw [e]; simp
  exact (apartL_mem.1 this).1
theorem sel_ext {p q : Nat → Bool} : ∀ n, (∀ i, i < n → p i = q i) → sel p n = sel q n := by
  intro n
  induction n with
  | zero => intro _; rfl
  | succ n ih =>
    intro h
    have e := h n (by omega)
    cases hp : q n with
    | true => rw [sel_hit hp, sel_hit (e.trans hp), ih fun i hi => h i (by omega)]
    | false => rw [sel_miss hp, sel_miss (e.trans hp), ih fun i hi => h i (by omega)]
theorem sel_more {p : Nat → Bool} {n : Nat} : ∀ k, (∀ i, n ≤ i → p i = false) → sel p (n + k) = sel p n := by
  intro k
  induction k with
  | zero => intro _; rfl
  | succ k ih => intro h; rw [← Nat.add_assoc, sel_miss (h _ (by omega)), ih h]
theorem eNeed_sel {B : KB} (hG : GoodB B) : elems (needF (pairsL B B.ns)) = sel (fun m => needI B m B.ns) B.nv := by
  have h8 : (8 : Nat) = B.nv + (8 - B.nv) := by have := hG.nv; omega
  unfold elems
  rw [sel_ext (q := fun m => needI B m B.ns) 8 (fun i _ => need_bit hG i), h8]
  refine sel_more _ fun i hi => ?_
  cases h : needI B i B.ns with
  | false => rfl
  | true => have := needI_lt h; omega

theorem sameI_one (L : List Nat) (m : Nat) : sameI (ints L).length (fun i => (ints L).getD i 0) 1 (fun _ => (m : Int)) = decide (L = [m]) := by
  rw [Bool.eq_iff_iff, decide_eq_true_eq]
  unfold sameI
  rw [Bool.and_eq_true, decide_eq_true_eq, allB_true, ints_len]
  constructor
  · rintro ⟨h1, h2⟩
    obtain ⟨a, rfl⟩ := List.length_eq_one_iff.1 h1
    have := of_decide_eq_true (h2 0 (by simp))
    simp [ints] at this
    have e : a = m := by omega
    rw [e]
  · rintro rfl
    exact ⟨rfl, fun i hi => by
      obtain rfl : i = 0 := by simpa using hi
      simp [ints]⟩

set_option maxRecDepth 100000 in
set_option maxHeartbeats 6400000 in
theorem rNeed_any (N : Nat) (v : Value) (B : KB) (w : World) (h : BookAt N w v B) :
    Calls Try.prog 57 #[v] w (GivesIE w.heap.size w (eNeed B).1 (eNeed B).2) := by
  obtain ⟨i0, hi, hz0, hz1, hz2⟩ := info_parts Try.infoInt
  have h' := h
  obtain ⟨_, a1, z1, a2, z2, a3, z3, rfl, _⟩ := h'
  obtain ⟨ws, hws, HB, hsz, hblk⟩ := box1 w (.cells #[.slice a1 B.nv z1, .slice a2 B.ns z2, .slice a3 B.D.n z3] 26)
  have q0 := cell_blk hblk 0 rfl
  have q1 := cell_blk hblk 1 rfl
  have q2 := cell_blk hblk 2 rfl
  have HBK := Lib.hid (h.go HB.out)
  have HB0 : Hid (Below ws.heap.size ws ws) := Below.refl _ _
  have HNS : Hid (N ≤ ws.heap.size) := HBK.out.1
  have hlens := h.lens
  obtain ⟨hlv, hls, hln⟩ := hlens
  clear hblk h
  cases hv : okKB B with
  | false =>
    have HA : Hid (chk B = 20) := chk_no hv
    have HE : Hid (eNeed B = ([], 20)) := by unfold Hid eNeed; rw [hv]; rfl
    clear hv
    go_enter Try.func57, Try.ntmps57
    go_wp2_with (go_at_call 47; go_must (refine (rCheck_any N _ B _ (HBK.out.go HB0.out)).mono ?_; rintro e w1 ⟨rfl, hb1⟩; rw [HA.out]; (try clear c0); have HB1 := Lib.hid (bel HB0.out hb1); have c1 := (old_of HB1.out).1; clear hb1))
    go_ret2
    exact ⟨.slice none 0 0, by rw [HE.out]; rfl, by rw [HE.out]; exact own_nil _ _, fin HB.out HB1.out⟩
  | true =>
    have HG := Lib.hid (goodB hv)
    have HA : Hid (chk B = 0) := chk_yes hv
    have HE : Hid (eNeed B = (sel (fun m => needI B m B.ns) B.nv, 0)) := by unfold Hid eNeed; rw [hv, ← eNeed_sel HG.out]; rfl
    have hnv5 := HG.out.nv
    have hns8 := HG.out.ns
    clear hv
    go_enter Try.func57, Try.ntmps57
    go_wp2_with (go_at_call 47; go_must (refine (rCheck_any N _ B _ (HBK.out.go HB0.out)).mono ?_; rintro e w1 ⟨rfl, hb1⟩; rw [HA.out]; (try clear c0); have HB1 := Lib.hid (bel HB0.out hb1); have c1 := (old_of HB1.out).1; clear hb1))
    clear hws
    go_loopw [5, 6] (fun t i wr => ∃ m : Nat, m ≤ B.nv ∧ i = .int .i64 m ∧ Hid (OwnI ws.heap.size wr t (sel (fun m => needI B m B.ns) m)) ∧ Hid (Below ws.heap.size ws wr)) (fun _ i _ => B.nv - (intOf i).toNat)
    case atStart => exact ⟨0, Nat.zero_le _, rfl, own_nil _ _, HB1⟩
    case round =>
    clear c1
    obtain ⟨wm, hwm⟩ : ∃ wm, wm = wr := ⟨_, rfl⟩
    subst hwm
    obtain ⟨m, hm, rfl, HOm, HBm⟩ := hrel
    have cm := (old_of HBm.out).1
    obtain ⟨am, cam, hum⟩ := own_form HOm.out
    subst hum
    obtain ⟨lm, hlm⟩ : ∃ z, sel (fun m => needI B m B.ns) m = z := ⟨_, rfl⟩
    have HLM := Lib.hid hlm
    have hlml : lm.length ≤ m := by rw [← hlm]; exact sel_len _ _
    rw [hlm] at HOm ⊢
    by_cases hmn : m < B.nv
    · have hmi : (m : Int) < (B.nv : Int) := by omega
      have HMN := Lib.hid hmn
      have HI0 : Hid (needI B m 0 = false) := rfl
      clear hmn hm hlm
      go_wp2
      go_loopw [7, 8] (fun b i wr => ∃ (k : Nat) (z : Bool), k ≤ B.ns ∧ i = .int .i64 k ∧ b = .bool z ∧ Hid (z = needI B m k) ∧ Hid (Below wm.heap.size wm wr)) (fun _ i _ => B.ns - (intOf i).toNat)
      case atStart => exact ⟨0, false, Nat.zero_le _, rfl, rfl, HI0.out.symm, Below.refl _ _⟩
      case round =>
      obtain ⟨i, z, hi', rfl, rfl, HZ, HBi⟩ := hrel
      have hwi := (old_of HBi.out).1
      have HBsi : Hid (Below ws.heap.size ws wr) := Lib.hid (bel HBm.out HBi.out)
      have csi := (old_of HBsi.out).1
      by_cases hin : i < B.ns
      · have hii : (i : Int) < (B.ns : Int) := by omega
        have HIN := Lib.hid hin
        have HZ0 : Hid (z = needJ B m i 0) := by unfold Hid; rw [needJ_zero]; exact HZ.out
        clear hin hi' hwi cm
        go_wp2
        go_loopw [7, 9] (fun b t wr => ∃ (j : Nat) (z : Bool), j ≤ i ∧ t = .int .i64 j ∧ b = .bool z ∧ Hid (z = needJ B m i j) ∧ Hid (Below wm.heap.size wm wr)) (fun _ t _ => i - (intOf t).toNat)
        case atStart => exact ⟨0, z, Nat.zero_le _, rfl, rfl, HZ0.out, HBi⟩
        case round =>
        clear HZ0 HZ HBi HBsi
        obtain ⟨j, z, hj, rfl, rfl, HZ, HBj⟩ := hrel
        have HBsj : Hid (Below ws.heap.size ws wr) := Lib.hid (bel HBm.out HBj.out)
        have csj := (old_of HBsj.out).1
        have hszj := Nat.lt_of_lt_of_le hsz HBsj.out.size
        by_cases hji : j < i
        · have hjii : (j : Int) < (i : Int) := by omega
          have HJI := Lib.hid hji
          have hjn : j < B.ns := by have := HIN.out; omega
          have HS := Lib.hid (needJ_succ B m i j)
          clear hji hj
          cases z with
          | true =>
            have HZ1 : Hid (true = needJ B m i (j + 1)) := by unfold Hid; rw [HS.out, ← HZ.out]; rfl
            go_wp2
            go_roundw
            case rel => exact ⟨j + 1, true, HJI.out, by have := HIN.out; go_num, rfl, HZ1.out, HBj⟩
            case measure => simp [intOf]; have := HJI.out; omega
          | false =>
            have HZ1 : Hid (decide (apartL B i j B.nv = [m]) = needJ B m i (j + 1)) := by unfold Hid; rw [HS.out, ← HZ.out]; rfl
            have HSO := Lib.hid (sameI_one (apartL B i j B.nv) m)
            have HLN := apartL_len B i j B.nv
            have HBr0 : Hid (Below wr.heap.size wr wr) := Below.refl _ _
            go_wp2_with (first
              | (go_at_call 92; go_must (refine (apartOf_any N _ B i j _ (HBK.out.go HBsj.out) HG.out HIN.out hjn).mono ?_; rintro e w3 ⟨v3, rfl, ho3, hb3⟩; have HO3 := Lib.hid ho3; clear ho3; have HB3 := Lib.hid (bel HBr0.out hb3); clear hb3))
              | (go_at_call 44; go_must (refine (sameInts_any (w3.heap.size + 1) _ _ _ 1 _ (fun _ => (m : Int)) _ (by have hh := (OwnI.below HO3.out (below_alloc (Nat.le_refl _) (.cells #[.int .i64 m] 3))).ints (by rw [ints_len]; omega); rw [World.size_alloc] at hh; exact hh) (lit_ints (Nat.lt_succ_self _) (World.alloc_heap_new _ _))).mono ?_; rintro e w4 ⟨rfl, hb4⟩; rw [HSO.out]; replace hb4 := drawn_below hb4; have HB4 : Hid (Below wm.heap.size wm w4) := Lib.hid (((HBj.out.trans (HB3.out.mono HBj.out.size)).trans ((below_alloc (Nat.le_refl _) _).mono (Nat.le_trans HBj.out.size HB3.out.size))).trans (hb4.mono (by have := HBj.out.size; have := HB3.out.size; simp; omega))); clear hb4)))
            go_roundw
            case rel => exact ⟨j + 1, _, HJI.out, by have := HIN.out; go_num, rfl, HZ1.out, HB4⟩
            case measure => simp [intOf]; have := HJI.out; omega
        · have hjii : ¬ (j : Int) < (i : Int) := by omega
          have hje : j = i := by omega
          subst hje
          have HZ1 : Hid (z = needI B m (j + 1)) := by unfold Hid; rw [← needJ_full]; exact HZ.out
          go_wp2
          go_roundw
          case rel => exact ⟨j + 1, z, HIN.out, by have := HIN.out; go_num, rfl, HZ1.out, HBj⟩
          case measure => simp [intOf]; have := HIN.out; omega
      · have hii : ¬ (i : Int) < (B.ns : Int) := by omega
        have hie : i = B.ns := by omega
        subst hie
        have hown := OwnI.below HOm.out HBi.out
        have hws2 := HBsi.out.size
        cases z with
        | true =>
          have HP : Hid (sel (fun m => needI B m B.ns) (m + 1) = lm ++ [(m : Int)]) := by unfold Hid; rw [sel_hit (p := fun m => needI B m B.ns) (k := m) HZ.out.symm, HLM.out]
          go_wp2_with (at_builtin; refine wpList_append_own _ rfl _ _ 22 rfl ws.heap.size 3 i0 (.int .i64 0) 1 8 Try.underlying22 hi hz0 hz1 hz2 rfl (by decide) _ _ _ rfl (World.ownsRow.alloc hown _) ⟨wr.heap.size, 0, none⟩ 1 1 [.int .i64 m] rfl rfl (cell_one_new _ _ _) (by simp [Value.oneCell']) (by unfold maxLen; omega) (by omega) (by simp; omega) ?_; intro v' w5 hown5 hgrow _)
          go_roundw
          case rel => exact ⟨m + 1, HMN.out, by go_num, by rw [HP.out]; unfold Hid OwnI; rw [List.length_append, List.map_append]; exact hown5, (HBsi.out.alloc hws2 _).grown hgrow (by simp; omega) (fun j e => (hown.lt j e).1)⟩
          case measure => simp [intOf]; have := HMN.out; omega
        | false =>
          have HP : Hid (sel (fun m => needI B m B.ns) (m + 1) = lm) := by unfold Hid; rw [sel_miss (p := fun m => needI B m B.ns) (k := m) HZ.out.symm, HLM.out]
          have HOW := Lib.hid hown
          go_wp2
          go_roundw
          case rel => exact ⟨m + 1, HMN.out, by go_num, by rw [HP.out]; exact HOW, HBsi⟩
          case measure => simp [intOf]; have := HMN.out; omega
    · have hmi : ¬ (m : Int) < (B.nv : Int) := by omega
      have hme : m = B.nv := by omega
      subst hme
      go_wp2
      go_ret2
      exact ⟨_, by rw [HE.out]; rfl, by rw [HE.out, HLM.out]; exact own_mono HOm.out HB.out.size, fin HB.out HBm.out⟩

end Go.Proofs.Ytghimbggbgcgkaa
