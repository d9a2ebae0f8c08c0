/-
  The chapter's own answers: SortsOf, known, Sorts, Is.
-/
import Derived.Test.YtmmadlpkolcgkaaRefC
namespace Go.Proofs.Ytmmadlpkolcgkaa
open Go.RowKit

set_option maxHeartbeats 4000000 in
theorem sortsOf_any (N : Nat) (v u : Value) (B : Bk) (R : Fr) (w : World) (h : BookAt N w v B) (hf : FruitsAt N w u R) (hg : Good B R) :
    Calls Try.prog 91 #[v, u] w (GivesI w.heap.size w (sorts B R)) := by
  obtain ⟨i0, hi, hz0, hz1, hz2⟩ := info_parts Try.infoInt
  have h' := h
  obtain ⟨_, a1, c1, a2, c2, a3, c3, rfl, _⟩ := h'
  obtain ⟨ws, hws, HB, hsz, hblk⟩ := box1 w (.cells #[.slice a1 B.nv c1, .slice a2 B.nf c2, .slice a3 B.ns c3, .int .i64 B.wr] 25)
  have q0 := cell_blk hblk 0 rfl
  have q1 := cell_blk hblk 1 rfl
  have q2 := cell_blk hblk 2 rfl
  have q3 := cell_blk hblk 3 rfl
  obtain ⟨HBF, HB0⟩ := entry HB.out h hf
  clear hblk h hf
  have HG : Hid _ := Lib.hid hg
  have hn8 := hg.ns
  clear hg
  go_enter Try.func91, Try.ntmps91
  go_wp2
  clear hws
  go_loopw [5, 6] (fun t i wr => ∃ k : Nat, k ≤ B.ns ∧ i = .int .i64 k ∧ Hid (OwnI ws.heap.size wr t (sel (fun s => decide ((wrong B R s : Int) ≤ B.wr)) k)) ∧ Hid (Below ws.heap.size ws wr)) (fun _ i _ => B.ns - (intOf i).toNat)
  case atStart => exact ⟨0, Nat.zero_le _, rfl, World.ownsRow_nil _ _ _ _, Below.refl _ _⟩
  case round =>
    obtain ⟨k, hk, rfl, ho, HBr⟩ := hrel
    have cr := (old_of HBr.out).1
    have hszr := Nat.lt_of_lt_of_le hsz HBr.out.size
    have HBFr := HBF
    have HBF := Lib.hid (HBF.out.go HBr.out)
    clear HBFr
    have HB0 : Hid (Below wr.heap.size wr wr) := Below.refl _ _
    by_cases hkn : k < B.ns
    · have hsl := sel_len (fun s => decide ((wrong B R s : Int) ≤ B.wr)) k
      have S0d := old_of HB0.out.drew; have HB0d := S0d.2
      by_cases hp : (wrong B R k : Int) ≤ B.wr
      · have HP : Hid (sel (fun s => decide ((wrong B R s : Int) ≤ B.wr)) (k + 1) = sel (fun s => decide ((wrong B R s : Int) ≤ B.wr)) k ++ [(k : Int)]) := sel_hit (by simpa using hp)
        generalize sel (fun s => decide ((wrong B R s : Int) ≤ B.wr)) k = t at *
        go_wp2
        go_region_held3 (fun w' => (∀ b o, b < wr.heap.size → w'.cell? ⟨b, o, none⟩ = wr.cell? ⟨b, o, none⟩) ∧ Hid (Below wr.heap.size wr w')) (assumption) (first
          | (go_at_call 69; refine (wrongOf_any N _ _ B R k _ (HBF.out.go HB0d.out).1 (HBF.out.go HB0d.out).2 HG.out hkn).mono ?_; rintro e w1 ⟨rfl, hb1⟩; have S1 := old_of (bel HB0d.out hb1); have HB1 := S1.2; clear hb1))
        have HB1 := S1.2; have c1 := S1.1; clear S1 S0d
        have hown1 := own_below ho.out HB1.out
        have hw1 : ws.heap.size ≤ w1.heap.size := by have := HB1.out.size; have := HBr.out.size; omega
        go_wp2_with (at_builtin; refine wpList_append_own _ rfl _ _ 22 rfl ws.heap.size 3 i0 (.int .i64 0) 1 8 Try.underlying22 hi hz0 hz1 hz2 rfl (by decide) _ _ _ rfl (hown1.alloc _) ⟨w1.heap.size, 0, none⟩ 1 1 [.int .i64 k] rfl rfl (cell_one_new _ _ _) (by simp [Value.oneCell']) (by unfold maxLen; omega) (by omega) (by simp; omega) ?_; intro v' w2 hown2 hgrow _)
        go_roundw
        case rel => exact ⟨k + 1, by omega, by go_num, by rw [HP.out]; unfold Hid OwnI; rw [List.length_append, List.map_append]; exact hown2, ((fin HBr.out HB1.out).alloc hw1 _).grown hgrow (by simp; omega) (fun j e => (hown1.lt j e).1)⟩
        case measure => simp [intOf]; omega
      · have HP : Hid (sel (fun s => decide ((wrong B R s : Int) ≤ B.wr)) (k + 1) = sel (fun s => decide ((wrong B R s : Int) ≤ B.wr)) k) := sel_miss (by simpa using hp)
        have hd : decide ((wrong B R k : Int) ≤ B.wr) = false := by simpa using hp
        clear hp
        generalize sel (fun s => decide ((wrong B R s : Int) ≤ B.wr)) k = t at *
        go_wp2
        go_region_held3 (fun w' => (∀ b o, b < wr.heap.size → w'.cell? ⟨b, o, none⟩ = wr.cell? ⟨b, o, none⟩) ∧ Hid (Below wr.heap.size wr w')) (assumption) (first
          | (go_at_call 69; refine (wrongOf_any N _ _ B R k _ (HBF.out.go HB0d.out).1 (HBF.out.go HB0d.out).2 HG.out hkn).mono ?_; rintro e w1 ⟨rfl, hb1⟩; have S1 := old_of (bel HB0d.out hb1); have HB1 := S1.2; clear hb1))
        have HB1 := S1.2; have c1 := S1.1; clear S1 S0d
        have HO1 : Hid _ := Lib.hid (own_below ho.out HB1.out)
        go_wp2
        go_roundw
        case rel => exact ⟨k + 1, by omega, by go_num, by rw [HP.out]; exact HO1.out, fin HBr.out HB1.out⟩
        case measure => simp [intOf]; omega
    · have Hk : Hid (k = B.ns) := by show k = _; omega
      go_wp2
      go_ret
      exact ⟨_, rfl, by unfold sorts; rw [← Hk.out]; exact own_mono ho.out HB.out.size, fin HB.out HBr.out⟩

def eKnown (B : Bk) (R : Fr) (is : Bool) : List Int × Int := if eAsk B R is ≠ 0 then ([], eAsk B R is) else if (sorts B R).length = 0 then ([], 3) else (sorts B R, 0)

theorem ask_good {B : Bk} {R : Fr} {is : Bool} (h : eAsk B R is = 0) : chk B R = 0 ∧ is = true := by
  unfold eAsk at h
  by_cases hc : chk B R = 0
  · cases is
    · simp [hc] at h
    · exact ⟨hc, rfl⟩
  · rw [if_pos hc] at h; exact absurd h hc

set_option maxHeartbeats 2000000 in
theorem known_any (N : Nat) (v u : Value) (B : Bk) (R : Fr) (is : Bool) (w : World) (h : BookAt N w v B) (hf : FruitsAt N w u R) :
    Calls Try.prog 72 #[v, u, .bool is] w (GivesIE w.heap.size w (eKnown B R is).1 (eKnown B R is).2) := by
  have h' := h
  obtain ⟨_, a1, c1, a2, c2, a3, c3, rfl, _⟩ := h'
  obtain ⟨ws, hws, HB, hsz, hblk⟩ := box1 w (.cells #[.slice a1 B.nv c1, .slice a2 B.nf c2, .slice a3 B.ns c3, .int .i64 B.wr] 25)
  have q0 := cell_blk hblk 0 rfl
  have q1 := cell_blk hblk 1 rfl
  have q2 := cell_blk hblk 2 rfl
  have q3 := cell_blk hblk 3 rfl
  obtain ⟨HBF, HB0⟩ := entry HB.out h hf
  clear hblk h hf
  by_cases hc : eAsk B R is = 0
  case neg =>
    have hcb : (eAsk B R is != 0) = true := by simp [hc]
    have HC : Hid (¬ eAsk B R is = 0) := hc
    clear hc
    go_enter Try.func72, Try.ntmps72
    go_wp2_with (go_at_call 68; refine (ask_any N _ _ B R is _ (HBF.out.go HB0.out).1 (HBF.out.go HB0.out).2).mono ?_; rintro e w1 ⟨rfl, hb1⟩; (try clear c0); have HB1 := Lib.hid (bel HB0.out hb1); have c1 := (old_of HB1.out).1; clear hb1)
    go_ret2
    rw [eKnown, if_pos HC.out]
    exact ⟨_, rfl, own_nil _ _, fin HB.out HB1.out⟩
  have HG : Hid (Good B R) := chk_good (ask_good hc).1
  have HC : Hid (eAsk B R is = 0) := hc
  clear hc
  by_cases h0 : (sorts B R).length = 0
  · have h0b : (((sorts B R).length : Int) == 0) = true := by simpa using h0
    have H0 : Hid ((sorts B R).length = 0) := h0
    clear h0
    go_enter Try.func72, Try.ntmps72
    go_wp2_with (first
      | (go_at_call 68; refine (ask_any N _ _ B R is _ (HBF.out.go HB0.out).1 (HBF.out.go HB0.out).2).mono ?_; rintro e w1 ⟨rfl, hb1⟩; rw [HC.out]; (try clear c0); have HB1 := Lib.hid (bel HB0.out hb1); have c1 := (old_of HB1.out).1; clear hb1)
      | (go_at_call 91; refine (sortsOf_any N _ _ B R _ (HBF.out.go HB1.out).1 (HBF.out.go HB1.out).2 HG.out).mono ?_; rintro e w2 ⟨x2, rfl, ho2, hb2⟩; obtain ⟨_, _, rfl⟩ := ho2.form; (try clear c1); have HB2 := Lib.hid (bel HB1.out hb2); have c2 := (old_of HB2.out).1; clear hb2))
    go_ret2
    rw [eKnown, if_neg (by simp [HC.out]), if_pos H0.out]
    exact ⟨_, rfl, own_nil _ _, fin HB.out HB2.out⟩
  · have h0b : (((sorts B R).length : Int) == 0) = false := by simpa using h0
    have H0 : Hid (¬ (sorts B R).length = 0) := h0
    clear h0
    go_enter Try.func72, Try.ntmps72
    go_wp2_with (first
      | (go_at_call 68; refine (ask_any N _ _ B R is _ (HBF.out.go HB0.out).1 (HBF.out.go HB0.out).2).mono ?_; rintro e w1 ⟨rfl, hb1⟩; rw [HC.out]; (try clear c0); have HB1 := Lib.hid (bel HB0.out hb1); have c1 := (old_of HB1.out).1; clear hb1)
      | (go_at_call 91; refine (sortsOf_any N _ _ B R _ (HBF.out.go HB1.out).1 (HBF.out.go HB1.out).2 HG.out).mono ?_; rintro e w2 ⟨x2, rfl, ho2, hb2⟩; obtain ⟨_, _, rfl⟩ := ho2.form; have HO : Hid _ := Lib.hid ho2; clear ho2; (try clear c1); have HB2 := Lib.hid (bel HB1.out hb2); have c2 := (old_of HB2.out).1; clear hb2))
    go_ret2
    rw [eKnown, if_neg (by simp [HC.out]), if_neg H0.out]
    exact ⟨_, rfl, own_mono HO.out (fin HB.out HB1.out).size, fin HB.out HB2.out⟩

theorem known_sorts (B : Bk) (R : Fr) : eKnown B R true = eSorts B R := by
  unfold eKnown eSorts eAsk
  by_cases hc : chk B R = 0 <;> simp [hc]

set_option maxHeartbeats 1000000 in
theorem rSorts_any (N : Nat) (v u : Value) (B : Bk) (R : Fr) (w : World) (h : BookAt N w v B) (hf : FruitsAt N w u R) :
    Calls Try.prog 27 #[v, u] w (GivesIE w.heap.size w (eSorts B R).1 (eSorts B R).2) := by
  have h' := h
  obtain ⟨_, a1, c1, a2, c2, a3, c3, rfl, _⟩ := h'
  obtain ⟨ws, hws, HB, hsz, hblk⟩ := box1 w (.cells #[.slice a1 B.nv c1, .slice a2 B.nf c2, .slice a3 B.ns c3, .int .i64 B.wr] 25)
  have q0 := cell_blk hblk 0 rfl
  have q1 := cell_blk hblk 1 rfl
  have q2 := cell_blk hblk 2 rfl
  have q3 := cell_blk hblk 3 rfl
  obtain ⟨HBF, HB0⟩ := entry HB.out h hf
  clear hblk h hf
  rw [← known_sorts]
  go_enter Try.func27, Try.ntmps27
  go_wp2_with (go_at_call 72; refine (known_any N _ _ B R true _ (HBF.out.go HB0.out).1 (HBF.out.go HB0.out).2).mono ?_; rintro e w1 ⟨x1, rfl, ho1, hb1⟩; have HO : Hid _ := Lib.hid ho1; clear ho1; (try clear c0); have HB1 := Lib.hid (bel HB0.out hb1); have c1 := (old_of HB1.out).1; clear hb1)
  go_ret2
  exact ⟨_, rfl, own_mono HO.out HB.out.size, fin HB.out HB1.out⟩

set_option maxHeartbeats 800000 in
theorem known1_any (n : Nat) (w : World) : Calls Try.prog 74 #[.int .i64 1, .int .i64 n] w fun e w' => e = .returned (.int .i64 (if n = 1 then 1 else 3)) ∧ w' = w := by
  by_cases h : n = 1
  · subst h
    go_enter Try.func74, Try.ntmps74
    go_wp2
    go_ret
    exact ⟨rfl, rfl⟩
  · have hb : ((1 : Int) == (n : Int)) = false := by simp; omega
    have hb2 : ((n : Int) == 1) = false := by simp; omega
    have H : Hid _ := Lib.hid h
    clear h
    go_enter Try.func74, Try.ntmps74
    go_wp2
    go_ret
    exact ⟨by first | rfl | (rw [if_neg H.out]; rfl), rfl⟩

set_option maxHeartbeats 4000000 in
theorem rIs_any (N : Nat) (v u : Value) (B : Bk) (R : Fr) (s : Int) (w : World) (h : BookAt N w v B) (hf : FruitsAt N w u R) :
    Calls Try.prog 29 #[v, u, .int .i64 s] w fun e w' => e = .returned (.tuple #[.int .i64 (eIs B R s).1, .int .i64 (eIs B R s).2]) ∧ Below w.heap.size w w' := by
  have h' := h
  obtain ⟨_, a1, c1, a2, c2, a3, c3, rfl, _⟩ := h'
  obtain ⟨ws, hws, HB, hsz, hblk⟩ := box1 w (.cells #[.slice a1 B.nv c1, .slice a2 B.nf c2, .slice a3 B.ns c3, .int .i64 B.wr] 25)
  have q0 := cell_blk hblk 0 rfl
  have q1 := cell_blk hblk 1 rfl
  have q2 := cell_blk hblk 2 rfl
  have q3 := cell_blk hblk 3 rfl
  obtain ⟨HBF, HB0⟩ := entry HB.out h hf
  clear hblk h hf
  have S0d := old_of HB0.out.drew; have HB0d := S0d.2
  obtain ⟨is, his⟩ : ∃ is, (decide (0 ≤ s) && decide (s < (B.ns : Int))) = is := ⟨_, rfl⟩
  have HIN : Hid _ := Lib.hid his
  clear his
  obtain ⟨l, hl⟩ : ∃ l, (eKnown B R is).1 = l := ⟨_, rfl⟩
  obtain ⟨er, her⟩ : ∃ er, (eKnown B R is).2 = er := ⟨_, rfl⟩
  have HL : Hid _ := Lib.hid hl
  have HE : Hid _ := Lib.hid her
  have heI : Hid (eIs B R s = if er ≠ 0 then (0, er) else if (anyB l.length fun i => decide (s = l.getD i 0)) = false then (2, 0) else if l.length = 1 then (1, 0) else (3, 0)) := by
    unfold Hid
    rw [← hl, ← her]
    unfold eIs eKnown eAsk
    rw [HIN.out]
    by_cases hc : chk B R = 0
    · cases is
      · simp [hc]
      · by_cases h0 : (sorts B R).length = 0 <;> simp [hc, h0]
    · simp [hc]
  have hlen : l.length ≤ 8 ∨ er ≠ 0 := by
    rw [← hl, ← her]
    unfold eKnown
    by_cases hc : eAsk B R is = 0
    · left
      have := sorts_len (chk_good (ask_good hc).1).ns R
      by_cases h0 : (sorts B R).length = 0 <;> simp [hc, h0]
      omega
    · right; rw [if_pos hc]; exact hc
  clear hl her
  by_cases he : er = 0
  case neg =>
    have heb : (er != 0) = true := by simp [he]
    have H0 : Hid _ := Lib.hid he
    clear he hlen
    go_enter Try.func29, Try.ntmps29
    go_wp2
    clear hws
    go_region_held3 (fun w' => (∀ b o, b < ws.heap.size → w'.cell? ⟨b, o, none⟩ = ws.cell? ⟨b, o, none⟩) ∧ Hid (Below ws.heap.size ws w')) (assumption) (first
      | (go_at_call 54; refine (isSort_any N _ B s _ (HBF.out.go HB0d.out).1).mono ?_; rintro e w1 ⟨rfl, hb1⟩; rw [HIN.out]; have S1 := old_of (bel HB0d.out hb1); have HB1 := S1.2; clear hb1)
      | (go_at_call 72; refine (known_any N _ _ B R _ _ (HBF.out.go HB1.out).1 (HBF.out.go HB1.out).2).mono ?_; rintro e w2 ⟨x2, rfl, ho2, hb2⟩; rw [HE.out]; clear ho2; have S2 := old_of (bel HB1.out hb2); have HB2 := S2.2; clear hb2))
    have HB2 := S2.2; have c2 := S2.1; clear S2 S0d
    go_wp2
    go_ret2
    exact ⟨by rw [heI.out, if_pos H0.out]; rfl, fin HB.out HB2.out⟩
  have hl8 : l.length ≤ 140737488351232 := by omega
  have HL8 : Hid _ := Lib.hid hl8
  have heb : (er != 0) = false := by simp [he]
  have H0 : Hid _ := Lib.hid he
  have hsw : (anyB l.length fun i => decide (l.getD i 0 = s)) = anyB l.length fun i => decide (s = l.getD i 0) := by congr 1; funext i; rw [Bool.eq_iff_iff]; simp [eq_comm]
  have HSW : Hid _ := Lib.hid hsw
  clear he hlen hsw hl8
  cases hin : (anyB l.length fun i => decide (s = l.getD i 0))
  all_goals
    have HI : Hid _ := Lib.hid hin
    clear hin
    go_enter Try.func29, Try.ntmps29
    go_wp2
    clear hws
    go_region_held3 (fun w' => (∀ b o, b < ws.heap.size → w'.cell? ⟨b, o, none⟩ = ws.cell? ⟨b, o, none⟩) ∧ Hid (Below ws.heap.size ws w')) (assumption) (first
      | (go_at_call 54; refine (isSort_any N _ B s _ (HBF.out.go HB0d.out).1).mono ?_; rintro e w1 ⟨rfl, hb1⟩; rw [HIN.out]; have S1 := old_of (bel HB0d.out hb1); have HB1 := S1.2; clear hb1)
      | (go_at_call 72; refine (known_any N _ _ B R _ _ (HBF.out.go HB1.out).1 (HBF.out.go HB1.out).2).mono ?_; rintro e w2 ⟨x2, rfl, ho2, hb2⟩; rw [HE.out]; rw [HL.out] at ho2; obtain ⟨_, _, rfl⟩ := ho2.form; have HO : Hid _ := Lib.hid ho2; clear ho2; have S2 := old_of (bel HB1.out hb2); have HB2 := S2.2; clear hb2))
    have HB2 := S2.2; have c2 := S2.1; clear S2 S0d
    go_wp2_with (first
      | (go_at_call 48; refine (in_any _ _ _ _ _ _ (HO.out.ints HL8.out)).mono ?_; rintro e w' ⟨rfl, rfl⟩; rw [HSW.out, HI.out])
      | (go_at_call 74; refine (known1_any _ _).mono ?_; rintro e w' ⟨rfl, rfl⟩))
    all_goals
      go_ret2
      exact ⟨by rw [heI.out, H0.out, HI.out]; first | rfl | (by_cases h1 : l.length = 1 <;> simp [h1] <;> omega), fin HB.out HB2.out⟩

end Go.Proofs.Ytmmadlpkolcgkaa
