/-
  Mk4: the node of a set of several sorts, its walk.
-/
import Derived.Test.YtghimbggbgcgkaaMk3
namespace Go.Proofs.Ytghimbggbgcgkaa
open Go.RowKit Go.Maps

theorem own_row_of {N : Nat} {w : World} {v : Value} {nx : List Nat} {y : Nat} (h : OwnI N w v (ints nx)) (hy : nx.length = y) : w.ownsRow N 3 1 v y ((ints nx).map (Value.int .i64)) := by
  unfold OwnI at h
  rw [ints_len, hy] at h
  exact h

theorem St.put {B : KB} {bk b pb Mb N base n : Nat} {w : World} {v : Value} {l : List NR} {rows : List Value} {ss : List Nat} (h : St B bk b pb Mb N base n w v l rows ss) {g k : Nat} {x : Value} (hg : base ≤ g) (hv : v.ownBlock ≠ some g) (hr : ∀ u, u ∈ rows → ∀ j, u.ownBlock = some j → j ≠ g) :
    St B bk b pb Mb N base n (w.setCell ⟨g, k, none⟩ x) v l rows ss := by
  obtain ⟨o1, o2, o3, o4, o5, o6, o7, o8, o9, o10, o11⟩ := h.rest.ord
  have hgr : w.grownBy (w.setCell ⟨g, k, none⟩ x) (some g) := grown_setCell _ _ _ _
  exact ⟨(hgr.block Mb (heap_lt h.box) (by intro e; injection e with e; omega)).trans h.box, h.nodes.kept hgr (.inr hv),
    h.rest.kept hgr (by intro e; injection e with e; omega) (fun u hu => by
      cases e : u.ownBlock with
      | none => exact .inl rfl
      | some j => right; intro e2; injection e2 with e2; exact hr u hu j e e2)
      (h.rest.env.keep hgr (by intro e; injection e with e; omega) (fun j e => by injection e with e; omega)) (h.rest.found.kept hgr (by intro e; injection e with e; omega))⟩

set_option maxRecDepth 100000 in
set_option maxHeartbeats 8000000 in
theorem node_big (B : KB) (hG : GoodB B) (bk b pb Mb N base f : Nat) (hP : SaysP B bk b pb Mb N base f) (s n : Nat) (w : World) (v : Value) (l : List NR) (rows : List Value) (ss : List Nat) (hs : SetOk B s) (h1 : ¬ (mems s).length ≤ 1) (hf : (mems s).length ≤ f + 1) (h : St B bk b pb Mb N base n w v l rows ss)
    (h40 : l.length + cB (mems s).length ≤ 40) (hn : n + cB (mems s).length * K9 ≤ 1000000000000) :
    Calls Try.prog 145 #[.pointer (some ⟨Mb, 0, none⟩), .int .u64 s] w fun e w' => ∃ (r : NR) (row : Value) (n' : Nat) (v' : Value) (l' : List NR) (rows' : List Value) (ss' : List Nat), e = .returned (.agg #[.int .i64 r.ma, .int .i64 r.so, row]) ∧ AftN B bk b pb Mb N base s n w w' v l rows ss r row n' v' l' rows' ss' := by
  obtain ⟨i0, hi, hz0, hz1, hz2⟩ := info_parts Try.infoInt
  have HD := Lib.hid (done_any s hs.lt)
  have hdd : decide ((mems s).length ≤ 1) = false := decide_eq_false h1
  have hcB1 : 1 ≤ cB (mems s).length := by unfold cB; split <;> omega
  have hK9 : 15 * 16 ^ 7 ≤ K9 := by decide
  have HQ := Lib.hid (question_worst B hG bk b N 7 (least_worst B hG bk b N 7))
  have hml := mems_len s
  have HST := Lib.hid h
  have H1 := Lib.hid h1
  have HS := Lib.hid hs
  have HG := Lib.hid hG
  have HP := Lib.hid hP
  have HF := Lib.hid hf
  have H40 := Lib.hid h40
  have HNN := Lib.hid hn
  have hMb : Mb < w.heap.size := heap_lt h.box
  obtain ⟨ws, hws, HB, hsz, hblk⟩ := box1 w (.cells #[.int .i64 0, .int .i64 0, .slice none 0 0] 41)
  have hbs : ws.heap[Mb]? = some (.cells (makA B.nv bk b pb v) 144 (0, 0)) := (HB.out.block Mb hMb).trans h.box
  have m0 : ws.cell? ⟨Mb, 0, none⟩ = some (.int .i64 B.nv) := cell_blk hbs 0 rfl
  have m1 : ws.cell? ⟨Mb, 1, none⟩ = some (.func (.func 119) #[] #[]) := cell_blk hbs 1 rfl
  have m2 : ws.cell? ⟨Mb, 2, none⟩ = some (.func (.func 120) #[] #[.pointer (some ⟨bk, 0, none⟩)]) := cell_blk hbs 2 rfl
  have m3 : ws.cell? ⟨Mb, 3, none⟩ = some (.func (.func 82) #[] #[]) := cell_blk hbs 3 rfl
  have m4 : ws.cell? ⟨Mb, 4, none⟩ = some (.map (some b)) := cell_blk hbs 4 rfl
  have HK := Lib.hid hblk
  obtain ⟨o1, o2, o3, o4, o5, o6, o7, o8, o9, o10, o11⟩ := h.rest.ord
  have hbase := h.rest.le
  have hnl := h.nodes.lt
  have HSTS := Lib.hid (h.below HB.out)
  have hcB9 : n + 15 * 16 ^ 7 ≤ 1000000000000 := by
    have : K9 ≤ cB (mems s).length * K9 := Nat.le_mul_of_pos_left _ hcB1
    omega
  clear h h1 hblk hbs hP hn hf hG
  go_enter Try.func145, Try.ntmps145
  go_upto_region 4 with (first
    | (go_at_call 119; refine (HD.out _).mono ?_; rw [hdd]; rintro e wq ⟨rfl, hwq⟩; rw [hwq]; clear hwq wq)
    | (go_at_call 123; refine (HQ.out s n _ HS.out H1.out (by omega) HSTS.out.rest.env HSTS.out.rest.found hcB9).mono ?_; rintro e w2 ⟨mk, c2, rfl, hask, hf2, hg2⟩; have HASK := Lib.hid hask; have HF2 := Lib.hid hf2; have HG2 := Lib.hid hg2; clear hask hf2 hg2))
  obtain ⟨m, rfl, hm, hsp, hcs⟩ : ∃ m : Nat, mk = m ∧ m < B.nv ∧ splitL B (mems s) m = true ∧ costS B false s m = costK B false s := by
    have hck := HASK.out.found HS.out H1.out
    have hp := HS.out.pos false
    rw [costK_eq H1.out] at hp hck
    rcases HASK.out with ⟨h1, _, _⟩ | ⟨_, h2, j, h3, h4, h5, h6⟩
    · omega
    · exact ⟨j, h3, h4, h5, by rw [h6, hck, costK_eq H1.out]⟩
  have HM := Lib.hid hm
  have HSP := Lib.hid hsp
  have HCS := Lib.hid hcs
  have hV := HG.out.V m hm
  obtain ⟨q, hq⟩ : ∃ q, (B.V m).toNat = q := ⟨_, rfl⟩
  have HQQ := Lib.hid hq
  have hq3 : q ≤ 3 := by omega
  have hg2 := HG2.out
  have hs2 := hg2.size
  have HSU := Lib.hid (sumB_le HG.out HS.out hm H1.out hsp)
  rw [hq] at HSU
  have hrows : ∀ u, u ∈ rows → ∀ g, u.ownBlock = some g → base ≤ g ∧ g < w.heap.size := fun u hu g hg => by
    obtain ⟨i, hi, e⟩ := List.getElem_of_mem hu
    have hl : i < l.length := by rw [← HST.out.rest.rlen]; exact hi
    exact (HST.out.rest.lists i l[i] u (List.getElem?_eq_getElem hl) (by rw [List.getElem?_eq_getElem hi, e])).lt g hg
  have hne_b : ∀ u : Value, (∀ g, u.ownBlock = some g → base ≤ g ∧ g < w.heap.size) → u.ownBlock = none ∨ u.ownBlock ≠ some b := fun u hu => by
    cases e : u.ownBlock with
    | none => exact .inl rfl
    | some g => right; intro e2; injection e2 with e2; have := (hu g e).1; omega
  have st2 : St B bk b pb Mb N base (n + 15 * 16 ^ 7) w2 v l rows ss :=
    ⟨(hg2.block Mb (heap_lt HSTS.out.box) (by intro e; injection e with e; omega)).trans HSTS.out.box, HSTS.out.nodes.kept hg2 (hne_b v hnl),
      HSTS.out.rest.kept hg2 (by intro e; injection e with e; omega) (fun u hu => hne_b u (hrows u hu)) (HSTS.out.rest.env.go hg2) HF2.out⟩
  obtain ⟨w3, hw3, HB3, hsz3, hblk3⟩ := box1 w2 (.cells #[.int .i64 m, .int .i64 (-1), .slice none 0 0] 41)
  have st3 := st2.below HB3.out
  have m2c : w3.cell? ⟨Mb, 2, none⟩ = some (.func (.func 120) #[] #[.pointer (some ⟨bk, 0, none⟩)]) := cell_blk st3.box 2 rfl
  obtain ⟨a1, z1, a2, z2, a3, z3, hbk, hbook⟩ := st3.rest.env.book
  have HPA := Lib.hid (parts_any N bk B a1 a2 a3 z1 z2 z3 s m w3 hbk hbook HG.out HS.out hm)
  rw [hq] at HPA
  have HST3 := Lib.hid st3
  have HTB := Lib.hid hblk3
  obtain ⟨tb, htb⟩ : ∃ tb, w2.heap.size = tb := ⟨_, rfl⟩
  rw [htb] at HTB hsz3
  have HTBE := Lib.hid htb
  have HW3 := Lib.hid hw3
  have htbw : w.heap.size < tb := by omega
  clear hbk hbook st3 st2 hblk3 hm hsp hcs hV hq m0 m1 m2 m3 m4 hws hg2 HASK hw3
  go_upto_region 5 with fail
  (try rw [HW3.out])
  (try rw [htb])
  clear HW3 htb
  go_wp2_with (go_at_call 120; refine HPA.out.mono ?_; rintro e w4 ⟨vP, rfl, ⟨gP, rfl, hgP, hrow⟩, hb4⟩; have HB4 := Lib.hid hb4; have HROW := Lib.hid hrow; clear hb4 hrow)
  have hs4 : tb < w4.heap.size := Nat.lt_of_lt_of_le hsz3 HB4.out.size
  have st4 := HST3.out.below HB4.out
  have HNIL : Hid (OwnI w4.heap.size w4 (.slice none 0 0) (ints [])) := own_nil _ _
  have HFR4 : Hid (Frm Mb b pb v w w4) := by
    have a1 : Frm Mb b pb v w ws := Frm.of_below HB.out
    have a2 : Frm Mb b pb v ws w2 := Frm.of_grown HG2.out (fun k e => by injection e with e; exact .inr (.inl e.symm))
    have a3 : Frm Mb b pb v w2 w3 := Frm.of_below HB3.out
    have a4 : Frm Mb b pb v w3 w4 := Frm.of_below HB4.out
    exact ((a1.trans a2 (Newer.refl _ _)).trans a3 (Newer.refl _ _)).trans a4 (Newer.refl _ _)
  have HT4 : Hid (w4.heap[tb]? = some (.cells #[.int .i64 m, .int .i64 (-1), .slice none 0 0] 41 (0, 0))) := (HB4.out.block tb hsz3).trans HTB.out
  have HR4 : Hid (w4.heap[w.heap.size]? = some (.cells #[.int .i64 0, .int .i64 0, .slice none 0 0] 41 (0, 0))) := by
    have k1 := (HG2.out.block w.heap.size hsz (by intro e; injection e with e; omega)).trans HK.out
    have k2 := (HB3.out.block w.heap.size (heap_lt k1)).trans k1
    exact (HB4.out.block w.heap.size (heap_lt k2)).trans k2
  have HL0 : Hid (LoopN B bk b pb Mb N base s n m tb w w4 0 w4 v l rows ss (n + 15 * 16 ^ 7) v [] [] [] [] (.slice none 0 0)) := {
    st := by simpa using st4
    cnt := by simp only [List.length_nil, Nat.zero_mul, Nat.add_zero]; omega
    newer := Newer.refl _ _
    few := Nat.zero_le _
    fresh := fun r g hr => by cases hr
    frame := HFR4.out
    tbc := HT4.out
    own := HNIL.out
    alone := fun u g hu => by cases hu
    len := rfl
    here := fun j hj => absurd hj (Nat.not_lt_zero j) }
  have HVB : Hid (∀ g, v.ownBlock = some g → g < tb) := fun g hg => by have := (hnl g hg).2; omega
  have HRB : Hid (∀ u, u ∈ rows → ∀ g, u.ownBlock = some g → g < tb) := fun u hu g hg => by have := (hrows u hu g hg).2; omega
  have HRES : Hid (w4.heap[w.heap.size]? = w4.heap[w.heap.size]?) := rfl
  clear st4 hne_b m2c HPA HD HQ
  go_loopw [40] (fun i wr => ∃ (y ny : Nat) (vy : Value) (ly : List NR) (rowsy : List Value) (ssy nx : List Nat) (rowv : Value), y ≤ q ∧ i = .int .i64 y ∧ Hid (LoopN B bk b pb Mb N base s n m tb w w4 y wr v l rows ss ny vy ly rowsy ssy nx rowv) ∧ Hid (∀ k, k < w4.heap.size → k ≠ Mb → k ≠ b → k ≠ pb → k ≠ tb → v.ownBlock ≠ some k → wr.heap[k]? = w4.heap[k]?) ∧ Hid (w4.heap.size ≤ wr.heap.size)) (fun i _ => q - (intOf i).toNat)
  case atStart => exact ⟨0, _, _, _, _, _, _, _, Nat.zero_le _, rfl, HL0, fun _ _ _ _ _ _ _ => rfl, Nat.le_refl _⟩
  case round =>
  clear HL0 HNIL HT4
  obtain ⟨y, ny, vy, ly, rowsy, ssy, nx, rowv, hy, rfl, HL, HKP, HSZ⟩ := hrel
  by_cases hyq : y < q
  · have hyi : (y : Int) < (q : Int) := by omega
    have hgPw : gP < w4.heap.size := HROW.out.lt (by omega)
    have hgp : wr.cell? ⟨gP, y, none⟩ = some (.int .u64 (partF B s m y : Nat)) :=
      (World.cell?_of_block (a := ⟨gP, y, none⟩) (HKP.out gP hgPw (by omega) (by omega) (by omega) (by omega) (fun e => by have := (hnl gP e).2; omega))).trans (HROW.out y hyq).1
    have hpm : (mems (partF B s m y)).length ≤ f := by
      have := havL_lt (B := B) (g := mems s) (m := m) (by intro e; have := H1.out; rw [e] at this; simp at this) HSP.out (y : Int)
      have := HF.out
      rw [mems_part]; omega
    have hsum : sumB B s m y + cB (mems (partF B s m y)).length ≤ sumB B s m q := by
      have := sumB_mono B s m (show y + 1 ≤ q by omega)
      simpa only [sumB] using this
    have h40y : (l ++ ly).length + cB (mems (partF B s m y)).length ≤ 40 := by
      have := HL.out.few; have := HSU.out; have := H40.out
      rw [List.length_append]; omega
    have hnny : ny + cB (mems (partF B s m y)).length * K9 ≤ 1000000000000 := by
      have a1 := HL.out.cnt
      have a2 : ly.length + cB (mems (partF B s m y)).length + 1 ≤ cB (mems s).length := by have := HL.out.few; have := HSU.out; omega
      have a3 := Nat.mul_le_mul_right K9 a2
      have a4 := HNN.out
      rw [Nat.add_mul, Nat.add_mul, Nat.one_mul] at a3
      omega
    have HPL := Lib.hid (HP.out (partF B s m y) ny wr vy (l ++ ly) (rows ++ rowsy) (ss ++ ssy) (HS.out.part m y) hpm HL.out.st h40y hnny)
    have HYQ := Lib.hid hyq
    clear hyq hy hpm hsum h40y hnny
    obtain ⟨ar, cr, hrv⟩ := own_form HL.out.own
    rw [ints_len, HL.out.len] at hrv
    subst hrv
    have hbtb : base ≤ tb := by omega
    have hwr4 := HSZ.out
    go_wp2_with (first
      | (go_at_call 125; go_must (refine HPL.out.mono ?_; rintro e w5 ⟨i, n5, v5, l5, rows5, ss5, rfl, ha⟩; have HA := Lib.hid ha; obtain ⟨hown5, ht5⟩ := loop_mid HL.out ha hbtb hs4 hwr4 HVB.out; have tc0 := cell_blk ht5 0 rfl; have tc1 := cell_blk ht5 1 rfl; have tc2 : w5.cell? ⟨tb, 2, none⟩ = some (.slice ar y cr) := cell_blk ht5 2 rfl; have htb5 : tb < w5.heap.size := heap_lt ht5; have HT5 := Lib.hid ht5; have hs45 : w4.heap.size ≤ w5.heap.size := Nat.le_trans hwr4 ha.frame.size; clear ha ht5 hgp))
      | (at_builtin; go_must (refine wpList_append_own_at _ rfl _ _ 22 rfl w4.heap.size 3 i0 (.int .i64 0) 1 8 Try.underlying22 hi hz0 hz1 hz2 rfl (by decide) _ _ _ rfl ((own_row_of hown5 HL.out.len).alloc _) ⟨w5.heap.size, 0, none⟩ 1 1 [.int .i64 i] rfl rfl (cell_one_new _ _ _) (by simp [Value.oneCell']) (by unfold maxLen; omega) (by omega) (by simp; omega) ?_; intro v7 w7 hown7 hg7 _ hb7; obtain ⟨av7, cv7, hv7⟩ := own_formG hown7; subst hv7; have HO7 := Lib.hid hown7; have HG7 := Lib.hid hg7; have HB7 := Lib.hid hb7; have hk7 := (hg7.block tb (by simp; omega) (fun e => by have := (hown5.lt tb e.symm).1; omega)).trans ((Below.heap_alloc _ _ _ htb5).trans HT5.out); have tk2 := cell_blk hk7 2 rfl; have tf := frozen_blk hk7; clear hown7 hg7 hb7 tc0 tc1 tc2)))
    have hB56 : Below w5.heap.size w5 (w5.alloc (.cells #[.int .i64 i] 3)) := below_alloc (Nat.le_refl _) _
    have h7 : OwnI w4.heap.size w7 (.slice av7 (y + 1) cv7) (ints (nx ++ [i])) := by
      have e := HO7.out
      have hl : (ints (nx ++ [i])).length = y + 1 := by rw [ints_len, List.length_append, HL.out.len]; rfl
      unfold OwnI
      rw [hl]
      have e2 : (ints (nx ++ [i])).map (Value.int .i64) = (ints nx).map (Value.int .i64) ++ [.int .i64 i] := by simp [ints]
      rw [e2]; exact e
    have HL8 := Lib.hid (loop_step HL.out HA.out hbtb (Nat.le_of_lt htbw) hs4 hwr4 HRB.out HVB.out hB56 h7 HG7.out HB7.out)
    have HSZ8 : Hid (w4.heap.size ≤ (w7.setCell ⟨tb, 2, none⟩ (.slice av7 (y + 1) cv7)).heap.size) := by
      have a1 := HG7.out.size
      have a2 : w5.heap.size ≤ (w5.alloc (.cells #[.int .i64 i] 3)).heap.size := hB56.size
      have a3 : (w7.setCell ⟨tb, 2, none⟩ (.slice av7 (y + 1) cv7)).heap.size = w7.heap.size := by simp [World.setCell]
      unfold Hid; omega
    have HKP8 : Hid (∀ k, k < w4.heap.size → k ≠ Mb → k ≠ b → k ≠ pb → k ≠ tb → v.ownBlock ≠ some k → (w7.setCell ⟨tb, 2, none⟩ (.slice av7 (y + 1) cv7)).heap[k]? = w4.heap[k]?) := fun k k0 k1 k2 k3 k4 k5 => by
      have e1 : (w7.setCell ⟨tb, 2, none⟩ (.slice av7 (y + 1) cv7)).heap[k]? = w7.heap[k]? := Below.heap_setCell _ _ _ _ (by show k ≠ tb; exact k4)
      have e2 := HG7.out.block k (by have := hB56.size; omega) (fun e => by have := (hown5.lt k e.symm).1; omega)
      have e3 := hB56.block k (by omega)
      have e4 := HA.out.frame.block k (by omega) k1 k2 k3 (HL.out.newer.block k0 k5)
      exact e1.trans (e2.trans (e3.trans (e4.trans (HKP.out k k0 k1 k2 k3 k4 k5))))
    clear hB56 h7
    go_roundw
    case rel => exact ⟨y + 1, _, _, _, _, _, _, _, HYQ.out, by go_num, HL8, HKP8, HSZ8⟩
    case measure => simp [intOf]; have := HYQ.out; omega
  · have hyi : ¬ (y : Int) < (q : Int) := by omega
    have hye : y = q := by omega
    subst hye
    obtain ⟨ar, cr, hrv⟩ := own_form HL.out.own
    rw [ints_len, HL.out.len] at hrv
    subst hrv
    have ht := HL.out.tbc
    have tc0 := cell_blk ht 0 rfl
    have tc1 := cell_blk ht 1 rfl
    have tc2 : wr.cell? ⟨tb, 2, none⟩ = some (.slice ar y cr) := cell_blk ht 2 rfl
    have hres : wr.heap[w.heap.size]? = some (.cells #[.int .i64 0, .int .i64 0, .slice none 0 0] 41 (0, 0)) :=
      (HKP.out w.heap.size (heap_lt HR4.out) (by omega) (by omega) (by omega) (by omega) (fun e => by have := (hnl _ e).2; omega)).trans HR4.out
    have d0 := cell_blk hres 0 rfl
    have d1 := cell_blk hres 1 rfl
    have d2 := cell_blk hres 2 rfl
    have fd := frozen_blk hres
    have HRS := Lib.hid hres
    have htbr : tb < wr.heap.size := heap_lt ht
    have hne : tb ≠ w.heap.size := by omega
    clear hres ht
    go_wp2
    have hh := three_st (x := .int .i64 (m : Int)) (y := .int .i64 (-1)) (z := .slice ar y cr) HRS.out
    refine bodyPost_ret (node_result _ _ w.heap.size _ _ _ rfl (cell_blk hh 0 rfl) (cell_blk hh 1 rfl) (cell_blk hh 2 rfl)) rfl ?_
    first | refine ⟨⟨m, -1, nx⟩, .slice ar y cr, rfl, ny, vy, ly, rowsy, ssy, ?_⟩ | refine ⟨⟨m, -1, nx⟩, .slice ar y cr, ny, vy, ly, rowsy, ssy, rfl, ?_⟩
    have hL := HL.out
    have hs4w : w.heap.size < w4.heap.size := by omega
    have hvy : vy.ownBlock ≠ some w.heap.size := hL.newer.block hs4w (fun e => by have := (hnl _ e).2; omega)
    have hry : ∀ u, u ∈ rows ++ rowsy → ∀ g, u.ownBlock = some g → g ≠ w.heap.size := fun u hu g hg => by
      rcases List.mem_append.1 hu with h | h
      · have := (hrows u h g hg).2; omega
      · have := hL.fresh u g h hg; omega
    have st9 := ((hL.st.put (k := 0) (x := .int .i64 (m : Int)) hbase hvy hry).put (k := 1) (x := .int .i64 (-1)) hbase hvy hry).put (k := 2) (x := .slice ar y cr) hbase hvy hry
    have hrv9 : OwnI w.heap.size (((wr.setCell ⟨w.heap.size, 0, none⟩ (.int .i64 (m : Int))).setCell ⟨w.heap.size, 1, none⟩ (.int .i64 (-1))).setCell ⟨w.heap.size, 2, none⟩ (.slice ar y cr)) (.slice ar y cr) (ints nx) :=
      own_mono (own_setM (own_setM (own_setM hL.own hs4w _) hs4w _) hs4w _) (Nat.le_of_lt hs4w)
    exact {
      st := st9
      cnt := by have h1 := hL.cnt; show ny ≤ n + (ly.length + 1) * K9; rw [Nat.add_mul, Nat.one_mul]; omega
      newer := Newer.older (w := w) hL.newer (Nat.le_of_lt hs4w)
      few := by have := hL.few; have := HSU.out; omega
      fresh := fun r g hr hg => by have := hL.fresh r g hr hg; omega
      frame := by
        have F := hL.frame
        refine ⟨F.os, F.tape, F.output, by have := F.size; simpa [World.setCell] using this, fun k hk k1 k2 k3 k4 => ?_⟩
        exact (Below.heap_setCell _ _ _ _ (by show k ≠ w.heap.size; omega)).trans ((Below.heap_setCell _ _ _ _ (by show k ≠ w.heap.size; omega)).trans ((Below.heap_setCell _ _ _ _ (by show k ≠ w.heap.size; omega)).trans (F.block k hk k1 k2 k3 k4)))
      own := hrv9
      alone := hL.alone
      ok := .inr ⟨H1.out, m, HM.out, rfl, rfl, by rw [HQQ.out]; exact hL.len, HSP.out, HCS.out, fun j hj => by
        obtain ⟨i, a1, a2, a3⟩ := hL.here j (by rw [← HQQ.out]; exact hj)
        exact ⟨i, a2, a1, a3⟩⟩ }

end Go.Proofs.Ytghimbggbgcgkaa
