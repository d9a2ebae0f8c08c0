/-
  JRefL: Rank of the reference.
  JApp: append of one list of numbers to another one; the first numbers of a list, and those behind some.
  JRefN: Without of the reference.
  JRefM: Room of the reference.
  JRefP: Decide of the reference.
-/
import Derived.Test.YtffnlimgjnhmpaaJRefI
import Derived.Test.YtffnlimgjnhmpaaJRefF
import Derived.Test.YtffnlimgjnhmpaaJMem
import Derived.Test.YtffnlimgjnhmpaaJRefK
import Derived.Test.YtffnlimgjnhmpaaJKRo
import Derived.Test.YtffnlimgjnhmpaaJKV
namespace Go.Proofs.Ytffnlimgjnhmpaa
open Go.RowKit

set_option maxHeartbeats 3200000 in
set_option maxRecDepth 100000 in
theorem rRank_any (N : Nat) (v : Value) (S : JB) (er : Int) (w : World) (h : ShowAt N w v S) (her : errC (okS S) true (allIn S) = er) :
    Calls Try.prog 51 #[v] w fun e w' => ∃ u, e = .returned (.tuple #[u, .int .i64 er]) ∧ OwnI w.heap.size w' u (spL er (rnk S S.np)) ∧ Below w.heap.size w w' := by
  obtain ⟨a1, c1, rfl⟩ := h.form
  obtain ⟨ws, hws, HB, hsz, hblk⟩ := box1 w (.cells #[.int .i64 S.J, .int .i64 S.D, .int .i64 S.Z, .slice a1 S.np c1] 24)
  have q0 := cell_blk hblk 0 rfl
  have q1 := cell_blk hblk 1 rfl
  have q2 := cell_blk hblk 2 rfl
  have q3 := cell_blk hblk 3 rfl
  have HNZ : Hid (N ≤ w.heap.size) := h.1
  have HBK := Lib.hid (h.go HB.out)
  have HB0 : Hid (Below ws.heap.size ws ws) := Below.refl _ _
  have HNS : Hid (N ≤ ws.heap.size) := HBK.out.1
  have hlen := h.len
  clear hblk h
  have HER := Lib.hid her
  have HSQ : Hid (∀ W, Below ws.heap.size ws W → (W.cell? ⟨w.heap.size, 0, none⟩ = some (.int .i64 S.J) ∧ W.cell? ⟨w.heap.size, 1, none⟩ = some (.int .i64 S.D) ∧ W.cell? ⟨w.heap.size, 2, none⟩ = some (.int .i64 S.Z) ∧ W.cell? ⟨w.heap.size, 3, none⟩ = some (.slice a1 S.np c1))) := fun W hW => ⟨(hW.cell (p := ⟨w.heap.size, 0, none⟩) hsz).trans q0, (hW.cell (p := ⟨w.heap.size, 1, none⟩) hsz).trans q1, (hW.cell (p := ⟨w.heap.size, 2, none⟩) hsz).trans q2, (hW.cell (p := ⟨w.heap.size, 3, none⟩) hsz).trans q3⟩
  by_cases h0 : er = 0
  · subst h0
    obtain ⟨hok, _, _⟩ := errC_ok her
    have HRD := Lib.hid (okS_good hok).rd
    have hnp6 := (okS_good hok).np
    clear hok her
    go_enter Try.func51, Try.ntmps51
    go_wp2_with (go_at_call 78; refine (closed_any N _ S true _ HBK.out).mono ?_; rw [HER.out]; rintro e w1 ⟨rfl, hb1⟩; have HB1 : Hid (Below ws.heap.size ws w1) := hb1; clear hb1)
    clear hws q0 q1 q2 q3
    go_loopw [5, 6, 7] (fun u i j wr => ∃ k : Nat, k ≤ S.np ∧ i = .int .i64 (k + 1) ∧ Hid (OwnI ws.heap.size wr u (rnk S k)) ∧ Hid ((rnk S k).length ≤ k * 6) ∧ Hid (Below ws.heap.size ws wr)) (fun _ i _ _ => S.np + 1 - (intOf i).toNat)
    case atStart => exact ⟨0, Nat.zero_le _, by go_num, OwnI.nil _ _, Nat.zero_le _, HB1⟩
    case round =>
      obtain ⟨k, hk, rfl, HO, HLN, HBr⟩ := hrel
      obtain ⟨r0, r1, r2, r3⟩ := HSQ.out wr HBr.out
      by_cases hkn : k < S.np
      · have hki : (k : Int) + 1 ≤ (S.np : Int) := by omega
        go_wp2_with fail
        clear r0 r1 r2 r3
        obtain ⟨wo, hwo⟩ : ∃ wo, wo = wr := ⟨_, rfl⟩
        subst hwo
        go_loopw [5, 7] (fun u j wr => ∃ m : Nat, m ≤ S.np ∧ j = .int .i64 m ∧ Hid (OwnI ws.heap.size wr u (rnk S k ++ sel (fun i => decide (plc S i = k + 1)) m)) ∧ Hid (Below ws.heap.size ws wr)) (fun _ j _ => S.np - (intOf j).toNat)
        case atStart => exact ⟨0, Nat.zero_le _, rfl, by unfold Hid sel; rw [List.append_nil]; exact HO.out, HBr⟩
        case round =>
          obtain ⟨m, hm, rfl, HP, HBm⟩ := hrel
          obtain ⟨r0, r1, r2, r3⟩ := HSQ.out wr HBm.out
          by_cases hmn : m < S.np
          · have hmi : (m : Int) < (S.np : Int) := by omega
            obtain ⟨pk, hpk⟩ : ∃ pk, plc S m = pk := ⟨_, rfl⟩
            have HPK := Lib.hid hpk
            have HSL := Lib.hid (sel_len (fun i => decide (plc S i = k + 1)) m)
            clear hpk
            by_cases hpe : pk = k + 1
            · have HE : Hid (sel (fun i => decide (plc S i = k + 1)) (m + 1) = sel (fun i => decide (plc S i = k + 1)) m ++ [(m : Int)]) := sel_hit (p := fun i => decide (plc S i = k + 1)) (decide_eq_true (by rw [HPK.out]; exact hpe))
              have hpi : (pk : Int) = (k : Int) + 1 := by omega
              go_wp2_with (first
                | (go_at_call 18; refine (placeOf_any N _ S m _ (HBK.out.go HBm.out) HRD.out hmn).mono ?_; rw [HPK.out]; rintro e w2 ⟨rfl, hb2⟩; have HB2 : Hid (Below ws.heap.size ws w2) := bel HBm.out hb2; have HP2 := Lib.hid (HP.out.go hb2); clear hb2 r0 r1 r2 r3)
                | (at_builtin; go_must (refine wpList_appI w2 rfl _ _ rfl rfl ws.heap.size _ _ m HP2.out HB2.out.size (by have := HSL.out; have := HLN.out; rw [List.length_append]; omega) rfl rfl ?_); intro v6 w6 ho6 hb6))
              go_roundw
              case rel => exact ⟨m + 1, by omega, by go_num, by unfold Hid; rw [HE.out, ← List.append_assoc]; exact ho6, HB2.out.trans hb6⟩
              case measure => simp [intOf]; omega
            · have HE : Hid (sel (fun i => decide (plc S i = k + 1)) (m + 1) = sel (fun i => decide (plc S i = k + 1)) m) := sel_miss (p := fun i => decide (plc S i = k + 1)) (decide_eq_false (by rw [HPK.out]; exact hpe))
              have hpi : ¬ (pk : Int) = (k : Int) + 1 := by omega
              go_wp2_with (go_at_call 18; refine (placeOf_any N _ S m _ (HBK.out.go HBm.out) HRD.out hmn).mono ?_; rw [HPK.out]; rintro e w2 ⟨rfl, hb2⟩; have HB2 : Hid (Below ws.heap.size ws w2) := bel HBm.out hb2; have HP2 := Lib.hid (HP.out.go hb2); clear hb2 r0 r1 r2 r3)
              go_roundw
              case rel => exact ⟨m + 1, by omega, by go_num, by unfold Hid; rw [HE.out]; exact HP2.out, HB2.out⟩
              case measure => simp [intOf]; omega
          · have hmi : ¬ (m : Int) < (S.np : Int) := by omega
            have hme : m = S.np := by omega
            have HR : Hid (rnk S (k + 1) = rnk S k ++ sel (fun i => decide (plc S i = k + 1)) m) := by unfold Hid; rw [hme]; rfl
            have HLR : Hid ((rnk S (k + 1)).length ≤ (k + 1) * 6) := by
              unfold Hid
              rw [HR.out, List.length_append]
              have h1 := sel_len (fun i => decide (plc S i = k + 1)) m
              have h2 := HLN.out
              omega
            clear hme
            go_wp2_with fail
            go_roundw
            case rel => exact ⟨k + 1, by omega, by go_num, by unfold Hid; rw [HR.out]; exact HP.out, HLR.out, HBm⟩
            case measure => simp [intOf]; omega
      · have hki : ¬ (k : Int) + 1 ≤ (S.np : Int) := by omega
        have hke : k = S.np := by omega
        have HKE := Lib.hid hke
        clear hke
        go_wp2_with fail
        go_ret2
        have h1 := HO.out
        rw [HKE.out] at h1
        exact ⟨_, rfl, own_mono h1 HB.out.size, fin HB.out HBr.out⟩
  · have hne : (er != 0) = true := by simpa using h0
    have HS1 : Hid (spL er (rnk S S.np) = []) := spL_no h0 _
    clear h0 her
    go_enter Try.func51, Try.ntmps51
    go_wp2_with (go_at_call 78; refine (closed_any N _ S true _ HBK.out).mono ?_; rw [HER.out]; rintro e w1 ⟨rfl, hb1⟩; have HB1 : Hid (Below ws.heap.size ws w1) := hb1; clear hb1)
    go_ret2
    exact ⟨_, rfl, by rw [HS1.out]; exact OwnI.nil _ _, fin HB.out HB1.out⟩

end Go.Proofs.Ytffnlimgjnhmpaa

namespace Go.Proofs.Ytffnlimgjnhmpaa
open Go.RowKit Go.WideShapes Go.ChangeShapes

theorem append_none0 (w : World) {P : Program} {t ty e : TypeId} {i : TypeInfo} (ht : P.underlying t = some (.slice e)) (hi : P.info? e = some i) {v : Value} {base n : Nat} {xs : List Value} (A : Option Addr) (c : Nat) (hown : w.ownsRow base e 1 v n xs) :
    (Builtin.append_ #[t, t] ty #[v, .slice A 0 c]).run P w = .ok v w := by
  rcases hown.2 with ⟨rfl, rfl⟩ | ⟨g, cap, cur, rfl, _, _, hnc, _⟩
  · cases A <;> simp [Builtin.append_, run_underlying ht, sizeOf, typeInfo, hi, Builtin.lenOf, Builtin.firstCells, storeCells, loadCells, loadCellsFrom]
  · cases A <;> simp [Builtin.append_, run_underlying ht, sizeOf, typeInfo, hi, Builtin.lenOf, Builtin.firstCells, hnc, storeCells, loadCells, loadCellsFrom]

/-- append(l, m...) of numbers: l is the call's own -/
theorem wp_appLI (w : World) {o : Oper} {a : Act} {K : Act → World → Prop} {Q : Exit → Act → World → Prop} (s x : Operand)
    (ho : o.op = .call { callee := .builtin .append, args := #[s, x], argTypes := #[25, 25] })
    (base : Nat) (v : Value) (l : List Int) (hs : a.eval s = v) (hown : OwnI base w v l) (N : Nat) (A : Option Addr) (m c : Nat) (l2 : List Int) (hm : m = l2.length) (hx : a.eval x = .slice A m c)
    (hi : LI N w (.slice A m c) l2) (h40 : l.length + m ≤ 1000000) (hbase : base ≤ w.heap.size)
    (h : ∀ v' w', OwnI base w' v' (l ++ l2) → Below base w w' → K (a.put o.dst v') w') : o.wp Try.prog a w K Q := by
  obtain ⟨i0, hi0, hz0, hz1, hz2⟩ := info_parts Try.infoInt
  subst hm
  rcases Nat.eq_zero_or_pos l2.length with h0 | h0
  · have hl2 := List.length_eq_zero_iff.1 h0
    subst hl2
    have hrun := append_none0 w (P := Try.prog) (ty := o.type) Try.underlying25 hi0 A c hown
    have hk := h v w (by rw [List.append_nil]; exact hown) (Below.refl _ _)
    unfold Oper.wp execOp
    simp only [ho, resolve, invoke, builtin, Sem.run_bind, Sem.run_pure, Result.andThen_ok, List.map_toArray, List.map_cons, List.map_nil, hs, hx, List.length_nil, hrun]
    exact hk
  · obtain ⟨b, off, e, hb, hr⟩ := hi.cell h0
    cases e
    refine wp_append_own w s x 25 ho base 3 i0 (.int .i64 0) 1 8 Try.underlying25 hi0 hz0 hz1 hz2 rfl (by decide) v l.length _ hs hown ⟨b, off, none⟩ l2.length c (l2.map (Value.int .i64)) hx (by simp) (fun j u hj => ?_) (by simp [Value.oneCell']) (by unfold maxLen; omega) (by omega) hbase fun v' w' h1 h2 _ => h v' w' ?_ ((Below.refl _ _).grown h2 hbase fun j e => (hown.lt j e).1)
    · have hjm : j < l2.length := by
        have := (List.getElem?_eq_some_iff.1 hj).1
        simpa using this
      have hu : u = .int .i64 (l2.getD j 0) := by
        rw [List.getElem?_map, List.getElem?_eq_getElem hjm] at hj
        simp at hj
        rw [List.getD, List.getElem?_eq_getElem hjm]
        exact hj.symm
      have e : (⟨b, off, none⟩ : Addr).add j = ⟨b, off + j, none⟩ := by unfold Addr.add; split <;> simp_all
      rw [hu, e]
      exact hr j hjm
    · unfold OwnI
      rw [List.length_append, List.map_append]
      exact h1
theorem own_empty {W : World} {base g : Nat} (hg : base ≤ g) (h : W.heap[g]? = some (.cells #[] 3)) : OwnI base W (.slice (some ⟨g, 0, none⟩) 0 0) [] :=
  ⟨rfl, .inr ⟨g, 0, #[], rfl, hg, h, Nat.le_refl _, by unfold maxLen; omega, rfl, rfl⟩⟩

/-- the first ones of a list -/
theorem LI.take {N : Nat} {w : World} {a : Option Addr} {n c : Nat} {l : List Int} (hn : n = l.length) (h : LI N w (.slice a n c) l) {k : Nat} (hk : k ≤ l.length) : LI N w (.slice a k c) (l.take k) := by
  subst hn
  obtain ⟨_, _, e, h1, h3⟩ := h
  cases e
  have hl : (l.take k).length = k := by rw [List.length_take]; omega
  refine ⟨a, c, by rw [hl], by omega, fun h0 => ?_⟩
  rw [hl] at h0 ⊢
  obtain ⟨b, off, e, hb, hr⟩ := h3 (by omega)
  refine ⟨b, off, e, hb, fun i hi => ?_⟩
  obtain ⟨r, h4, rfl⟩ := hr i (by omega)
  refine ⟨_, h4, ?_⟩
  show Value.int .i64 (l.getD i 0) = .int .i64 ((l.take k).getD i 0)
  rw [List.getD_eq_getElem?_getD, List.getD_eq_getElem?_getD, List.getElem?_take, if_pos hi]
/-- .. and those behind some -/
theorem LI.behind {N : Nat} {w : World} {b off n c : Nat} {l : List Int} (hn : n = l.length) (h : LI N w (.slice (some ⟨b, off, none⟩) n c) l) {k : Nat} (hk : k ≤ l.length) (d : Nat) (ad : Addr) (had : k < l.length → ad = ⟨b, off + k, none⟩) : LI N w (.slice (some ad) (n - k) d) (l.drop k) := by
  subst hn
  obtain ⟨_, _, e, h1, h3⟩ := h
  cases e
  have hl : (l.drop k).length = l.length - k := by rw [List.length_drop]
  refine ⟨_, _, by rw [hl], by omega, fun h0 => ?_⟩
  rw [hl] at h0 ⊢
  obtain ⟨b', off', e, hb, hr⟩ := h3 (by omega)
  cases e
  refine ⟨b, off + k, by rw [had (by omega)], hb, fun i hi => ?_⟩
  obtain ⟨r, h4, rfl⟩ := hr (k + i) (by omega)
  refine ⟨_, by rw [Nat.add_assoc]; exact h4, ?_⟩
  show Value.int .i64 (l.getD (k + i) 0) = .int .i64 ((l.drop k).getD i 0)
  rw [List.getD_eq_getElem?_getD, List.getD_eq_getElem?_getD, List.getElem?_drop]
theorem take_drop_erase (l : List Int) (k : Nat) : ([] ++ l.take k) ++ l.drop (k + 1) = l.eraseIdx k := by
  rw [List.nil_append, List.eraseIdx_eq_take_drop_succ]

end Go.Proofs.Ytffnlimgjnhmpaa

namespace Go.Proofs.Ytffnlimgjnhmpaa
open Go.RowKit


theorem OwnP.keepT {lo B : Nat} {W W' : World} {TP t : TypeId} {cs : Array Value} {v : Value} {np : Nat} {sz : Nat → Int} {rv : Nat → Value} {pts : Nat → List Int} (h : OwnP lo W TP v np sz rv pts) (hB : W.heap[B]? = some (.cells cs t)) (h1 : 3 ≠ t) (h2 : TP ≠ t) (ho : ∀ b, b ≠ B → W'.heap[b]? = W.heap[b]?) : OwnP lo W' TP v np sz rv pts := by
  refine ⟨fun i hi => ?_, h.apart, ?_⟩
  · rcases h.row i hi with h0 | ⟨h0, g, cap, cur, e, k1, k2, k3, k4⟩
    · exact .inl h0
    · exact .inr ⟨h0, g, cap, cur, e, k1, k2, (ho g (types_ne k3 hB h1)).trans k3, k4⟩
  · rcases h.body with h0 | ⟨h0, g, cap, cur, e, k1, k2, k3, k4⟩
    · exact .inl h0
    · exact .inr ⟨h0, g, cap, cur, e, k1, k2, (ho g (types_ne k3 hB h2)).trans k3, k4⟩
theorem RI.low {lo : Nat} {W : World} {v : Value} {l : List Int} (h : RI lo W v l) {b : Nat} (hb : blockOf v = some b) (h0 : 0 < l.length) : lo ≤ b := by
  rcases h with ⟨e, _⟩ | ⟨_, g, cap, cur, rfl, h1, h2, h3, h4⟩
  · rw [e] at h0; cases h0
  · cases hb; exact h1
set_option maxHeartbeats 6400000 in
set_option maxRecDepth 100000 in
theorem rWithout_any (N : Nat) (v : Value) (S : JB) (k : Nat) (w : World) (h : ShowAt N w v S) (hG : GoodS S) (hk : (k : Int) < S.J) :
    Calls Try.prog 79 #[v, .int .i64 k] w fun e w' => ∃ v', e = .returned v' ∧ OwnS w.heap.size w' v' (withoutJ S k) ∧ Below w.heap.size w w' := by
  obtain ⟨a1, c1, rfl⟩ := h.form
  obtain ⟨wv, hwv, HBv, hszv, hblk⟩ := box1 w (.cells #[.int .i64 S.J, .int .i64 S.D, .int .i64 S.Z, .slice a1 S.np c1] 24)
  obtain ⟨ws, hws, HBs, hszs, hblks⟩ := box1 wv (.cells #[.int .i64 0, .int .i64 0, .int .i64 0, .slice none 0 0] 24)
  have HB : Hid (Below w.heap.size w ws) := HBv.out.trans (HBs.out.mono HBv.out.size)
  have hz0 := (HBs.out.block _ hszv).trans hblk
  have hsz := Nat.lt_of_lt_of_le hszv HBs.out.size
  have q0 := cell_blk hz0 0 rfl
  have q1 := cell_blk hz0 1 rfl
  have q2 := cell_blk hz0 2 rfl
  have q3 := cell_blk hz0 3 rfl
  have HBK := Lib.hid (h.go HB.out)
  have HQ3 := Lib.hid q3
  have HZ1 := Lib.hid hblks
  have HVW : Hid (w.heap.size ≤ wv.heap.size) := HBv.out.size
  have HG := Lib.hid hG
  have hJ1 := hG.J1
  have hJ5 := hG.J5
  have hD0 := hG.D0
  have hDJ := hG.DJ
  have hNS : N ≤ ws.heap.size := HBK.out.1
  have HNP : Hid (S.np ≤ 6) := hG.np
  have HL40 : Hid (∀ i, i < S.np → (S.pts i).length ≤ 40) := fun i hi => by have := hG.len i hi; omega
  have HLJ : Hid (∀ i, i < S.np → ((S.pts i).length : Int) = S.J) := fun i hi => by have := hG.len i hi; omega
  obtain ⟨A, C, hcap, _, hrows, hcells⟩ := HBK.out.plates.open
  have HRW := Lib.hid hrows
  have HCL := Lib.hid hcells
  clear hblk h hz0 hblks hG hrows hcells
  go_enter Try.func79, Try.ntmps79
  go_upto_region 1 with fail
  clear hwv
  go_upto_region 2 with (go_at_call 34; refine (copy_any N _ S _ HBK.out (by have := HNP.out; omega) HL40.out).mono ?_; rintro e w1 ⟨v1, rfl, ⟨a2, c2, rv, rfl, hop⟩, hb1⟩; have HOP := Lib.hid hop; have HB1 : Hid (Below ws.heap.size ws w1) := hb1; clear hop hb1; obtain ⟨wo, hwo, HBo, hszo, hblko⟩ := box1 w1 (.cells #[.int .i64 0, .int .i64 0, .int .i64 0, .slice none 0 0] 24); have HZo := Lib.hid hblko; have z0 := cell_blk hblko 0 rfl; have z1 := cell_blk hblko 1 rfl; have z2 := cell_blk hblko 2 rfl; have z3 := cell_blk hblko 3 rfl; have f0 := free_blk hblko 0; have f1 := free_blk hblko 1; have f2 := free_blk hblko 2; have f3 := free_blk hblko 3; clear hblko)
  clear hws
  obtain ⟨w2, hw2, hz2, ho2, hb2⟩ := put4o HZo.out (.int .i64 S.J) (.int .i64 S.D) (.int .i64 S.Z) (.slice a2 S.np c2)
  rw [hw2]
  have HOP2 : Hid (OwnP ws.heap.size w2 40 (.slice a2 S.np c2) S.np S.sz rv S.pts) := HOP.out.keep fun g _ h => (hb2.block g h).trans (HBo.out.block g h)
  have HB2 : Hid (Below ws.heap.size ws w2) := HB1.out.trans ((HBo.out.trans hb2).mono HB1.out.size)
  have HZ2 := Lib.hid hz2
  have hBs : Hid (ws.heap.size ≤ w1.heap.size) := HB1.out.size
  clear hw2 ho2 hb2 z0 z1 z2 z3 f0 f1 f2 f3 hwo HZo HBo HOP hszo
  obtain ⟨B, hB⟩ : ∃ B, w1.heap.size = B := ⟨_, rfl⟩
  rw [hB] at hz2 HZ2 hBs ⊢
  have HBS := hBs
  have j0 := cell_blk hz2 0 rfl
  have g0 := free_blk hz2 0
  clear hB hz2 hBs
  have hwJ : IntKind.i64.wrap (S.J - 1) = S.J - 1 := IntWalk.i64_in _ (by omega)
  go_upto_region 3 with fail
  obtain ⟨w3, hw3, hz3, ho3, hb3⟩ := set_step (n := ws.heap.size) (W0 := w2) HZ2.out (fun _ _ => rfl) 0 (.int .i64 (S.J - 1)) HBS.out
  rw [hw3]
  have HZ3 : Hid (w3.heap[B]? = some (.cells #[.int .i64 (S.J - 1), .int .i64 S.D, .int .i64 S.Z, .slice a2 S.np c2] 24)) := hz3
  have HO3 := Lib.hid ho3
  have HB3 : Hid (Below ws.heap.size ws w3) := HB2.out.trans hb3
  clear hw3 hz3 ho3 hb3 j0 g0 hwJ q0 q1 q2 q3
  go_wp2_with fail
  go_loopw [] (fun wr => ∃ d : Nat, (d : Int) ≤ S.D ∧ Hid (drp S.J S.D ≤ d) ∧ Hid (wr.heap[B]? = some (.cells #[.int .i64 (S.J - 1), .int .i64 d, .int .i64 S.Z, .slice a2 S.np c2] 24)) ∧ Hid (∀ b, b ≠ B → wr.heap[b]? = w2.heap[b]?) ∧ Hid (Below ws.heap.size ws wr)) (fun wr => (intOf ((wr.cell? ⟨B, 1, none⟩).getD (.int .i64 0))).toNat)
  case atStart => exact ⟨S.D.toNat, by omega, by unfold Hid drp; omega, by unfold Hid; rw [Int.toNat_of_nonneg hD0]; exact HZ3.out, HO3.out, HB3.out⟩
  case round =>
    obtain ⟨d, hd, HDR, HZr, HOr, HBr⟩ := hrel
    have j0 := cell_blk HZr.out 0 rfl
    have j1 := cell_blk HZr.out 1 rfl
    have g1 := free_blk HZr.out 1
    have hd2 : d ≤ 2 := by omega
    by_cases hd0 : 0 < d
    · have hdi : (0 : Int) < (d : Int) := by omega
      have hw2d : IntKind.i64.wrap (2 * (d : Int)) = 2 * (d : Int) := IntWalk.i64_in _ (by omega)
      by_cases hdj : S.J - 1 ≤ 2 * (d : Int)
      · obtain ⟨d', hd'⟩ : ∃ d', d = d' + 1 := ⟨d - 1, by omega⟩
        have hwd : IntKind.i64.wrap ((d : Int) - 1) = (d' : Int) := by rw [IntWalk.i64_in _ (by omega)]; omega
        go_upto_region 4 with fail
        go_wp2_with fail
        obtain ⟨w4, hw4, hz4, ho4, hb4⟩ := set_step (n := ws.heap.size) (W0 := w2) HZr.out HOr.out 1 (.int .i64 (d' : Int)) HBS.out
        rw [hw4]
        have HZ4 : Hid (w4.heap[B]? = some (.cells #[.int .i64 (S.J - 1), .int .i64 (d' : Int), .int .i64 S.Z, .slice a2 S.np c2] 24)) := hz4
        have HO4 := Lib.hid ho4
        have HB4 : Hid (Below ws.heap.size ws w4) := HBr.out.trans hb4
        have j1' := cell_blk HZ4.out 1 rfl
        clear hw4 hz4 ho4 hb4 j0 g1
        go_roundw
        case rel => exact ⟨d', by omega, by have := HDR.out; unfold Hid drp at *; omega, HZ4, HO4, HB4⟩
        case measure => rw [j1, j1']; simp [intOf]; omega
      · have HDD : Hid (drp S.J S.D = d) := by have := HDR.out; unfold Hid drp at *; omega
        go_upto_region 5 with fail
        have HOP4 : Hid (OwnP ws.heap.size wr 40 (.slice a2 S.np c2) S.np S.sz rv S.pts) := HOP2.out.keepT HZ2.out (by decide) (by decide) HOr.out
        obtain ⟨wq, hwq⟩ : ∃ wq, wq = wr := ⟨_, rfl⟩
        subst hwq
        clear j0 j1 g1
        go_wp2_with fail
        go_loopw [6] (fun i wr => ∃ m : Nat, m ≤ S.np ∧ i = .int .i64 m ∧ Hid (wr.heap[B]? = some (.cells #[.int .i64 (S.J - 1), .int .i64 d, .int .i64 S.Z, .slice a2 S.np c2] 24)) ∧ Hid (∃ rv, OwnP ws.heap.size wr 40 (.slice a2 S.np c2) S.np S.sz rv (fun i => if i < m then (S.pts i).eraseIdx k else S.pts i)) ∧ Hid (Below ws.heap.size ws wr)) (fun i _ => S.np - (intOf i).toNat)
        case atStart => exact ⟨0, Nat.zero_le _, rfl, HZr, ⟨rv, HOP4.out.congr fun i _ => (if_neg (Nat.not_lt_zero i)).symm⟩, HBr⟩
        case round =>
          obtain ⟨m, hm, rfl, HZm, ⟨rw, hop⟩, HBm⟩ := hrel
          have HOP := Lib.hid hop
          clear hop
          have j3 := cell_blk HZm.out 3 rfl
          have hnp6 := HNP.out
          by_cases hmn : m < S.np
          · have hmi : (m : Int) < (S.np : Int) := by omega
            obtain ⟨b, off, rfl, hbN, hrr⟩ := HCL.out (by omega)
            obtain ⟨g, rfl, _, _, hgl, hgs, hgc, hgf, cgp, hcgp⟩ := HOP.out.pk.at (by omega)
            have HCP := Lib.hid hcgp
            have gq := (hgc m hmn).2
            have gf := hgf (m * 2 + 1)
            have hbw : b < ws.heap.size := by omega
            have dk := (HBm.out.cell (p := ⟨b, off + m * 2 + 1, none⟩) hbw).trans (hrr m hmn).2
            have r3 := (HBm.out.cell (p := ⟨w.heap.size, 3, none⟩) hsz).trans HQ3.out
            obtain ⟨hlC, hli⟩ := HRW.out m hmn
            have hlJ := HLJ.out m hmn
            obtain ⟨gr, or, hA, hgr, _⟩ := hli.cell (by omega)
            rw [hA] at dk hli
            obtain ⟨l, hl⟩ : ∃ l, S.pts m = l := ⟨_, rfl⟩
            have HPL := Lib.hid hl
            rw [hl] at dk hlC hlJ hli
            obtain ⟨n, hn⟩ : ∃ n, l.length = n := ⟨_, rfl⟩
            have HLN := Lib.hid hn
            rw [hn] at dk hlC hlJ hli
            obtain ⟨cu, hcu⟩ : ∃ cu, C m = cu := ⟨_, rfl⟩
            rw [hcu] at dk hlC hli
            have HLI : Hid (LI N wr (.slice (some ⟨gr, or, none⟩) n cu) l) := hli.go hNS HBm.out
            have hkn : k < n := by omega
            have hkc : (k : Int) ≤ (cu : Int) := by omega
            have hn5 : n ≤ 5 := by omega
            obtain ⟨p1, hp1⟩ : ∃ p1, k + 1 = p1 := ⟨_, rfl⟩
            have HP1 := Lib.hid hp1
            have hp1n : (p1 : Int) ≤ (n : Int) := by omega
            have hwp : IntKind.i64.wrap ((k : Int) + 1) = (p1 : Int) := by rw [IntWalk.i64_in _ (by omega)]; omega
            obtain ⟨ad, had⟩ : ∃ ad : Addr, (if cu = p1 then some (⟨gr, or, none⟩ : Addr) else some ⟨gr, or + p1, none⟩) = some ad := by
              by_cases h : cu = p1
              · exact ⟨_, if_pos h⟩
              · exact ⟨_, if_neg h⟩
            have HAD := Lib.hid had
            have HAJ : Hid (p1 < l.length → ad = ⟨gr, or + p1, none⟩) := fun h => by
              have h1 := HAD.out
              have h2 := HLN.out
              rw [if_neg (by omega)] at h1
              exact (Option.some.inj h1).symm
            have HNQ : Hid (N ≤ wr.heap.size) := by have := HBm.out.size; unfold Hid; omega
            clear hp1 had hcu hn hl hA hrr hgc hgf hcgp hli hlJ
            go_upto_region 9 with fail
            clear dk r3
            refine wp_region_held_drew (S := fun W => W.cell? ⟨B, 3, none⟩ = some (.slice (some ⟨g, 0, none⟩) S.np c2)) (by kernel_rfl) j3 (fun hHeld => ?_)
            (refine wpAnyH_take (i := 0) (v := ?_) rfl (by kernel_rfl) (by kernel_rfl) (by kernel_rfl) (fun _ _ _ h => h) (Or.inl ⟨by rfl, ?_⟩) (by assumption) ?_; rotate_left; (focus (intro w hSw; (try dsimp only at hSw); go_simp; (try with_reducible rfl))); (try simp only [List.getElem_toArray, List.getElem_cons_zero, List.getElem_cons_succ, Act.put, List.setIfInBounds_toArray, List.set_cons_zero, List.set_cons_succ])); (refine wpAnyH_take (i := 1) (v := ?_) rfl (by kernel_rfl) (by kernel_rfl) (by kernel_rfl) (fun _ _ _ h => h) (Or.inl ⟨by rfl, ?_⟩) (by assumption) ?_; rotate_left; (focus (intro w hSw; (try dsimp only at hSw); go_simp; (try with_reducible rfl))); (try simp only [List.getElem_toArray, List.getElem_cons_zero, List.getElem_cons_succ, Act.put, List.setIfInBounds_toArray, List.set_cons_zero, List.set_cons_succ])); (refine wpAnyH_take (i := 2) (v := ?_) rfl (by kernel_rfl) (by kernel_rfl) (by kernel_rfl) (fun _ _ _ h => h) (Or.inl ⟨by rfl, ?_⟩) (by assumption) ?_; rotate_left; (focus (intro w hSw; (try dsimp only at hSw); go_simp; (try with_reducible rfl))); (try simp only [List.getElem_toArray, List.getElem_cons_zero, List.getElem_cons_succ, Act.put, List.setIfInBounds_toArray, List.set_cons_zero, List.set_cons_succ]))
            (refine wpAnyH_take (i := 4) (v := ?_) rfl (by kernel_rfl) (by kernel_rfl) (by kernel_rfl) (fun _ _ _ h => h) (Or.inl ⟨by rfl, ?_⟩) (by assumption) ?_; rotate_left; (focus (intro w hSw; (try dsimp only at hSw); go_simp; (try with_reducible rfl))); (try simp only [List.getElem_toArray, List.getElem_cons_zero, List.getElem_cons_succ, Act.put, List.setIfInBounds_toArray, List.set_cons_zero, List.set_cons_succ])); (refine wpAnyH_take (i := 5) (v := ?_) rfl (by kernel_rfl) (by kernel_rfl) (by kernel_rfl) (fun _ _ _ h => h) (Or.inl ⟨by rfl, ?_⟩) (by assumption) ?_; rotate_left; (focus (intro w hSw; (try dsimp only at hSw); go_simp; (try with_reducible rfl))); (try simp only [List.getElem_toArray, List.getElem_cons_zero, List.getElem_cons_succ, Act.put, List.setIfInBounds_toArray, List.set_cons_zero, List.set_cons_succ])); (refine wpAnyH_take (i := 6) (v := ?_) rfl (by kernel_rfl) (by kernel_rfl) (by kernel_rfl) (fun _ _ _ h => h) (Or.inl ⟨by rfl, ?_⟩) (by assumption) ?_; rotate_left; (focus (intro w hSw; (try dsimp only at hSw); go_simp; (try with_reducible rfl))); (try simp only [List.getElem_toArray, List.getElem_cons_zero, List.getElem_cons_succ, Act.put, List.setIfInBounds_toArray, List.set_cons_zero, List.set_cons_succ]))
            (refine wpAnyH_take (i := 8) (v := ?_) rfl (by kernel_rfl) (by kernel_rfl) (by kernel_rfl) (fun _ _ _ h => h) (Or.inl ⟨by rfl, ?_⟩) (by assumption) ?_; rotate_left; (focus (intro w hSw; (try dsimp only at hSw); go_simp; (try with_reducible rfl))); (try simp only [List.getElem_toArray, List.getElem_cons_zero, List.getElem_cons_succ, Act.put, List.setIfInBounds_toArray, List.set_cons_zero, List.set_cons_succ])); (refine wpAnyH_take (i := 9) (v := ?_) rfl (by kernel_rfl) (by kernel_rfl) (by kernel_rfl) (fun _ _ _ h => h) (Or.inl ⟨by rfl, ?_⟩) (by assumption) ?_; rotate_left; (focus (intro w hSw; (try dsimp only at hSw); go_simp; (try with_reducible rfl))); (try simp only [List.getElem_toArray, List.getElem_cons_zero, List.getElem_cons_succ, Act.put, List.setIfInBounds_toArray, List.set_cons_zero, List.set_cons_succ])); (refine wpAnyH_take (i := 10) (v := ?_) rfl (by kernel_rfl) (by kernel_rfl) (by kernel_rfl) (fun _ _ _ h => h) (Or.inl ⟨by rfl, ?_⟩) (by assumption) ?_; rotate_left; (focus (intro w hSw; (try dsimp only at hSw); go_simp; (try with_reducible rfl))); (try simp only [List.getElem_toArray, List.getElem_cons_zero, List.getElem_cons_succ, Act.put, List.setIfInBounds_toArray, List.set_cons_zero, List.set_cons_succ]))
            (refine wpAnyH_take (i := 11) (v := ?_) rfl (by kernel_rfl) (by kernel_rfl) (by kernel_rfl) (fun _ _ _ h => h) (Or.inl ⟨by rfl, ?_⟩) (by assumption) ?_; rotate_left; (focus (intro w hSw; (try dsimp only at hSw); go_simp; rw [HAD.out])))
            (try simp only [List.getElem_toArray, List.getElem_cons_zero, List.getElem_cons_succ, Act.put, List.setIfInBounds_toArray, List.set_cons_zero, List.set_cons_succ])
            refine wpAnyH_ready (rs := [3]) (by kernel_rfl) (by simp) ?_; refine AllReadyH.cons rfl (fun K hK => ?_) AllReadyH.nil; go_simp
            obtain ⟨wc, hwc, HBz', hblkc⟩ : ∃ wa, (wr.alloc (.cells #[] 3)).drew = wa ∧ Below wr.heap.size wr wa ∧ wa.heap[wr.heap.size]? = some (.cells #[] 3) := ⟨_, rfl, (below_alloc (Nat.le_refl _) _).drew, World.alloc_heap_new _ _⟩
            rw [hwc]
            have HBz : Hid (Below wr.heap.size wr wc) := HBz'
            have hBw := heap_lt HZm.out
            have Sc : wc.cell? ⟨B, 3, none⟩ = some (.slice (some ⟨g, 0, none⟩) S.np c2) := (HBz.out.cell (p := ⟨B, 3, none⟩) hBw).trans j3
            clear HBz' hwc
            refine hK.out _ _ Sc (fun hHeld => ?_); clear hK K; (try simp only [List.getElem_toArray, List.getElem_cons_zero, List.getElem_cons_succ, Act.put, List.setIfInBounds_toArray, List.set_cons_zero, List.set_cons_succ])
            refine wpAnyH_ready (rs := [7]) (by kernel_rfl) (by simp) ?_; refine AllReadyH.cons rfl (fun K hK => ?_) AllReadyH.nil; rw [if_pos (by rfl)]
            have HXc := Lib.hid (HLI.out.go HNQ.out HBz.out)
            refine wp_appLI _ (.tmp 45) (.tmp 48) rfl wr.heap.size _ [] rfl (own_empty (Nat.le_refl _) hblkc) N _ _ _ (l.take k) (by rw [List.length_take, HLN.out]; omega) rfl (LI.take HLN.out.symm HXc.out (by have := HLN.out; omega)) (by simp; omega) HBz.out.size ?_
            intro v8 w8 ho8 hb8
            have HB8 : Hid (Below wr.heap.size wr w8) := HBz.out.trans hb8
            have S8 : w8.cell? ⟨B, 3, none⟩ = some (.slice (some ⟨g, 0, none⟩) S.np c2) := (HB8.out.cell (p := ⟨B, 3, none⟩) hBw).trans j3
            clear hb8 hblkc Sc
            refine hK.out _ _ S8 (fun hHeld => ?_); clear hK K; (try simp only [List.getElem_toArray, List.getElem_cons_zero, List.getElem_cons_succ, Act.put, List.setIfInBounds_toArray, List.set_cons_zero, List.set_cons_succ])
            refine wpAnyH_ready (rs := [12]) (by kernel_rfl) (by simp) ?_; refine AllReadyH.cons rfl (fun K hK => ?_) AllReadyH.nil; rw [if_pos (by rfl)]
            have HX8 := Lib.hid (HLI.out.go HNQ.out HB8.out)
            refine wp_appLI _ (.tmp 49) (.tmp 53) rfl wr.heap.size _ _ rfl ho8 N _ _ _ (l.drop p1) (by rw [List.length_drop, HLN.out]) rfl (LI.behind HLN.out.symm HX8.out (by have := HLN.out; omega) _ ad HAJ.out) (by simp; omega) HB8.out.size ?_
            intro v9 w9 ho9 hb9
            rw [← HP1.out, take_drop_erase] at ho9
            have HB9 : Hid (Below wr.heap.size wr w9) := HB8.out.trans hb9
            have S9 : w9.cell? ⟨B, 3, none⟩ = some (.slice (some ⟨g, 0, none⟩) S.np c2) := (HB9.out.cell (p := ⟨B, 3, none⟩) hBw).trans j3
            obtain ⟨a9, c9, rfl⟩ := ho9.form
            have HRI : Hid (RI wr.heap.size w9 (.slice a9 (l.eraseIdx k).length c9) (l.eraseIdx k)) := RI.of_own ho9
            clear hb9 ho8 ho9 S8
            refine hK.out _ _ S9 (fun hHeld => ?_); clear hK K; (try simp only [List.getElem_toArray, List.getElem_cons_zero, List.getElem_cons_succ, Act.put, List.setIfInBounds_toArray, List.set_cons_zero, List.set_cons_succ])
            (refine wpAnyH_take (i := 13) (v := ?_) rfl (by kernel_rfl) (by kernel_rfl) (by kernel_rfl) (fun _ _ _ h => h) (Or.inl ⟨by rfl, ?_⟩) (by assumption) ?_; rotate_left; (focus (intro w hSw; (try dsimp only at hSw); go_simp; (try with_reducible rfl))); (try simp only [List.getElem_toArray, List.getElem_cons_zero, List.getElem_cons_succ, Act.put, List.setIfInBounds_toArray, List.set_cons_zero, List.set_cons_succ])); (refine wpAnyH_take (i := 14) (v := ?_) rfl (by kernel_rfl) (by kernel_rfl) (by kernel_rfl) (fun _ _ _ h => h) (Or.inl ⟨by rfl, ?_⟩) (by assumption) ?_; rotate_left; (focus (intro w hSw; (try dsimp only at hSw); go_simp; (try with_reducible rfl))); (try simp only [List.getElem_toArray, List.getElem_cons_zero, List.getElem_cons_succ, Act.put, List.setIfInBounds_toArray, List.set_cons_zero, List.set_cons_succ]))
            have gf2 : w9.frozen? ⟨g, m * 2 + 1, none⟩ = false := (HB9.out.frozen (p := ⟨g, m * 2 + 1, none⟩) hgs).trans gf
            have gk2 : w9.cell? ⟨g, m * 2 + 1, none⟩ = some (rw m) := (HB9.out.cell (p := ⟨g, m * 2 + 1, none⟩) hgs).trans gq
            refine wpAnyH_ready (rs := [15]) (by kernel_rfl) (by simp) ?_; refine AllReadyH.cons rfl (fun K hK => ?_) AllReadyH.nil; go_simp
            obtain ⟨wg, hwg⟩ : ∃ wg, w9.setCell ⟨g, m * 2 + 1, none⟩ (.slice a9 (l.eraseIdx k).length c9) = wg := ⟨_, rfl⟩
            rw [hwg]
            have hog : ∀ b, b ≠ g → wg.heap[b]? = w9.heap[b]? := fun b hb => by rw [← hwg]; exact Below.heap_setCell _ _ _ _ (by exact hb)
            have HBg : Hid (Below ws.heap.size ws wg) := by
              rw [← hwg]
              exact (HBm.out.trans (HB9.out.mono HBm.out.size)).setCell (p := ⟨g, m * 2 + 1, none⟩) hgl _
            have hBg : B ≠ g := types_ne HZm.out HCP.out (by decide)
            have Sg : wg.cell? ⟨B, 3, none⟩ = some (.slice (some ⟨g, 0, none⟩) S.np c2) := (World.cell?_of_block (w := w9) (hog B hBg)).trans S9
            have HZg : Hid (wg.heap[B]? = some (.cells #[.int .i64 (S.J - 1), .int .i64 d, .int .i64 S.Z, .slice (some ⟨g, 0, none⟩) S.np c2] 24)) := (hog B hBg).trans ((HB9.out.block _ hBw).trans HZm.out)
            have HOPg : Hid (∃ rv, OwnP ws.heap.size wg 40 (.slice (some ⟨g, 0, none⟩) S.np c2) S.np S.sz rv (fun i => if i < m + 1 then (S.pts i).eraseIdx k else S.pts i)) := by
              refine ⟨_, OwnP.congr (rv := fun j => if j = m then .slice a9 (l.eraseIdx k).length c9 else rw j) ?_ (pts := fun j => if j = m then l.eraseIdx k else (if j < m then (S.pts j).eraseIdx k else S.pts j)) fun i hi => ?_⟩
              · rw [← hwg]
                refine (HOP.out.keep fun g _ h => HB9.out.block g h).newRow (by decide) hmn (HRI.out.lower HBm.out.size) fun b hb h0 j hj hjm hbj => ?_
                rcases Nat.eq_zero_or_pos ((if j < m then (S.pts j).eraseIdx k else S.pts j).length) with h1 | h1
                · exact h1
                · have h2 := (HOP.out.row j hj).blk hbj h1
                  have h3 := HRI.out.low hb h0
                  omega
              · show (if i = m then _ else _) = _
                by_cases h1 : i = m
                · subst h1
                  rw [if_pos rfl, if_pos (Nat.lt_succ_self _), HPL.out]
                · rw [if_neg h1]
                  by_cases h2 : i < m
                  · rw [if_pos h2, if_pos (by omega)]
                  · rw [if_neg h2, if_neg (by omega)]
            clear hwg hog gf2 gk2 S9
            refine hK.out _ _ Sg (fun hHeld => ?_); clear hK K; (try simp only [List.getElem_toArray, List.getElem_cons_zero, List.getElem_cons_succ, Act.put, List.setIfInBounds_toArray, List.set_cons_zero, List.set_cons_succ])
            refine wpAnyH_done (by kernel_rfl) ?_ _; clear hHeld
            clear Sg
            go_wp2
            go_roundw
            case rel => exact ⟨m + 1, by omega, by go_num, HZg, HOPg, HBg⟩
            case measure => simp [intOf]; omega
          · have hmi : ¬ (m : Int) < (S.np : Int) := by omega
            have hme : m = S.np := by omega
            have HME := Lib.hid hme
            have HZr := Lib.hid ((HBm.out.block _ (show wv.heap.size < ws.heap.size from hszs)).trans HZ1.out)
            have v0 := cell_blk HZr.out 0 rfl
            have v1 := cell_blk HZr.out 1 rfl
            have v2 := cell_blk HZr.out 2 rfl
            have v3 := cell_blk HZr.out 3 rfl
            have e0 := free_blk HZr.out 0
            have e1 := free_blk HZr.out 1
            have e2 := free_blk HZr.out 2
            have e3 := free_blk HZr.out 3
            have u0 := cell_blk HZm.out 0 rfl
            have u1 := cell_blk HZm.out 1 rfl
            have u2 := cell_blk HZm.out 2 rfl
            clear hme
            go_wp2_with fail
            obtain ⟨w6, hw6, hz6, ho6, hb6⟩ := put4o HZr.out (.int .i64 (S.J - 1)) (.int .i64 d) (.int .i64 S.Z) (.slice a2 S.np c2)
            rw [hw6]
            have s0 := cell_blk hz6 0 rfl
            have s1 := cell_blk hz6 1 rfl
            have s2 := cell_blk hz6 2 rfl
            have s3 := cell_blk hz6 3 rfl
            have hBf : Below w.heap.size w w6 := HB.out.trans ((HBm.out.mono HB.out.size).trans (hb6.mono HVW.out))
            have hop6 := (HOP.out.keep (W' := w6) fun g' h1 _ => ho6 g' (by omega)).congr (pts' := (withoutJ S k).pts) fun i hi => by rw [if_pos (by have := HME.out; omega)]; rfl
            have hlo : w.heap.size ≤ ws.heap.size := HB.out.size
            exact bodyPost_ret (v := .agg #[.int .i64 (S.J - 1), .int .i64 d, .int .i64 S.Z, .slice a2 S.np c2]) (by simp [results, Try.results79, go_sem, s0, s1, s2, s3]) rfl ⟨_, rfl, ⟨_, _, rw, by show _ = Value.agg #[.int .i64 (S.J - 1), .int .i64 (drp S.J S.D), .int .i64 S.Z, .slice a2 S.np c2]; rw [HDD.out], hop6.lower hlo⟩, hBf⟩
    · have hdi : ¬ (0 : Int) < (d : Int) := by omega
      have HDD : Hid (drp S.J S.D = d) := by have := HDR.out; unfold Hid drp at *; omega
      go_upto_region 5 with fail
      have HOP4 : Hid (OwnP ws.heap.size wr 40 (.slice a2 S.np c2) S.np S.sz rv S.pts) := HOP2.out.keepT HZ2.out (by decide) (by decide) HOr.out
      obtain ⟨wq, hwq⟩ : ∃ wq, wq = wr := ⟨_, rfl⟩
      subst hwq
      clear j0 j1 g1
      go_wp2_with fail
      go_loopw [6] (fun i wr => ∃ m : Nat, m ≤ S.np ∧ i = .int .i64 m ∧ Hid (wr.heap[B]? = some (.cells #[.int .i64 (S.J - 1), .int .i64 d, .int .i64 S.Z, .slice a2 S.np c2] 24)) ∧ Hid (∃ rv, OwnP ws.heap.size wr 40 (.slice a2 S.np c2) S.np S.sz rv (fun i => if i < m then (S.pts i).eraseIdx k else S.pts i)) ∧ Hid (Below ws.heap.size ws wr)) (fun i _ => S.np - (intOf i).toNat)
      case atStart => exact ⟨0, Nat.zero_le _, rfl, HZr, ⟨rv, HOP4.out.congr fun i _ => (if_neg (Nat.not_lt_zero i)).symm⟩, HBr⟩
      case round =>
        obtain ⟨m, hm, rfl, HZm, ⟨rw, hop⟩, HBm⟩ := hrel
        have HOP := Lib.hid hop
        clear hop
        have j3 := cell_blk HZm.out 3 rfl
        have hnp6 := HNP.out
        by_cases hmn : m < S.np
        · have hmi : (m : Int) < (S.np : Int) := by omega
          obtain ⟨b, off, rfl, hbN, hrr⟩ := HCL.out (by omega)
          obtain ⟨g, rfl, _, _, hgl, hgs, hgc, hgf, cgp, hcgp⟩ := HOP.out.pk.at (by omega)
          have HCP := Lib.hid hcgp
          have gq := (hgc m hmn).2
          have gf := hgf (m * 2 + 1)
          have hbw : b < ws.heap.size := by omega
          have dk := (HBm.out.cell (p := ⟨b, off + m * 2 + 1, none⟩) hbw).trans (hrr m hmn).2
          have r3 := (HBm.out.cell (p := ⟨w.heap.size, 3, none⟩) hsz).trans HQ3.out
          obtain ⟨hlC, hli⟩ := HRW.out m hmn
          have hlJ := HLJ.out m hmn
          obtain ⟨gr, or, hA, hgr, _⟩ := hli.cell (by omega)
          rw [hA] at dk hli
          obtain ⟨l, hl⟩ : ∃ l, S.pts m = l := ⟨_, rfl⟩
          have HPL := Lib.hid hl
          rw [hl] at dk hlC hlJ hli
          obtain ⟨n, hn⟩ : ∃ n, l.length = n := ⟨_, rfl⟩
          have HLN := Lib.hid hn
          rw [hn] at dk hlC hlJ hli
          obtain ⟨cu, hcu⟩ : ∃ cu, C m = cu := ⟨_, rfl⟩
          rw [hcu] at dk hlC hli
          have HLI : Hid (LI N wr (.slice (some ⟨gr, or, none⟩) n cu) l) := hli.go hNS HBm.out
          have hkn : k < n := by omega
          have hkc : (k : Int) ≤ (cu : Int) := by omega
          have hn5 : n ≤ 5 := by omega
          obtain ⟨p1, hp1⟩ : ∃ p1, k + 1 = p1 := ⟨_, rfl⟩
          have HP1 := Lib.hid hp1
          have hp1n : (p1 : Int) ≤ (n : Int) := by omega
          have hwp : IntKind.i64.wrap ((k : Int) + 1) = (p1 : Int) := by rw [IntWalk.i64_in _ (by omega)]; omega
          obtain ⟨ad, had⟩ : ∃ ad : Addr, (if cu = p1 then some (⟨gr, or, none⟩ : Addr) else some ⟨gr, or + p1, none⟩) = some ad := by
            by_cases h : cu = p1
            · exact ⟨_, if_pos h⟩
            · exact ⟨_, if_neg h⟩
          have HAD := Lib.hid had
          have HAJ : Hid (p1 < l.length → ad = ⟨gr, or + p1, none⟩) := fun h => by
            have h1 := HAD.out
            have h2 := HLN.out
            rw [if_neg (by omega)] at h1
            exact (Option.some.inj h1).symm
          have HNQ : Hid (N ≤ wr.heap.size) := by have := HBm.out.size; unfold Hid; omega
          clear hp1 had hcu hn hl hA hrr hgc hgf hcgp hli hlJ
          go_upto_region 9 with fail
          clear dk r3
          refine wp_region_held_drew (S := fun W => W.cell? ⟨B, 3, none⟩ = some (.slice (some ⟨g, 0, none⟩) S.np c2)) (by kernel_rfl) j3 (fun hHeld => ?_)
          (refine wpAnyH_take (i := 0) (v := ?_) rfl (by kernel_rfl) (by kernel_rfl) (by kernel_rfl) (fun _ _ _ h => h) (Or.inl ⟨by rfl, ?_⟩) (by assumption) ?_; rotate_left; (focus (intro w hSw; (try dsimp only at hSw); go_simp; (try with_reducible rfl))); (try simp only [List.getElem_toArray, List.getElem_cons_zero, List.getElem_cons_succ, Act.put, List.setIfInBounds_toArray, List.set_cons_zero, List.set_cons_succ])); (refine wpAnyH_take (i := 1) (v := ?_) rfl (by kernel_rfl) (by kernel_rfl) (by kernel_rfl) (fun _ _ _ h => h) (Or.inl ⟨by rfl, ?_⟩) (by assumption) ?_; rotate_left; (focus (intro w hSw; (try dsimp only at hSw); go_simp; (try with_reducible rfl))); (try simp only [List.getElem_toArray, List.getElem_cons_zero, List.getElem_cons_succ, Act.put, List.setIfInBounds_toArray, List.set_cons_zero, List.set_cons_succ])); (refine wpAnyH_take (i := 2) (v := ?_) rfl (by kernel_rfl) (by kernel_rfl) (by kernel_rfl) (fun _ _ _ h => h) (Or.inl ⟨by rfl, ?_⟩) (by assumption) ?_; rotate_left; (focus (intro w hSw; (try dsimp only at hSw); go_simp; (try with_reducible rfl))); (try simp only [List.getElem_toArray, List.getElem_cons_zero, List.getElem_cons_succ, Act.put, List.setIfInBounds_toArray, List.set_cons_zero, List.set_cons_succ]))
          (refine wpAnyH_take (i := 4) (v := ?_) rfl (by kernel_rfl) (by kernel_rfl) (by kernel_rfl) (fun _ _ _ h => h) (Or.inl ⟨by rfl, ?_⟩) (by assumption) ?_; rotate_left; (focus (intro w hSw; (try dsimp only at hSw); go_simp; (try with_reducible rfl))); (try simp only [List.getElem_toArray, List.getElem_cons_zero, List.getElem_cons_succ, Act.put, List.setIfInBounds_toArray, List.set_cons_zero, List.set_cons_succ])); (refine wpAnyH_take (i := 5) (v := ?_) rfl (by kernel_rfl) (by kernel_rfl) (by kernel_rfl) (fun _ _ _ h => h) (Or.inl ⟨by rfl, ?_⟩) (by assumption) ?_; rotate_left; (focus (intro w hSw; (try dsimp only at hSw); go_simp; (try with_reducible rfl))); (try simp only [List.getElem_toArray, List.getElem_cons_zero, List.getElem_cons_succ, Act.put, List.setIfInBounds_toArray, List.set_cons_zero, List.set_cons_succ])); (refine wpAnyH_take (i := 6) (v := ?_) rfl (by kernel_rfl) (by kernel_rfl) (by kernel_rfl) (fun _ _ _ h => h) (Or.inl ⟨by rfl, ?_⟩) (by assumption) ?_; rotate_left; (focus (intro w hSw; (try dsimp only at hSw); go_simp; (try with_reducible rfl))); (try simp only [List.getElem_toArray, List.getElem_cons_zero, List.getElem_cons_succ, Act.put, List.setIfInBounds_toArray, List.set_cons_zero, List.set_cons_succ]))
          (refine wpAnyH_take (i := 8) (v := ?_) rfl (by kernel_rfl) (by kernel_rfl) (by kernel_rfl) (fun _ _ _ h => h) (Or.inl ⟨by rfl, ?_⟩) (by assumption) ?_; rotate_left; (focus (intro w hSw; (try dsimp only at hSw); go_simp; (try with_reducible rfl))); (try simp only [List.getElem_toArray, List.getElem_cons_zero, List.getElem_cons_succ, Act.put, List.setIfInBounds_toArray, List.set_cons_zero, List.set_cons_succ])); (refine wpAnyH_take (i := 9) (v := ?_) rfl (by kernel_rfl) (by kernel_rfl) (by kernel_rfl) (fun _ _ _ h => h) (Or.inl ⟨by rfl, ?_⟩) (by assumption) ?_; rotate_left; (focus (intro w hSw; (try dsimp only at hSw); go_simp; (try with_reducible rfl))); (try simp only [List.getElem_toArray, List.getElem_cons_zero, List.getElem_cons_succ, Act.put, List.setIfInBounds_toArray, List.set_cons_zero, List.set_cons_succ])); (refine wpAnyH_take (i := 10) (v := ?_) rfl (by kernel_rfl) (by kernel_rfl) (by kernel_rfl) (fun _ _ _ h => h) (Or.inl ⟨by rfl, ?_⟩) (by assumption) ?_; rotate_left; (focus (intro w hSw; (try dsimp only at hSw); go_simp; (try with_reducible rfl))); (try simp only [List.getElem_toArray, List.getElem_cons_zero, List.getElem_cons_succ, Act.put, List.setIfInBounds_toArray, List.set_cons_zero, List.set_cons_succ]))
          (refine wpAnyH_take (i := 11) (v := ?_) rfl (by kernel_rfl) (by kernel_rfl) (by kernel_rfl) (fun _ _ _ h => h) (Or.inl ⟨by rfl, ?_⟩) (by assumption) ?_; rotate_left; (focus (intro w hSw; (try dsimp only at hSw); go_simp; rw [HAD.out])))
          (try simp only [List.getElem_toArray, List.getElem_cons_zero, List.getElem_cons_succ, Act.put, List.setIfInBounds_toArray, List.set_cons_zero, List.set_cons_succ])
          refine wpAnyH_ready (rs := [3]) (by kernel_rfl) (by simp) ?_; refine AllReadyH.cons rfl (fun K hK => ?_) AllReadyH.nil; go_simp
          obtain ⟨wc, hwc, HBz', hblkc⟩ : ∃ wa, (wr.alloc (.cells #[] 3)).drew = wa ∧ Below wr.heap.size wr wa ∧ wa.heap[wr.heap.size]? = some (.cells #[] 3) := ⟨_, rfl, (below_alloc (Nat.le_refl _) _).drew, World.alloc_heap_new _ _⟩
          rw [hwc]
          have HBz : Hid (Below wr.heap.size wr wc) := HBz'
          have hBw := heap_lt HZm.out
          have Sc : wc.cell? ⟨B, 3, none⟩ = some (.slice (some ⟨g, 0, none⟩) S.np c2) := (HBz.out.cell (p := ⟨B, 3, none⟩) hBw).trans j3
          clear HBz' hwc
          refine hK.out _ _ Sc (fun hHeld => ?_); clear hK K; (try simp only [List.getElem_toArray, List.getElem_cons_zero, List.getElem_cons_succ, Act.put, List.setIfInBounds_toArray, List.set_cons_zero, List.set_cons_succ])
          refine wpAnyH_ready (rs := [7]) (by kernel_rfl) (by simp) ?_; refine AllReadyH.cons rfl (fun K hK => ?_) AllReadyH.nil; rw [if_pos (by rfl)]
          have HXc := Lib.hid (HLI.out.go HNQ.out HBz.out)
          refine wp_appLI _ (.tmp 45) (.tmp 48) rfl wr.heap.size _ [] rfl (own_empty (Nat.le_refl _) hblkc) N _ _ _ (l.take k) (by rw [List.length_take, HLN.out]; omega) rfl (LI.take HLN.out.symm HXc.out (by have := HLN.out; omega)) (by simp; omega) HBz.out.size ?_
          intro v8 w8 ho8 hb8
          have HB8 : Hid (Below wr.heap.size wr w8) := HBz.out.trans hb8
          have S8 : w8.cell? ⟨B, 3, none⟩ = some (.slice (some ⟨g, 0, none⟩) S.np c2) := (HB8.out.cell (p := ⟨B, 3, none⟩) hBw).trans j3
          clear hb8 hblkc Sc
          refine hK.out _ _ S8 (fun hHeld => ?_); clear hK K; (try simp only [List.getElem_toArray, List.getElem_cons_zero, List.getElem_cons_succ, Act.put, List.setIfInBounds_toArray, List.set_cons_zero, List.set_cons_succ])
          refine wpAnyH_ready (rs := [12]) (by kernel_rfl) (by simp) ?_; refine AllReadyH.cons rfl (fun K hK => ?_) AllReadyH.nil; rw [if_pos (by rfl)]
          have HX8 := Lib.hid (HLI.out.go HNQ.out HB8.out)
          refine wp_appLI _ (.tmp 49) (.tmp 53) rfl wr.heap.size _ _ rfl ho8 N _ _ _ (l.drop p1) (by rw [List.length_drop, HLN.out]) rfl (LI.behind HLN.out.symm HX8.out (by have := HLN.out; omega) _ ad HAJ.out) (by simp; omega) HB8.out.size ?_
          intro v9 w9 ho9 hb9
          rw [← HP1.out, take_drop_erase] at ho9
          have HB9 : Hid (Below wr.heap.size wr w9) := HB8.out.trans hb9
          have S9 : w9.cell? ⟨B, 3, none⟩ = some (.slice (some ⟨g, 0, none⟩) S.np c2) := (HB9.out.cell (p := ⟨B, 3, none⟩) hBw).trans j3
          obtain ⟨a9, c9, rfl⟩ := ho9.form
          have HRI : Hid (RI wr.heap.size w9 (.slice a9 (l.eraseIdx k).length c9) (l.eraseIdx k)) := RI.of_own ho9
          clear hb9 ho8 ho9 S8
          refine hK.out _ _ S9 (fun hHeld => ?_); clear hK K; (try simp only [List.getElem_toArray, List.getElem_cons_zero, List.getElem_cons_succ, Act.put, List.setIfInBounds_toArray, List.set_cons_zero, List.set_cons_succ])
          (refine wpAnyH_take (i := 13) (v := ?_) rfl (by kernel_rfl) (by kernel_rfl) (by kernel_rfl) (fun _ _ _ h => h) (Or.inl ⟨by rfl, ?_⟩) (by assumption) ?_; rotate_left; (focus (intro w hSw; (try dsimp only at hSw); go_simp; (try with_reducible rfl))); (try simp only [List.getElem_toArray, List.getElem_cons_zero, List.getElem_cons_succ, Act.put, List.setIfInBounds_toArray, List.set_cons_zero, List.set_cons_succ])); (refine wpAnyH_take (i := 14) (v := ?_) rfl (by kernel_rfl) (by kernel_rfl) (by kernel_rfl) (fun _ _ _ h => h) (Or.inl ⟨by rfl, ?_⟩) (by assumption) ?_; rotate_left; (focus (intro w hSw; (try dsimp only at hSw); go_simp; (try with_reducible rfl))); (try simp only [List.getElem_toArray, List.getElem_cons_zero, List.getElem_cons_succ, Act.put, List.setIfInBounds_toArray, List.set_cons_zero, List.set_cons_succ]))
          have gf2 : w9.frozen? ⟨g, m * 2 + 1, none⟩ = false := (HB9.out.frozen (p := ⟨g, m * 2 + 1, none⟩) hgs).trans gf
          have gk2 : w9.cell? ⟨g, m * 2 + 1, none⟩ = some (rw m) := (HB9.out.cell (p := ⟨g, m * 2 + 1, none⟩) hgs).trans gq
          refine wpAnyH_ready (rs := [15]) (by kernel_rfl) (by simp) ?_; refine AllReadyH.cons rfl (fun K hK => ?_) AllReadyH.nil; go_simp
          obtain ⟨wg, hwg⟩ : ∃ wg, w9.setCell ⟨g, m * 2 + 1, none⟩ (.slice a9 (l.eraseIdx k).length c9) = wg := ⟨_, rfl⟩
          rw [hwg]
          have hog : ∀ b, b ≠ g → wg.heap[b]? = w9.heap[b]? := fun b hb => by rw [← hwg]; exact Below.heap_setCell _ _ _ _ (by exact hb)
          have HBg : Hid (Below ws.heap.size ws wg) := by
            rw [← hwg]
            exact (HBm.out.trans (HB9.out.mono HBm.out.size)).setCell (p := ⟨g, m * 2 + 1, none⟩) hgl _
          have hBg : B ≠ g := types_ne HZm.out HCP.out (by decide)
          have Sg : wg.cell? ⟨B, 3, none⟩ = some (.slice (some ⟨g, 0, none⟩) S.np c2) := (World.cell?_of_block (w := w9) (hog B hBg)).trans S9
          have HZg : Hid (wg.heap[B]? = some (.cells #[.int .i64 (S.J - 1), .int .i64 d, .int .i64 S.Z, .slice (some ⟨g, 0, none⟩) S.np c2] 24)) := (hog B hBg).trans ((HB9.out.block _ hBw).trans HZm.out)
          have HOPg : Hid (∃ rv, OwnP ws.heap.size wg 40 (.slice (some ⟨g, 0, none⟩) S.np c2) S.np S.sz rv (fun i => if i < m + 1 then (S.pts i).eraseIdx k else S.pts i)) := by
            refine ⟨_, OwnP.congr (rv := fun j => if j = m then .slice a9 (l.eraseIdx k).length c9 else rw j) ?_ (pts := fun j => if j = m then l.eraseIdx k else (if j < m then (S.pts j).eraseIdx k else S.pts j)) fun i hi => ?_⟩
            · rw [← hwg]
              refine (HOP.out.keep fun g _ h => HB9.out.block g h).newRow (by decide) hmn (HRI.out.lower HBm.out.size) fun b hb h0 j hj hjm hbj => ?_
              rcases Nat.eq_zero_or_pos ((if j < m then (S.pts j).eraseIdx k else S.pts j).length) with h1 | h1
              · exact h1
              · have h2 := (HOP.out.row j hj).blk hbj h1
                have h3 := HRI.out.low hb h0
                omega
            · show (if i = m then _ else _) = _
              by_cases h1 : i = m
              · subst h1
                rw [if_pos rfl, if_pos (Nat.lt_succ_self _), HPL.out]
              · rw [if_neg h1]
                by_cases h2 : i < m
                · rw [if_pos h2, if_pos (by omega)]
                · rw [if_neg h2, if_neg (by omega)]
          clear hwg hog gf2 gk2 S9
          refine hK.out _ _ Sg (fun hHeld => ?_); clear hK K; (try simp only [List.getElem_toArray, List.getElem_cons_zero, List.getElem_cons_succ, Act.put, List.setIfInBounds_toArray, List.set_cons_zero, List.set_cons_succ])
          refine wpAnyH_done (by kernel_rfl) ?_ _; clear hHeld
          clear Sg
          go_wp2
          go_roundw
          case rel => exact ⟨m + 1, by omega, by go_num, HZg, HOPg, HBg⟩
          case measure => simp [intOf]; omega
        · have hmi : ¬ (m : Int) < (S.np : Int) := by omega
          have hme : m = S.np := by omega
          have HME := Lib.hid hme
          have HZr := Lib.hid ((HBm.out.block _ (show wv.heap.size < ws.heap.size from hszs)).trans HZ1.out)
          have v0 := cell_blk HZr.out 0 rfl
          have v1 := cell_blk HZr.out 1 rfl
          have v2 := cell_blk HZr.out 2 rfl
          have v3 := cell_blk HZr.out 3 rfl
          have e0 := free_blk HZr.out 0
          have e1 := free_blk HZr.out 1
          have e2 := free_blk HZr.out 2
          have e3 := free_blk HZr.out 3
          have u0 := cell_blk HZm.out 0 rfl
          have u1 := cell_blk HZm.out 1 rfl
          have u2 := cell_blk HZm.out 2 rfl
          clear hme
          go_wp2_with fail
          obtain ⟨w6, hw6, hz6, ho6, hb6⟩ := put4o HZr.out (.int .i64 (S.J - 1)) (.int .i64 d) (.int .i64 S.Z) (.slice a2 S.np c2)
          rw [hw6]
          have s0 := cell_blk hz6 0 rfl
          have s1 := cell_blk hz6 1 rfl
          have s2 := cell_blk hz6 2 rfl
          have s3 := cell_blk hz6 3 rfl
          have hBf : Below w.heap.size w w6 := HB.out.trans ((HBm.out.mono HB.out.size).trans (hb6.mono HVW.out))
          have hop6 := (HOP.out.keep (W' := w6) fun g' h1 _ => ho6 g' (by omega)).congr (pts' := (withoutJ S k).pts) fun i hi => by rw [if_pos (by have := HME.out; omega)]; rfl
          have hlo : w.heap.size ≤ ws.heap.size := HB.out.size
          exact bodyPost_ret (v := .agg #[.int .i64 (S.J - 1), .int .i64 d, .int .i64 S.Z, .slice a2 S.np c2]) (by simp [results, Try.results79, go_sem, s0, s1, s2, s3]) rfl ⟨_, rfl, ⟨_, _, rw, by show _ = Value.agg #[.int .i64 (S.J - 1), .int .i64 (drp S.J S.D), .int .i64 S.Z, .slice a2 S.np c2]; rw [HDD.out], hop6.lower hlo⟩, hBf⟩

end Go.Proofs.Ytffnlimgjnhmpaa

namespace Go.Proofs.Ytffnlimgjnhmpaa
open Go.RowKit

theorem isMark_some (N : Nat) (v : Value) (S : JB) (p j : Int) (w : World) (h : ShowAt N w v S) :
    Calls Try.prog 24 #[v, .agg #[.int .i64 p, .int .i64 j]] w fun e w' => ∃ b, e = .returned (.bool b) ∧ (okS S = true → b = isMk S p j) ∧ Below w.heap.size w w' := by
  cases hok : okS S with
  | true =>
    have hG := okS_good hok
    refine (isMark_any N v S p j w h ⟨by have := hG.J1; omega, by have := hG.J5; omega⟩).mono ?_
    rintro e w' ⟨rfl, hb⟩
    exact ⟨_, rfl, fun _ => rfl, hb⟩
  | false =>
    clear hok
    obtain ⟨a1, c1, rfl⟩ := h.form
    obtain ⟨ws, hws, HB, hsz, hsz1, hblk, hblk1⟩ := box2 w (.cells #[.int .i64 S.J, .int .i64 S.D, .int .i64 S.Z, .slice a1 S.np c1] 24) (.cells #[.int .i64 p, .int .i64 j] 46)
    have q0 := cell_blk hblk 0 rfl
    have q1 := cell_blk hblk 1 rfl
    have q2 := cell_blk hblk 2 rfl
    have q3 := cell_blk hblk 3 rfl
    have p0 := cell_blk hblk1 0 rfl
    have p1 := cell_blk hblk1 1 rfl
    have HBK := Lib.hid (h.go HB.out)
    have HB0 : Hid (Below ws.heap.size ws ws) := Below.refl _ _
    clear hblk hblk1 h
    cases hp : inN p S.np with
    | false =>
      have HP := Lib.hid hp
      clear hp
      go_enter Try.func24, Try.ntmps24
      go_wp2_with (go_at_call 36; refine (isPlate_any N _ S p _ (HBK.out.go HB0.out)).mono ?_; rw [HP.out]; rintro e w1 ⟨rfl, hb1⟩; ((try clear c0); have HB1 := Lib.hid (bel HB0.out hb1); have c1 := (old_of HB1.out).1; clear hb1))
      go_ret
      exact ⟨_, rfl, (fun hx => by cases hx), fin HB.out HB1.out⟩
    | true =>
      have HP := Lib.hid hp
      clear hp
      obtain ⟨z, hz⟩ : ∃ z, IntKind.i64.wrap (S.J - 1) = z := ⟨_, rfl⟩
      go_enter Try.func24, Try.ntmps24
      go_wp2_with (first
        | (go_at_call 36; refine (isPlate_any N _ S p _ (HBK.out.go HB0.out)).mono ?_; rw [HP.out]; rintro e w1 ⟨rfl, hb1⟩; ((try clear c0); have HB1 := Lib.hid (bel HB0.out hb1); have c1 := (old_of HB1.out).1; clear hb1))
        | (go_at_call 61; refine (within_any _ _ _ _).mono ?_; rintro e w' ⟨rfl, hw'⟩; rw [hw']; clear hw'))
      go_ret
      exact ⟨_, rfl, (fun hx => by cases hx), fin HB.out HB1.out⟩

theorem same_dec (l m : List Int) : sameI l.length (fun i => l.getD i 0) m.length (fun i => m.getD i 0) = decide (l = m) := by
  by_cases h : l = m
  · subst h
    rw [decide_eq_true rfl]
    unfold sameI
    rw [Bool.and_eq_true, decide_eq_true_eq, allB_true]
    exact ⟨rfl, fun i _ => decide_eq_true rfl⟩
  · rw [decide_eq_false h]
    unfold sameI
    rw [Bool.and_eq_false_iff]
    by_cases hl : l.length = m.length
    · right
      rw [allB_false]
      by_cases hx : ∃ i, i < l.length ∧ decide (l.getD i 0 = m.getD i 0) = false
      · exact hx
      · refine absurd (List.ext_getElem hl fun i h1 h2 => ?_) h
        have := fun hh => hx ⟨i, h1, hh⟩
        simpa [List.getD, List.getElem?_eq_getElem h1, List.getElem?_eq_getElem h2] using this
    · left; exact decide_eq_false hl
theorem getL_len (S : JB) : (getL S).length ≤ S.np := sel_len _ _
/-- are the lists of two calls the same? -/
theorem same_own (K1 K2 : Nat) (v u : Value) (l m : List Int) (w : World) (h1 : OwnI K1 w v l) (h2 : OwnI K2 w u m) (b1 : l.length ≤ 1000) (b2 : m.length ≤ 1000) :
    Calls Try.prog 40 #[v, u] w fun e w' => e = .returned (.bool (decide (l = m))) ∧ Below w.heap.size w w' := by
  refine (sameInts_any w.heap.size _ _ _ _ _ _ w (h1.li b1) (h2.li b2)).mono ?_
  rintro e w' ⟨rfl, q, rfl⟩
  exact ⟨ret_bool (same_dec _ _), below_drewN (Below.refl _ _) _⟩
set_option maxHeartbeats 6400000 in
set_option maxRecDepth 100000 in
theorem rRoom_any (N : Nat) (v : Value) (S : JB) (p j er : Int) (w : World) (h : ShowAt N w v S) (her : errC (okS S) (isMk S p j) (allIn S) = er) :
    Calls Try.prog 52 #[v, .agg #[.int .i64 p, .int .i64 j]] w fun e w' => e = .returned (.tuple #[.agg #[.int .i64 (sp er (room S p.toNat j.toNat 21).1), .int .i64 (sp er (room S p.toNat j.toNat 21).2)], .int .i64 er]) ∧ Below w.heap.size w w' := by
  obtain ⟨a1, c1, rfl⟩ := h.form
  obtain ⟨wv, hwv, HBv, hszv, hszv1, hblk, hblk1⟩ := box2 w (.cells #[.int .i64 S.J, .int .i64 S.D, .int .i64 S.Z, .slice a1 S.np c1] 24) (.cells #[.int .i64 p, .int .i64 j] 46)
  obtain ⟨ws, hws, HBs, hszs, hblks⟩ := box1 wv (.cells #[.int .i64 0, .int .i64 0] 30)
  have HB : Hid (Below w.heap.size w ws) := HBv.out.trans (HBs.out.mono HBv.out.size)
  have hz0 := (HBs.out.block _ hszv).trans hblk
  have hz1 := (HBs.out.block _ hszv1).trans hblk1
  have hsz := Nat.lt_of_lt_of_le hszv HBs.out.size
  have hsz1 := Nat.lt_of_lt_of_le hszv1 HBs.out.size
  have q0 := cell_blk hz0 0 rfl
  have q1 := cell_blk hz0 1 rfl
  have q2 := cell_blk hz0 2 rfl
  have q3 := cell_blk hz0 3 rfl
  have p0 := cell_blk hz1 0 rfl
  have p1 := cell_blk hz1 1 rfl
  have HBK := Lib.hid (h.go HB.out)
  have HZ1 := Lib.hid hblks
  have HVW : Hid (w.heap.size ≤ wv.heap.size) := HBv.out.size
  have HNS : Hid (N ≤ ws.heap.size) := HBK.out.1
  have HER := Lib.hid her
  have HSQ : Hid (∀ W, Below ws.heap.size ws W → ((W.cell? ⟨w.heap.size, 0, none⟩ = some (.int .i64 S.J) ∧ W.cell? ⟨w.heap.size, 1, none⟩ = some (.int .i64 S.D) ∧ W.cell? ⟨w.heap.size, 2, none⟩ = some (.int .i64 S.Z) ∧ W.cell? ⟨w.heap.size, 3, none⟩ = some (.slice a1 S.np c1)) ∧ W.cell? ⟨w.heap.size + 1, 0, none⟩ = some (.int .i64 p) ∧ W.cell? ⟨w.heap.size + 1, 1, none⟩ = some (.int .i64 j))) := fun W hW => ⟨⟨(hW.cell (p := ⟨w.heap.size, 0, none⟩) hsz).trans q0, (hW.cell (p := ⟨w.heap.size, 1, none⟩) hsz).trans q1, (hW.cell (p := ⟨w.heap.size, 2, none⟩) hsz).trans q2, (hW.cell (p := ⟨w.heap.size, 3, none⟩) hsz).trans q3⟩, (hW.cell (p := ⟨w.heap.size + 1, 0, none⟩) hsz1).trans p0, (hW.cell (p := ⟨w.heap.size + 1, 1, none⟩) hsz1).trans p1⟩
  clear hblk hblk1 h hz0 hz1 hblks
  by_cases h0 : er = 0
  · subst h0
    have hok : okS S = true := by
      cases hx : okS S with
      | true => rfl
      | false => rw [hx] at her; exact absurd her (by simp [errC])
    have him : isMk S p j = true := by
      cases hx : isMk S p j with
      | true => rfl
      | false => rw [hok, hx] at her; exact absurd her (by simp [errC])
    have hin : allIn S = true := by
      cases hx : allIn S with
      | true => rfl
      | false => rw [hok, him, hx] at her; exact absurd her (by simp [errC])
    have HG := Lib.hid (okS_good hok)
    obtain ⟨q, k, rfl, rfl, hq, hk⟩ := isMk_nat HG.out him
    have HIN := Lib.hid hin
    have hnp6 : S.np ≤ 6 := HG.out.np
    have hpt : 0 ≤ (S.pts q).getD k 0 ∧ (S.pts q).getD k 0 ≤ 20 := by
      have hm : (S.pts q).getD k 0 ∈ S.pts q := by rw [List.getD_eq_getElem?_getD, List.getElem?_eq_getElem hk]; exact List.getElem_mem hk
      have h1 := HG.out.pt q hq _ hm
      have h2 := allIn_iff.1 hin q hq _ hm
      omega
    have HPT := Lib.hid hpt
    obtain ⟨A, C, hcap, _, hrows, hcells⟩ := HBK.out.plates.open
    obtain ⟨b, off, rfl, hbN, hrr⟩ := hcells (by omega)
    have d1 := (hrr q hq).2
    have hli := (hrows q hq).2
    obtain ⟨gr, or, hA, hgr, hrc⟩ := hli.cell (by omega)
    rw [hA] at d1
    obtain ⟨x, hx⟩ : ∃ x, (S.pts q).getD k 0 = x := ⟨_, rfl⟩
    have ck := hrc k hk
    rw [hx] at ck hpt
    have HX := Lib.hid hx
    obtain ⟨n, hn⟩ : ∃ n, (S.pts q).length = n := ⟨_, rfl⟩
    have HLN := Lib.hid hn
    have HL40 : Hid (∀ i, i < S.np → (S.pts i).length ≤ 40) := fun i hi => by have := HG.out.len i hi; have := HG.out.J5; omega
    rw [hn] at d1 hk
    have hqi : (q : Int) < (S.np : Int) := by omega
    have hki : (k : Int) < (n : Int) := by omega
    have hbw : b < ws.heap.size := by have := HNS.out; omega
    have hgw : gr < ws.heap.size := by have := HNS.out; omega
    have HDC : Hid (∀ W, Below ws.heap.size ws W → W.cell? ⟨b, off + q * 2 + 1, none⟩ = some (.slice (some ⟨gr, or, none⟩) n (C q)) ∧ W.cell? ⟨gr, or + k, none⟩ = some (.int .i64 x)) := fun W hW => ⟨(hW.cell (p := ⟨b, off + q * 2 + 1, none⟩) hbw).trans d1, (hW.cell (p := ⟨gr, or + k, none⟩) hgw).trans ck⟩
    have HSL : Hid (sp 0 (room S (q : Int).toNat (k : Int).toNat 21).1 = (room S q k 21).1) := by unfold Hid; rw [Int.toNat_natCast, Int.toNat_natCast, sp_ok]
    have HSH : Hid (sp 0 (room S (q : Int).toNat (k : Int).toNat 21).2 = (room S q k 21).2) := by unfold Hid; rw [Int.toNat_natCast, Int.toNat_natCast, sp_ok]
    clear hrr hrows hcells hli hA hrc hx hn d1 ck hin hok him her
    go_enter Try.func52, Try.ntmps52
    go_upto_region 1 with fail
    clear hwv
    have hS0 := HSQ.out ws.drew (Below.refl _ _).drew
    refine wp_region_held_drew (S := fun W => ((W.cell? ⟨w.heap.size, 0, none⟩ = some (.int .i64 S.J) ∧ W.cell? ⟨w.heap.size, 1, none⟩ = some (.int .i64 S.D) ∧ W.cell? ⟨w.heap.size, 2, none⟩ = some (.int .i64 S.Z) ∧ W.cell? ⟨w.heap.size, 3, none⟩ = some (.slice (some ⟨b, off, none⟩) S.np c1)) ∧ W.cell? ⟨w.heap.size + 1, 0, none⟩ = some (.int .i64 (q : Int)) ∧ W.cell? ⟨w.heap.size + 1, 1, none⟩ = some (.int .i64 (k : Int)))) (by kernel_rfl) hS0 (fun hHeld => ?_)
    (refine wpAnyH_take (i := 0) (v := ?_) rfl (by kernel_rfl) (by kernel_rfl) (by kernel_rfl) (fun _ _ _ h => h) (Or.inl ⟨by rfl, ?_⟩) (by assumption) ?_; rotate_left; (focus (intro w hSw; (try dsimp only at hSw); go_simp; (try with_reducible rfl))); (try simp only [List.getElem_toArray, List.getElem_cons_zero, List.getElem_cons_succ, Act.put, List.setIfInBounds_toArray, List.set_cons_zero, List.set_cons_succ])); (refine wpAnyH_take (i := 1) (v := ?_) rfl (by kernel_rfl) (by kernel_rfl) (by kernel_rfl) (fun _ _ _ h => h) (Or.inl ⟨by rfl, ?_⟩) (by assumption) ?_; rotate_left; (focus (intro w hSw; (try dsimp only at hSw); go_simp; (try with_reducible rfl))); (try simp only [List.getElem_toArray, List.getElem_cons_zero, List.getElem_cons_succ, Act.put, List.setIfInBounds_toArray, List.set_cons_zero, List.set_cons_succ])); (refine wpAnyH_take (i := 2) (v := ?_) rfl (by kernel_rfl) (by kernel_rfl) (by kernel_rfl) (fun _ _ _ h => h) (Or.inl ⟨by rfl, ?_⟩) (by assumption) ?_; rotate_left; (focus (intro w hSw; (try dsimp only at hSw); go_simp; (try with_reducible rfl))); (try simp only [List.getElem_toArray, List.getElem_cons_zero, List.getElem_cons_succ, Act.put, List.setIfInBounds_toArray, List.set_cons_zero, List.set_cons_succ]))
    refine wpAnyH_ready (rs := [3]) (by kernel_rfl) (by simp) ?_; refine AllReadyH.cons rfl (fun K hK => ?_) AllReadyH.nil; go_simp
    go_at_call 24
    refine (isMark_some N _ S (q : Int) (k : Int) _ (HBK.out.go (Below.refl _ _).drew)).mono ?_
    rintro e w1 ⟨b1, rfl, hbm, hb1⟩
    have HB1 : Hid (Below ws.heap.size ws w1) := (Below.refl _ _).drew.trans hb1
    have hS1 := HSQ.out w1 HB1.out
    have HCL : Hid (errC (okS S) b1 (allIn S) = (0 : Int)) := by
      refine Eq.trans ?_ HER.out
      cases hk : okS S with
      | true => rw [hbm hk]
      | false => rfl
    clear hb1 hbm
    refine hK.out _ _ hS1 (fun hHeld => ?_); clear hK K; (try simp only [List.getElem_toArray, List.getElem_cons_zero, List.getElem_cons_succ, Act.put, List.setIfInBounds_toArray, List.set_cons_zero, List.set_cons_succ])
    refine wpAnyH_ready (rs := [4]) (by kernel_rfl) (by simp) ?_; refine AllReadyH.cons rfl (fun K hK => ?_) AllReadyH.nil; go_simp
    go_at_call 78
    refine (closed_any N _ S b1 _ (HBK.out.go HB1.out)).mono ?_
    rw [HCL.out]
    rintro e w2 ⟨rfl, hb2⟩
    have HB2 : Hid (Below ws.heap.size ws w2) := bel HB1.out hb2
    have hS2 := HSQ.out w2 HB2.out
    clear hb2 hS1
    refine hK.out _ _ hS2 (fun hHeld => ?_); clear hK K; (try simp only [List.getElem_toArray, List.getElem_cons_zero, List.getElem_cons_succ, Act.put, List.setIfInBounds_toArray, List.set_cons_zero, List.set_cons_succ])
    (refine wpAnyH_take (i := 5) (v := ?_) rfl (by kernel_rfl) (by kernel_rfl) (by kernel_rfl) (fun _ _ _ h => h) (Or.inl ⟨by rfl, ?_⟩) (by assumption) ?_; rotate_left; (focus (intro w hSw; (try dsimp only at hSw); go_simp; (try with_reducible rfl))); (try simp only [List.getElem_toArray, List.getElem_cons_zero, List.getElem_cons_succ, Act.put, List.setIfInBounds_toArray, List.set_cons_zero, List.set_cons_succ]))
    refine wpAnyH_done (by kernel_rfl) ?_ _; clear hHeld
    clear hS2
    obtain ⟨⟨r0, r1, r2, r3⟩, m0, m1⟩ := HSQ.out w2 HB2.out
    clear HER hws
    go_upto_region 4 with fail
    obtain ⟨d1, d2⟩ := HDC.out w2 HB2.out
    go_quiet (fail)
    obtain ⟨w3, hw3⟩ : ∃ w3, w2.drewN nq = w3 := ⟨_, rfl⟩
    rw [hw3]
    have hb23 : Below w2.heap.size w2 w3 := by rw [← hw3]; exact below_drewN (Below.refl _ _) _
    have HB3 : Hid (Below ws.heap.size ws w3) := bel HB2.out hb23
    obtain ⟨wo, hwo, HBo, hszo, hblko⟩ := box1 w3 (.cells #[.int .i64 0, .int .i64 0] 30)
    have HZo := Lib.hid hblko
    have z0 := cell_blk hblko 0 rfl
    have z1 := cell_blk hblko 1 rfl
    have f0 := free_blk hblko 0
    have f1 := free_blk hblko 1
    clear hw3 hb23 hblko r0 r1 r2 r3 m0 m1 d1 d2
    go_wp2_with fail
    go_upto_region 6 with fail
    obtain ⟨w4, hw4, hz4, ho4, hb4⟩ := put2o HZo.out (.int .i64 x) (.int .i64 x)
    rw [hw4]
    have hk4 : Below w3.heap.size w3 w4 := HBo.out.trans hb4
    have HB4 : Hid (Below ws.heap.size ws w4) := bel HB3.out hk4
    obtain ⟨g, hg⟩ : ∃ g, w3.heap.size = g := ⟨_, rfl⟩
    rw [hg] at hz4 ⊢
    have HGW : Hid (ws.heap.size ≤ g) := by rw [← hg]; exact HB3.out.size
    have HZ4 := Lib.hid hz4
    clear hw4 hz4 ho4 hb4 hk4 z0 z1 f0 f1 hwo HZo HBo hszo hg HB3 HB2
    go_wp2_with fail
    go_loopw [9] (fun i wr => ∃ m : Nat, m ≤ 21 ∧ i = .int .i64 m ∧ Hid (wr.heap[g]? = some (.cells #[.int .i64 (room S q k m).1, .int .i64 (room S q k m).2] 30)) ∧ Hid (Below ws.heap.size ws wr)) (fun i _ => 21 - (intOf i).toNat)
    case atStart => exact ⟨0, Nat.zero_le _, rfl, by unfold Hid; rw [HZ4.out, ← HX.out]; rfl, HB4⟩
    case round =>
      obtain ⟨m, hm, rfl, HZr, HBr⟩ := hrel
      have hbd := room_bd (S := S) (q := q) (k := k) HPT.out hm
      obtain ⟨lo, hlo⟩ : ∃ lo, (room S q k m).1 = lo := ⟨_, rfl⟩
      obtain ⟨hi, hhi⟩ : ∃ hi, (room S q k m).2 = hi := ⟨_, rfl⟩
      rw [hlo, hhi] at hbd HZr
      have HLO := Lib.hid hlo
      have HHI := Lib.hid hhi
      have hSr := HSQ.out wr HBr.out
      by_cases hm21 : m < 21
      · have hmi : (m : Int) ≤ 20 := by omega
        obtain ⟨bb, hbb⟩ : ∃ bb, decide (getL (withP S q k m) = getL S) = bb := ⟨_, rfl⟩
        have HBB := Lib.hid hbb
        have HGM : Hid (GoodS (withP S q k m)) := withP_good HG.out q k (by omega)
        have HLM : Hid (∀ i, i < (withP S q k m).np → ((withP S q k m).pts i).length ≤ 1000) := fun i hi => by have := HGM.out.len i hi; have := HGM.out.J5; omega
        have hgr := heap_lt HZr.out
        clear hlo hhi hbb
        go_upto_region 9 with fail
        refine wp_region_held_drew (S := fun W => ((W.cell? ⟨w.heap.size, 0, none⟩ = some (.int .i64 S.J) ∧ W.cell? ⟨w.heap.size, 1, none⟩ = some (.int .i64 S.D) ∧ W.cell? ⟨w.heap.size, 2, none⟩ = some (.int .i64 S.Z) ∧ W.cell? ⟨w.heap.size, 3, none⟩ = some (.slice (some ⟨b, off, none⟩) S.np c1)) ∧ W.cell? ⟨w.heap.size + 1, 0, none⟩ = some (.int .i64 (q : Int)) ∧ W.cell? ⟨w.heap.size + 1, 1, none⟩ = some (.int .i64 (k : Int)))) (by kernel_rfl) hSr (fun hHeld => ?_)
        (refine wpAnyH_take (i := 0) (v := ?_) rfl (by kernel_rfl) (by kernel_rfl) (by kernel_rfl) (fun _ _ _ h => h) (Or.inl ⟨by rfl, ?_⟩) (by assumption) ?_; rotate_left; (focus (intro w hSw; (try dsimp only at hSw); go_simp; (try with_reducible rfl))); (try simp only [List.getElem_toArray, List.getElem_cons_zero, List.getElem_cons_succ, Act.put, List.setIfInBounds_toArray, List.set_cons_zero, List.set_cons_succ])); (refine wpAnyH_take (i := 1) (v := ?_) rfl (by kernel_rfl) (by kernel_rfl) (by kernel_rfl) (fun _ _ _ h => h) (Or.inl ⟨by rfl, ?_⟩) (by assumption) ?_; rotate_left; (focus (intro w hSw; (try dsimp only at hSw); go_simp; (try with_reducible rfl))); (try simp only [List.getElem_toArray, List.getElem_cons_zero, List.getElem_cons_succ, Act.put, List.setIfInBounds_toArray, List.set_cons_zero, List.set_cons_succ])); (refine wpAnyH_take (i := 2) (v := ?_) rfl (by kernel_rfl) (by kernel_rfl) (by kernel_rfl) (fun _ _ _ h => h) (Or.inl ⟨by rfl, ?_⟩) (by assumption) ?_; rotate_left; (focus (intro w hSw; (try dsimp only at hSw); go_simp; (try with_reducible rfl))); (try simp only [List.getElem_toArray, List.getElem_cons_zero, List.getElem_cons_succ, Act.put, List.setIfInBounds_toArray, List.set_cons_zero, List.set_cons_succ]))
        (refine wpAnyH_take (i := 5) (v := ?_) rfl (by kernel_rfl) (by kernel_rfl) (by kernel_rfl) (fun _ _ _ h => h) (Or.inl ⟨by rfl, ?_⟩) (by assumption) ?_; rotate_left; (focus (intro w hSw; (try dsimp only at hSw); go_simp; (try with_reducible rfl))); (try simp only [List.getElem_toArray, List.getElem_cons_zero, List.getElem_cons_succ, Act.put, List.setIfInBounds_toArray, List.set_cons_zero, List.set_cons_succ]))
        refine wpAnyH_ready (rs := [3]) (by kernel_rfl) (by simp) ?_; refine AllReadyH.cons rfl (fun K hK => ?_) AllReadyH.nil; go_simp
        go_at_call 26
        refine (rWith_any N _ S q k m _ (HBK.out.go (HBr.out.drew)) (by omega) HL40.out hq (by have := HLN.out; omega)).mono ?_
        rintro e w5 ⟨v5, rfl, ho5, hb5⟩
        have HB5 : Hid (Below wr.heap.size wr w5) := (Below.refl _ _).drew.trans hb5
        have HS5 := Lib.hid (ho5.show (Nat.le_trans hnp6 (by omega)) HLM.out)
        have hS5 := HSQ.out w5 (bel HBr.out HB5.out)
        clear hb5 ho5 hSr
        refine hK.out _ _ hS5 (fun hHeld => ?_); clear hK K; (try simp only [List.getElem_toArray, List.getElem_cons_zero, List.getElem_cons_succ, Act.put, List.setIfInBounds_toArray, List.set_cons_zero, List.set_cons_succ])
        refine wpAnyH_ready (rs := [4]) (by kernel_rfl) (by simp) ?_; refine AllReadyH.cons rfl (fun K hK => ?_) AllReadyH.nil; go_simp
        go_at_call 41
        refine (get_any _ _ (withP S q k m) _ HS5.out HGM.out.rd).mono ?_
        rintro e w6 ⟨u6, rfl, ho6, hb6⟩
        have HB6 : Hid (Below wr.heap.size wr w6) := bel HB5.out hb6
        have HO6 := Lib.hid ho6
        have hS6 := HSQ.out w6 (bel HBr.out HB6.out)
        clear hb6 ho6 hS5
        refine hK.out _ _ hS6 (fun hHeld => ?_); clear hK K; (try simp only [List.getElem_toArray, List.getElem_cons_zero, List.getElem_cons_succ, Act.put, List.setIfInBounds_toArray, List.set_cons_zero, List.set_cons_succ])
        refine wpAnyH_ready (rs := [6]) (by kernel_rfl) (by simp) ?_; refine AllReadyH.cons rfl (fun K hK => ?_) AllReadyH.nil; go_simp
        go_at_call 41
        refine (get_any N _ S _ (HBK.out.go (bel HBr.out HB6.out)) HG.out.rd).mono ?_
        rintro e w7 ⟨u7, rfl, ho7, hb7⟩
        have HB7 : Hid (Below wr.heap.size wr w7) := bel HB6.out hb7
        have HO7 := Lib.hid (And.intro (HO6.out.go hb7) ho7)
        have hS7 := HSQ.out w7 (bel HBr.out HB7.out)
        clear hb7 ho7 hS6
        refine hK.out _ _ hS7 (fun hHeld => ?_); clear hK K; (try simp only [List.getElem_toArray, List.getElem_cons_zero, List.getElem_cons_succ, Act.put, List.setIfInBounds_toArray, List.set_cons_zero, List.set_cons_succ])
        refine wpAnyH_ready (rs := [7]) (by kernel_rfl) (by simp) ?_; refine AllReadyH.cons rfl (fun K hK => ?_) AllReadyH.nil; go_simp
        go_at_call 40
        refine (same_own _ _ _ _ _ _ _ HO7.out.1 HO7.out.2 (Nat.le_trans (getL_len _) (Nat.le_trans hnp6 (by omega))) (Nat.le_trans (getL_len _) (Nat.le_trans hnp6 (by omega)))).mono ?_
        rw [HBB.out]
        rintro e w8 ⟨rfl, hb8⟩
        have HB8 : Hid (Below wr.heap.size wr w8) := bel HB7.out hb8
        have hS8 := HSQ.out w8 (bel HBr.out HB8.out)
        clear hb8 hS7
        refine hK.out _ _ hS8 (fun hHeld => ?_); clear hK K; (try simp only [List.getElem_toArray, List.getElem_cons_zero, List.getElem_cons_succ, Act.put, List.setIfInBounds_toArray, List.set_cons_zero, List.set_cons_succ])
        refine wpAnyH_done (by kernel_rfl) ?_ _; clear hHeld
        clear hS8
        cases bb with
        | true =>
          have HRM : Hid (room S q k (m + 1) = (min lo (m : Int), max hi (m : Int))) := by
            unfold Hid
            conv => lhs; unfold room
            rw [if_pos (of_decide_eq_true HBB.out), HLO.out, HHI.out]
          obtain ⟨mn, hmn⟩ : ∃ mn : Int, min lo (m : Int) = mn := ⟨_, rfl⟩
          obtain ⟨mx, hmx⟩ : ∃ mx : Int, max hi (m : Int) = mx := ⟨_, rfl⟩
          rw [hmn, hmx] at HRM
          have hminr : ∀ a b W, (Builtin.min_ a b #[.int .i64 lo, .int .i64 (m : Int)]).run Try.prog W = .ok (.int .i64 mn) W := fun a b W => by rw [run_min_int2]; congr 2; rw [← hmn]; split <;> omega
          have hmaxr : ∀ a b W, (Builtin.max_ a b #[.int .i64 hi, .int .i64 (m : Int)]).run Try.prog W = .ok (.int .i64 mx) W := fun a b W => by rw [run_max_int2]; congr 2; rw [← hmx]; split <;> omega
          have HZ5 := Lib.hid ((HB8.out.block _ hgr).trans HZr.out)
          have z0 := cell_blk HZ5.out 0 rfl
          have z1 := cell_blk HZ5.out 1 rfl
          have f0 := free_blk HZ5.out 0
          have f1 := free_blk HZ5.out 1
          clear hmn hmx
          go_wp2_with fail
          go_upto_region 8 with fail
          obtain ⟨w9, hw9, hz9, ho9, hb9⟩ := put2o HZ5.out (.int .i64 mn) (.int .i64 mx)
          rw [hw9]
          have HZ9 : Hid (w9.heap[g]? = some (.cells #[.int .i64 (room S q k (m + 1)).1, .int .i64 (room S q k (m + 1)).2] 30)) := by unfold Hid; rw [hz9, HRM.out]
          have HB9 : Hid (Below ws.heap.size ws w9) := (bel HBr.out HB8.out).trans (hb9.mono HGW.out)
          clear hw9 hz9 ho9 hb9 z0 z1 f0 f1
          go_wp2_with fail
          go_roundw
          case rel => exact ⟨m + 1, by omega, by go_num, HZ9, HB9⟩
          case measure => simp [intOf]; omega
        | false =>
          have HRM : Hid (room S q k (m + 1) = room S q k m) := by
            unfold Hid
            conv => lhs; unfold room
            rw [if_neg (of_decide_eq_false HBB.out)]
          have HZ9 : Hid (w8.heap[g]? = some (.cells #[.int .i64 (room S q k (m + 1)).1, .int .i64 (room S q k (m + 1)).2] 30)) := by unfold Hid; rw [HRM.out, HLO.out, HHI.out]; exact (HB8.out.block _ hgr).trans HZr.out
          have HB9 : Hid (Below ws.heap.size ws w8) := bel HBr.out HB8.out
          go_wp2_with fail
          go_roundw
          case rel => exact ⟨m + 1, by omega, by go_num, HZ9, HB9⟩
          case measure => simp [intOf]; omega
      · have hmi : ¬ (m : Int) ≤ 20 := by omega
        have hm2 : m = 21 := by omega
        subst hm2
        have HZs := Lib.hid ((HBr.out.block _ hszs).trans HZ1.out)
        have x0 := cell_blk HZs.out 0 rfl
        have x1 := cell_blk HZs.out 1 rfl
        have e0 := free_blk HZs.out 0
        have e1 := free_blk HZs.out 1
        have z0 := cell_blk HZr.out 0 rfl
        have z1 := cell_blk HZr.out 1 rfl
        rw [HLO.out] at HSL
        rw [HHI.out] at HSH
        clear hSr
        go_wp2_with fail
        obtain ⟨w6, hw6, hz6, ho6, hb6⟩ := put2o HZs.out (.int .i64 lo) (.int .i64 hi)
        rw [hw6]
        have s0 := cell_blk hz6 0 rfl
        have s1 := cell_blk hz6 1 rfl
        have hbf : Below w.heap.size w w6 := HB.out.trans ((HBr.out.mono HB.out.size).trans (hb6.mono HVW.out))
        exact bodyPost_ret (v := .tuple #[.agg #[.int .i64 lo, .int .i64 hi], .int .i64 0]) (by simp [results, Try.results52, go_sem, s0, s1]) rfl ⟨by first | rw [sp_ok, sp_ok] | rw [HSL.out, HSH.out], hbf⟩
  · have hne : (er != 0) = true := by simpa using h0
    have HSL : Hid (sp er (room S p.toNat j.toNat 21).1 = 0) := sp_no h0 _
    have HSH : Hid (sp er (room S p.toNat j.toNat 21).2 = 0) := sp_no h0 _
    clear h0 her
    go_enter Try.func52, Try.ntmps52
    go_upto_region 1 with fail
    clear hwv
    have hS0 := HSQ.out ws.drew (Below.refl _ _).drew
    refine wp_region_held_drew (S := fun W => ((W.cell? ⟨w.heap.size, 0, none⟩ = some (.int .i64 S.J) ∧ W.cell? ⟨w.heap.size, 1, none⟩ = some (.int .i64 S.D) ∧ W.cell? ⟨w.heap.size, 2, none⟩ = some (.int .i64 S.Z) ∧ W.cell? ⟨w.heap.size, 3, none⟩ = some (.slice a1 S.np c1)) ∧ W.cell? ⟨w.heap.size + 1, 0, none⟩ = some (.int .i64 p) ∧ W.cell? ⟨w.heap.size + 1, 1, none⟩ = some (.int .i64 j))) (by kernel_rfl) hS0 (fun hHeld => ?_)
    (refine wpAnyH_take (i := 0) (v := ?_) rfl (by kernel_rfl) (by kernel_rfl) (by kernel_rfl) (fun _ _ _ h => h) (Or.inl ⟨by rfl, ?_⟩) (by assumption) ?_; rotate_left; (focus (intro w hSw; (try dsimp only at hSw); go_simp; (try with_reducible rfl))); (try simp only [List.getElem_toArray, List.getElem_cons_zero, List.getElem_cons_succ, Act.put, List.setIfInBounds_toArray, List.set_cons_zero, List.set_cons_succ])); (refine wpAnyH_take (i := 1) (v := ?_) rfl (by kernel_rfl) (by kernel_rfl) (by kernel_rfl) (fun _ _ _ h => h) (Or.inl ⟨by rfl, ?_⟩) (by assumption) ?_; rotate_left; (focus (intro w hSw; (try dsimp only at hSw); go_simp; (try with_reducible rfl))); (try simp only [List.getElem_toArray, List.getElem_cons_zero, List.getElem_cons_succ, Act.put, List.setIfInBounds_toArray, List.set_cons_zero, List.set_cons_succ])); (refine wpAnyH_take (i := 2) (v := ?_) rfl (by kernel_rfl) (by kernel_rfl) (by kernel_rfl) (fun _ _ _ h => h) (Or.inl ⟨by rfl, ?_⟩) (by assumption) ?_; rotate_left; (focus (intro w hSw; (try dsimp only at hSw); go_simp; (try with_reducible rfl))); (try simp only [List.getElem_toArray, List.getElem_cons_zero, List.getElem_cons_succ, Act.put, List.setIfInBounds_toArray, List.set_cons_zero, List.set_cons_succ]))
    refine wpAnyH_ready (rs := [3]) (by kernel_rfl) (by simp) ?_; refine AllReadyH.cons rfl (fun K hK => ?_) AllReadyH.nil; go_simp
    go_at_call 24
    refine (isMark_some N _ S p j _ (HBK.out.go (Below.refl _ _).drew)).mono ?_
    rintro e w1 ⟨b1, rfl, hbm, hb1⟩
    have HB1 : Hid (Below ws.heap.size ws w1) := (Below.refl _ _).drew.trans hb1
    have hS1 := HSQ.out w1 HB1.out
    have HCL : Hid (errC (okS S) b1 (allIn S) = er) := by
      refine Eq.trans ?_ HER.out
      cases hk : okS S with
      | true => rw [hbm hk]
      | false => rfl
    clear hb1 hbm
    refine hK.out _ _ hS1 (fun hHeld => ?_); clear hK K; (try simp only [List.getElem_toArray, List.getElem_cons_zero, List.getElem_cons_succ, Act.put, List.setIfInBounds_toArray, List.set_cons_zero, List.set_cons_succ])
    refine wpAnyH_ready (rs := [4]) (by kernel_rfl) (by simp) ?_; refine AllReadyH.cons rfl (fun K hK => ?_) AllReadyH.nil; go_simp
    go_at_call 78
    refine (closed_any N _ S b1 _ (HBK.out.go HB1.out)).mono ?_
    rw [HCL.out]
    rintro e w2 ⟨rfl, hb2⟩
    have HB2 : Hid (Below ws.heap.size ws w2) := bel HB1.out hb2
    have hS2 := HSQ.out w2 HB2.out
    clear hb2 hS1
    refine hK.out _ _ hS2 (fun hHeld => ?_); clear hK K; (try simp only [List.getElem_toArray, List.getElem_cons_zero, List.getElem_cons_succ, Act.put, List.setIfInBounds_toArray, List.set_cons_zero, List.set_cons_succ])
    (refine wpAnyH_take (i := 5) (v := ?_) rfl (by kernel_rfl) (by kernel_rfl) (by kernel_rfl) (fun _ _ _ h => h) (Or.inl ⟨by rfl, ?_⟩) (by assumption) ?_; rotate_left; (focus (intro w hSw; (try dsimp only at hSw); go_simp; (try with_reducible rfl))); (try simp only [List.getElem_toArray, List.getElem_cons_zero, List.getElem_cons_succ, Act.put, List.setIfInBounds_toArray, List.set_cons_zero, List.set_cons_succ]))
    refine wpAnyH_done (by kernel_rfl) ?_ _; clear hHeld
    clear hS2
    obtain ⟨⟨r0, r1, r2, r3⟩, m0, m1⟩ := HSQ.out w2 HB2.out
    clear hws
    have HZs := Lib.hid ((HB2.out.block _ hszs).trans HZ1.out)
    have x0 := cell_blk HZs.out 0 rfl
    have x1 := cell_blk HZs.out 1 rfl
    have e0 := free_blk HZs.out 0
    have e1 := free_blk HZs.out 1
    go_wp2_with fail
    obtain ⟨w6, hw6, hz6, ho6, hb6⟩ := put2o HZs.out (.int .i64 0) (.int .i64 0)
    rw [hw6]
    have s0 := cell_blk hz6 0 rfl
    have s1 := cell_blk hz6 1 rfl
    have hbf : Below w.heap.size w w6 := HB.out.trans ((HB2.out.mono HB.out.size).trans (hb6.mono HVW.out))
    exact bodyPost_ret (v := .tuple #[.agg #[.int .i64 0, .int .i64 0], .int .i64 er]) (by simp [results, Try.results52, go_sem, s0, s1]) rfl ⟨by first | rw [sp_ok, sp_ok] | rw [HSL.out, HSH.out], hbf⟩

end Go.Proofs.Ytffnlimgjnhmpaa

namespace Go.Proofs.Ytffnlimgjnhmpaa
open Go.RowKit

set_option maxHeartbeats 6400000 in
set_option maxRecDepth 100000 in
theorem rDecide_any (N : Nat) (v : Value) (S : JB) (er : Int) (w : World) (h : ShowAt N w v S) (her : errC (okS S) true (allIn S) = er) :
    Calls Try.prog 53 #[v] w fun e w' => ∃ u, e = .returned (.tuple #[u, .int .i64 er]) ∧ OwnI w.heap.size w' u (spL er (dec S)) ∧ Below w.heap.size w w' := by
  obtain ⟨a1, c1, rfl⟩ := h.form
  obtain ⟨ws, hws, HB, hsz, hblk⟩ := box1 w (.cells #[.int .i64 S.J, .int .i64 S.D, .int .i64 S.Z, .slice a1 S.np c1] 24)
  have q0 := cell_blk hblk 0 rfl
  have q1 := cell_blk hblk 1 rfl
  have q2 := cell_blk hblk 2 rfl
  have q3 := cell_blk hblk 3 rfl
  have HNZ : Hid (N ≤ w.heap.size) := h.1
  have HBK := Lib.hid (h.go HB.out)
  have HB0 : Hid (Below ws.heap.size ws ws) := Below.refl _ _
  have HNS : Hid (N ≤ ws.heap.size) := HBK.out.1
  have hlen := h.len
  clear hblk h
  have HER := Lib.hid her
  have HSQ : Hid (∀ W, Below ws.heap.size ws W → (W.cell? ⟨w.heap.size, 0, none⟩ = some (.int .i64 S.J) ∧ W.cell? ⟨w.heap.size, 1, none⟩ = some (.int .i64 S.D) ∧ W.cell? ⟨w.heap.size, 2, none⟩ = some (.int .i64 S.Z) ∧ W.cell? ⟨w.heap.size, 3, none⟩ = some (.slice a1 S.np c1))) := fun W hW => ⟨(hW.cell (p := ⟨w.heap.size, 0, none⟩) hsz).trans q0, (hW.cell (p := ⟨w.heap.size, 1, none⟩) hsz).trans q1, (hW.cell (p := ⟨w.heap.size, 2, none⟩) hsz).trans q2, (hW.cell (p := ⟨w.heap.size, 3, none⟩) hsz).trans q3⟩
  by_cases h0 : er = 0
  · subst h0
    obtain ⟨hok, _, _⟩ := errC_ok her
    have HG := Lib.hid (okS_good hok)
    have hnp6 : S.np ≤ 6 := HG.out.np
    have hJ1 := HG.out.J1
    have hJ5 := HG.out.J5
    obtain ⟨jn, hjn⟩ : ∃ jn : Nat, S.J = jn := ⟨S.J.toNat, by omega⟩
    have HJN : Hid (S.J.toNat = jn) := by unfold Hid; omega
    have hj5 : jn ≤ 5 := by omega
    have HJI := Lib.hid hjn
    clear hok her hjn
    go_enter Try.func53, Try.ntmps53
    go_wp2_with (go_at_call 78; refine (closed_any N _ S true _ HBK.out).mono ?_; rw [HER.out]; rintro e w1 ⟨rfl, hb1⟩; have HB1 : Hid (Below ws.heap.size ws w1) := hb1; clear hb1)
    clear hws q0 q1 q2 q3
    go_loopw [5, 6] (fun u i wr => ∃ m : Nat, m ≤ jn ∧ i = .int .i64 m ∧ Hid (OwnI ws.heap.size wr u (sel (fun k => !decide (getL (withoutJ S k) = getL S)) m)) ∧ Hid (Below ws.heap.size ws wr)) (fun _ i _ => jn - (intOf i).toNat)
    case atStart => exact ⟨0, Nat.zero_le _, rfl, OwnI.nil _ _, HB1⟩
    case round =>
      obtain ⟨m, hm, rfl, HO, HBr⟩ := hrel
      have hSr := HSQ.out wr HBr.out
      obtain ⟨r0, r1, r2, r3⟩ := HSQ.out wr HBr.out
      by_cases hmn : m < jn
      · have hmi : (m : Int) < S.J := by have := HJI.out; omega
        have HMJ := Lib.hid hmi
        obtain ⟨bb, hbb⟩ : ∃ bb, decide (getL (withoutJ S m) = getL S) = bb := ⟨_, rfl⟩
        have HBB := Lib.hid hbb
        have HRW : Hid (RdS (withoutJ S m)) := without_rd HG.out hmi
        have HLM : Hid (∀ i, i < (withoutJ S m).np → ((withoutJ S m).pts i).length ≤ 1000) := fun i hi => Nat.le_trans (HRW.out.len i hi).2 (by omega)
        clear hbb
        go_upto_region 8 with fail
        clear r0 r1 r2 r3
        refine wp_region_held_drew (S := fun W => (W.cell? ⟨w.heap.size, 0, none⟩ = some (.int .i64 S.J) ∧ W.cell? ⟨w.heap.size, 1, none⟩ = some (.int .i64 S.D) ∧ W.cell? ⟨w.heap.size, 2, none⟩ = some (.int .i64 S.Z) ∧ W.cell? ⟨w.heap.size, 3, none⟩ = some (.slice a1 S.np c1))) (by kernel_rfl) hSr (fun hHeld => ?_)
        (refine wpAnyH_take (i := 0) (v := ?_) rfl (by kernel_rfl) (by kernel_rfl) (by kernel_rfl) (fun _ _ _ h => h) (Or.inl ⟨by rfl, ?_⟩) (by assumption) ?_; rotate_left; (focus (intro w hSw; (try dsimp only at hSw); go_simp; (try with_reducible rfl))); (try simp only [List.getElem_toArray, List.getElem_cons_zero, List.getElem_cons_succ, Act.put, List.setIfInBounds_toArray, List.set_cons_zero, List.set_cons_succ])); (refine wpAnyH_take (i := 1) (v := ?_) rfl (by kernel_rfl) (by kernel_rfl) (by kernel_rfl) (fun _ _ _ h => h) (Or.inl ⟨by rfl, ?_⟩) (by assumption) ?_; rotate_left; (focus (intro w hSw; (try dsimp only at hSw); go_simp; (try with_reducible rfl))); (try simp only [List.getElem_toArray, List.getElem_cons_zero, List.getElem_cons_succ, Act.put, List.setIfInBounds_toArray, List.set_cons_zero, List.set_cons_succ]))
        (refine wpAnyH_take (i := 4) (v := ?_) rfl (by kernel_rfl) (by kernel_rfl) (by kernel_rfl) (fun _ _ _ h => h) (Or.inl ⟨by rfl, ?_⟩) (by assumption) ?_; rotate_left; (focus (intro w hSw; (try dsimp only at hSw); go_simp; (try with_reducible rfl))); (try simp only [List.getElem_toArray, List.getElem_cons_zero, List.getElem_cons_succ, Act.put, List.setIfInBounds_toArray, List.set_cons_zero, List.set_cons_succ]))
        refine wpAnyH_ready (rs := [2]) (by kernel_rfl) (by simp) ?_; refine AllReadyH.cons rfl (fun K hK => ?_) AllReadyH.nil; go_simp
        go_at_call 79
        refine (rWithout_any N _ S m _ (HBK.out.go (HBr.out.drew)) HG.out HMJ.out).mono ?_
        rintro e w5 ⟨v5, rfl, ho5, hb5⟩
        have HB5 : Hid (Below wr.heap.size wr w5) := (Below.refl _ _).drew.trans hb5
        have HS5 := Lib.hid (ho5.show (Nat.le_trans hnp6 (by omega)) HLM.out)
        have hS5 := HSQ.out w5 (bel HBr.out HB5.out)
        clear hb5 ho5 hSr
        refine hK.out _ _ hS5 (fun hHeld => ?_); clear hK K; (try simp only [List.getElem_toArray, List.getElem_cons_zero, List.getElem_cons_succ, Act.put, List.setIfInBounds_toArray, List.set_cons_zero, List.set_cons_succ])
        refine wpAnyH_ready (rs := [3]) (by kernel_rfl) (by simp) ?_; refine AllReadyH.cons rfl (fun K hK => ?_) AllReadyH.nil; go_simp
        go_at_call 41
        refine (get_any _ _ (withoutJ S m) _ HS5.out HRW.out).mono ?_
        rintro e w6 ⟨u6, rfl, ho6, hb6⟩
        have HB6 : Hid (Below wr.heap.size wr w6) := bel HB5.out hb6
        have HO6 := Lib.hid ho6
        have hS6 := HSQ.out w6 (bel HBr.out HB6.out)
        clear hb6 ho6 hS5
        refine hK.out _ _ hS6 (fun hHeld => ?_); clear hK K; (try simp only [List.getElem_toArray, List.getElem_cons_zero, List.getElem_cons_succ, Act.put, List.setIfInBounds_toArray, List.set_cons_zero, List.set_cons_succ])
        refine wpAnyH_ready (rs := [5]) (by kernel_rfl) (by simp) ?_; refine AllReadyH.cons rfl (fun K hK => ?_) AllReadyH.nil; go_simp
        go_at_call 41
        refine (get_any N _ S _ (HBK.out.go (bel HBr.out HB6.out)) HG.out.rd).mono ?_
        rintro e w7 ⟨u7, rfl, ho7, hb7⟩
        have HB7 : Hid (Below wr.heap.size wr w7) := bel HB6.out hb7
        have HO7 := Lib.hid (And.intro (HO6.out.go hb7) ho7)
        have hS7 := HSQ.out w7 (bel HBr.out HB7.out)
        clear hb7 ho7 hS6
        refine hK.out _ _ hS7 (fun hHeld => ?_); clear hK K; (try simp only [List.getElem_toArray, List.getElem_cons_zero, List.getElem_cons_succ, Act.put, List.setIfInBounds_toArray, List.set_cons_zero, List.set_cons_succ])
        refine wpAnyH_ready (rs := [6]) (by kernel_rfl) (by simp) ?_; refine AllReadyH.cons rfl (fun K hK => ?_) AllReadyH.nil; go_simp
        go_at_call 40
        refine (same_own _ _ _ _ _ _ _ HO7.out.1 HO7.out.2 (Nat.le_trans (getL_len _) (Nat.le_trans hnp6 (by omega))) (Nat.le_trans (getL_len _) (Nat.le_trans hnp6 (by omega)))).mono ?_
        rw [HBB.out]
        rintro e w8 ⟨rfl, hb8⟩
        have HB8 : Hid (Below wr.heap.size wr w8) := bel HB7.out hb8
        have hS8 := HSQ.out w8 (bel HBr.out HB8.out)
        clear hb8 hS7
        refine hK.out _ _ hS8 (fun hHeld => ?_); clear hK K; (try simp only [List.getElem_toArray, List.getElem_cons_zero, List.getElem_cons_succ, Act.put, List.setIfInBounds_toArray, List.set_cons_zero, List.set_cons_succ])
        (refine wpAnyH_take (i := 7) (v := ?_) rfl (by kernel_rfl) (by kernel_rfl) (by kernel_rfl) (fun _ _ _ h => h) (Or.inl ⟨by rfl, ?_⟩) (by assumption) ?_; rotate_left; (focus (intro w hSw; (try dsimp only at hSw); go_simp; (try with_reducible rfl))); (try simp only [List.getElem_toArray, List.getElem_cons_zero, List.getElem_cons_succ, Act.put, List.setIfInBounds_toArray, List.set_cons_zero, List.set_cons_succ]))
        refine wpAnyH_done (by kernel_rfl) ?_ _; clear hHeld
        clear hS8
        have HOP := Lib.hid (HO.out.go HB8.out)
        have HBX : Hid (Below ws.heap.size ws w8) := bel HBr.out HB8.out
        have HSL := Lib.hid (sel_len (fun k => !decide (getL (withoutJ S k) = getL S)) m)
        cases bb with
        | true =>
          have HE : Hid (sel (fun k => !decide (getL (withoutJ S k) = getL S)) (m + 1) = sel (fun k => !decide (getL (withoutJ S k) = getL S)) m) := sel_miss (by rw [HBB.out]; rfl)
          go_wp2_with fail
          go_roundw
          case rel => exact ⟨m + 1, by omega, by go_num, by unfold Hid; rw [HE.out]; exact HOP.out, HBX.out⟩
          case measure => simp [intOf]; omega
        | false =>
          have HE : Hid (sel (fun k => !decide (getL (withoutJ S k) = getL S)) (m + 1) = sel (fun k => !decide (getL (withoutJ S k) = getL S)) m ++ [(m : Int)]) := sel_hit (by rw [HBB.out]; rfl)
          go_wp2_with (at_builtin; go_must (refine wpList_appI w8 rfl _ _ rfl rfl ws.heap.size _ _ m HOP.out HBX.out.size (by have := HSL.out; omega) rfl rfl ?_); intro v9 w9 ho9 hb9)
          go_roundw
          case rel => exact ⟨m + 1, by omega, by go_num, by unfold Hid; rw [HE.out]; exact ho9, HBX.out.trans hb9⟩
          case measure => simp [intOf]; omega
      · have hmi : ¬ (m : Int) < S.J := by have := HJI.out; omega
        have hme : m = jn := by omega
        have HME := Lib.hid hme
        clear hme
        go_wp2_with fail
        go_ret2
        have h1 := HO.out
        rw [HME.out] at h1
        exact ⟨_, rfl, by unfold dec; rw [HJN.out]; exact own_mono h1 HB.out.size, fin HB.out HBr.out⟩
  · have hne : (er != 0) = true := by simpa using h0
    have HS1 : Hid (spL er (dec S) = []) := spL_no h0 _
    clear h0 her
    go_enter Try.func53, Try.ntmps53
    go_wp2_with (go_at_call 78; refine (closed_any N _ S true _ HBK.out).mono ?_; rw [HER.out]; rintro e w1 ⟨rfl, hb1⟩; have HB1 : Hid (Below ws.heap.size ws w1) := hb1; clear hb1)
    go_ret2
    exact ⟨_, rfl, by rw [HS1.out]; exact OwnI.nil _ _, fin HB.out HB1.out⟩

end Go.Proofs.Ytffnlimgjnhmpaa
