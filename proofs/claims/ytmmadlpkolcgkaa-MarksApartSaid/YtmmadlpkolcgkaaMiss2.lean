import Derived.Test.YtmmadlpkolcgkaaMiss
namespace Go.Proofs.Ytmmadlpkolcgkaa
open Go.RowKit Go.Shelf

attribute [local go_sem] Oper.semAt_some

theorem keeps_below {W W' : World} (h : Below W.heap.size W W') : KeepsOthers W W' :=
  ⟨h.size, fun k o hk _ => (h.block k (Array.getElem?_eq_some_iff.1 hk).1).trans hk⟩

/-- of the fruits of which the mark was looked at: how many values are not right -/
def bad (R : Fr) (m : Nat) (r : Nat → Int → Bool) (k : Nat) : Nat := cnt k fun f => decide (R.X f m ≠ -1) && !r f (R.X f m)

theorem bad_vis (R : Fr) (m : Nat) (r : Nat → Int → Bool) (k : Nat) : ((vis R m k).filter fun x => !r x.1 x.2).length = bad R m r k := by
  unfold bad
  induction k with
  | zero => rfl
  | succ k ih =>
    unfold vis cnt
    split
    · rename_i h; rw [ih]; simp [h]
    · rename_i h
      rw [List.filter_append, List.length_append, ih]
      cases hr : r k (R.X k m) <;> simp [hr, h]

set_option maxRecDepth 100000 in
set_option maxHeartbeats 4000000 in
theorem misses_any (N m : Nat) (v1 v2 v3 vw : Value) (lb : Array Value) (ao : Option Addr) (cap : Nat) (R : Fr) (r : Nat → Int → Bool) (w : World) (hN : N ≤ w.heap.size)
    (hf : FruitsAt N w (.slice ao R.n cap) R) (hm : ∀ f, f < R.n → m < R.L f)
    (hright : ∀ (W : World) (f : Nat) (s : Int), Below w.heap.size w W → Calls Try.prog 105 (#[.int .i64 f, .int .i64 s] ++ lb) W fun e W' => e = .returned (.bool (r f s)) ∧ Below W.heap.size W W') :
    Calls Try.prog 104 #[.agg #[v1, v2, v3, vw, .slice ao R.n cap], .int .i64 m, .func (.func 105) #[] lb] w fun e W' => e = .returned (.int .i64 (bad R m r R.n)) ∧ Below w.heap.size w W' := by
  have hlen := RowsAt.len hf
  have HR : Hid _ := Lib.hid hright
  have HF : Hid _ := Lib.hid hf
  have HM : Hid _ := Lib.hid hm
  clear hright hf hm
  refine (callsIn_wide (n := 3)).1 ?_
  refine callsIn_of_wp_marks Try.func104 rfl trivial ?_ rfl
  simp only [Try.ntmps104, List.size_toArray, List.length_cons, List.length_nil, Nat.reduceAdd, Nat.reduceSub, Array.replicate_succ, Array.replicate_zero, List.push_toArray, List.append_toArray, List.nil_append, List.cons_append]
  gi_wp2_with (refine ⟨trivial, ?_⟩; gi_at_call 106; refine (callsIn_wide.2 (looked_any _ _ _ _ _ _ _)).mono ?_; rintro e w' ⟨rfl, rfl⟩)
  obtain ⟨ws, hws⟩ : ∃ ws : World, (((((w.alloc (.cells #[v1, v2, v3, vw, .slice ao R.n cap] 93)).alloc (.cells #[.func (.func 105) #[] lb] 106)).alloc (.cells #[.int .i64 0] 3)).alloc (.cells #[v1, v2, v3, vw, .slice ao R.n cap] 93)).alloc (.cells #[.int .i64 m] 3)) = ws := ⟨_, rfl⟩
  have hsz : ws.heap.size = w.heap.size + 5 := by rw [← hws]; simp
  have hB0 : Below w.heap.size w ws := by
    rw [← hws]; exact (((((Below.refl _ w).alloc (Nat.le_refl _) _).alloc (by simp) _).alloc (by simp; omega) _).alloc (by simp; omega) _).alloc (by simp; omega) _
  have hcm : ws.cell? ⟨w.heap.size + 1 + 1, 0, none⟩ = some (.int .i64 0) ∧ ws.frozen? ⟨w.heap.size + 1 + 1, 0, none⟩ = false := by
    rw [← hws]; constructor <;> simp [go_sem]
  have hcr : ws.cell? ⟨w.heap.size + 1, 0, none⟩ = some (.func (.func 105) #[] lb) := by
    rw [← hws]; simp [go_sem]
  have hcx : ws.cell? ⟨w.heap.size + 1 + 1 + 1, 4, none⟩ = some (.slice ao R.n cap) := by
    rw [← hws]; simp [go_sem]
  have hck : ws.cell? ⟨w.heap.size + 1 + 1 + 1 + 1, 0, none⟩ = some (.int .i64 m) := by
    rw [← hws]; simp [go_sem]
  rw [hws]
  clear hws
  refine wpIn_rangeFunc_ownF (N := R.n) (S := fun ys => ys = vis R m R.n) (Sp := fun _ => True) (Kp := But (w.heap.size + 5) (w.heap.size + 2)) (encs := fun x : Nat × Int => #[.int .i64 (x.1 : Int), .int .i64 x.2]) (w0 := ws) rfl (by omega) (gf := 107) (lb := #[.pointer (some ⟨w.heap.size + 1 + 1 + 1, 0, none⟩), .pointer (some ⟨w.heap.size + 1 + 1 + 1 + 1, 0, none⟩)]) rfl trivial (enters_of Try.func107 (by kernel_rfl) rfl)
    (fun l J Jx W hW _ _ hY h0 => looked1_in 2 (by omega) l (w.heap.size + 3) (w.heap.size + 4) (w.heap.size + 5) (w.heap.size + 2) N ao cap m R (by omega) (by omega) (by omega) (by omega) (by omega) (by omega) J Jx hY W
      ((hW.cell (p := ⟨w.heap.size + 3, 4, none⟩) (by show w.heap.size + 3 < _; omega)).trans hcx) ((hW.cell (p := ⟨w.heap.size + 4, 0, none⟩) (by show w.heap.size + 4 < _; omega)).trans hck)
      (RowsAt.mono HF.out ((hB0.mono hN).trans (hW.mono (by omega))) (Nat.le_refl _)) HM.out h0)
    (fun h k => h.trans k) (fun W l o o' hl _ _ _ k hk _ => by
      have : k ≠ l := by omega
      exact (grownBy_putObj' W l o').block k (by
        rename_i h1 _ _ _
        have := (Array.getElem?_eq_some_iff.1 h1).1
        omega) (fun e => by cases e; omega))
    (Below.refl _ _) (fun _ => rfl)
    (fun pre W => (W.cell? ⟨w.heap.size + 1 + 1, 0, none⟩ = some (.int .i64 ((pre.filter fun x => !r x.1 x.2).length : Nat)) ∧ W.frozen? ⟨w.heap.size + 1 + 1, 0, none⟩ = false) ∧ Below (w.heap.size + 2) ws W)
    (fun _ _ _ => False)
    (OwnFrom.and (Own.from (fun s A B row hs hg hr => ⟨cell_kept hs.1 hg hr, (frozen_kept hs.1 hg hr).trans hs.2⟩) _) (ownFrom_below (by omega) (by omega)))
    (fun _ _ _ _ _ hs _ _ => hs)
    ⟨hcm, Below.refl _ _⟩
    (fun x => { tmps := #[.agg #[v1, v2, v3, vw, .slice ao R.n cap], .int .i64 m, .func (.func 105) #[] lb, .pointer (some ⟨w.heap.size, 0, none⟩), undef, .pointer (some ⟨w.heap.size + 1, 0, none⟩), .int .i64 0, .pointer (some ⟨w.heap.size + 1 + 1, 0, none⟩), .int .i64 (x.1 : Int), .int .i64 x.2, .agg #[v1, v2, v3, vw, .slice ao R.n cap], .int .i64 m,
      .func (.func 107) #[] #[.pointer (some ⟨w.heap.size + 1 + 1 + 1, 0, none⟩), .pointer (some ⟨w.heap.size + 1 + 1 + 1 + 1, 0, none⟩)], .int .i64 (x.1 : Int), .int .i64 x.2, undef, undef, undef, undef, undef, undef, undef, undef], defers := [] }) ?assign ?body ?done ?stop
  case assign =>
    intro l x W K hK
    gi_wp2
    exact hK
  case body =>
    rintro l pre x W ⟨⟨hc, hfz⟩, hB⟩ hpl
    have hcr2 : W.cell? ⟨w.heap.size + 1, 0, none⟩ = some (.func (.func 105) #[] lb) := (hB.cell (p := ⟨w.heap.size + 1, 0, none⟩) (by show w.heap.size + 1 < _; omega)).trans hcr
    have hWs : w.heap.size + 5 ≤ W.heap.size := by have := hB.size; omega
    have hlt : ((pre.filter fun x => !r x.1 x.2).length : Int) ≤ 140737488351232 := by
      have := List.length_filter_le (fun x : Nat × Int => !r x.1 x.2) pre; omega
    have HW : Hid (Below w.heap.size w W) := hB0.trans (hB.mono (by omega))
    cases hrx : r x.1 x.2 with
    | true =>
      have HX : Hid _ := Lib.hid hrx
      have HE : Hid (((pre ++ [x]).filter (fun x => !r x.1 x.2)).length = (pre.filter fun x => !r x.1 x.2).length) := by
        unfold Hid; rw [List.filter_append]; simp [hrx]
      clear hrx
      generalize (pre.filter fun x => !r x.1 x.2).length = c at *
      gi_wp2_with (refine ⟨trivial, ?_⟩; gi_at_call 105; refine (CallsIn.inRound l (callsIn_wide.2 (HR.out _ _ _ HW.out))).mono ?_; rintro e w1 ⟨rfl, hb1⟩; rw [HX.out]; have hc1 := (hb1.cell (p := ⟨w.heap.size + 1 + 1, 0, none⟩) (by show w.heap.size + 1 + 1 < _; omega)).trans hc; have hfz1 := (hb1.frozen (p := ⟨w.heap.size + 1 + 1, 0, none⟩) (by show w.heap.size + 1 + 1 < _; omega)).trans hfz)
      exact ⟨keeps_below hb1, fun k h1 _ => hb1.block k (by omega), ⟨by rw [HE.out]; exact hc1, hfz1⟩, hB.trans (hb1.mono (by omega))⟩
    | false =>
      have HX : Hid _ := Lib.hid hrx
      have HE : Hid (((pre ++ [x]).filter (fun x => !r x.1 x.2)).length = (pre.filter fun x => !r x.1 x.2).length + 1) := by
        unfold Hid; rw [List.filter_append]; simp [hrx]
      clear hrx
      generalize (pre.filter fun x => !r x.1 x.2).length = c at *
      gi_wp2_with (refine ⟨trivial, ?_⟩; gi_at_call 105; refine (CallsIn.inRound l (callsIn_wide.2 (HR.out _ _ _ HW.out))).mono ?_; rintro e w1 ⟨rfl, hb1⟩; rw [HX.out]; have hc1 := (hb1.cell (p := ⟨w.heap.size + 1 + 1, 0, none⟩) (by show w.heap.size + 1 + 1 < _; omega)).trans hc; have hfz1 := (hb1.frozen (p := ⟨w.heap.size + 1 + 1, 0, none⟩) (by show w.heap.size + 1 + 1 < _; omega)).trans hfz)
      exact ⟨(keeps_below hb1).trans (KeepsOthers.setCell _ _ _), But.trans (fun k h1 _ => hb1.block k (by omega)) (fun k _ h => Below.heap_setCell _ _ _ _ h), ⟨by rw [HE.out]; exact World.cell?_setCell_same' _ _ _ (by rw [hc1]; rfl), by rw [World.frozen?_setCell]; exact hfz1⟩, (hB.trans (hb1.mono (by omega))).setCell (p := ⟨w.heap.size + 1 + 1, 0, none⟩) (Nat.le_refl _) _⟩
  case done =>
    rintro D ys W hD rfl ⟨⟨hc, _⟩, hB⟩ hK
    rw [bad_vis] at hc
    gi_wp2
    refine ⟨by simp, .inl ⟨_, _, rfl, run_takeDeferred hK, ?_⟩⟩
    exact ⟨_, results_tmp rfl _ _ _, rfl, (hB0.trans (hB.mono (by omega))).trans (belowK_b (w := w) (Nat.le_refl _) W D _ _ (by omega) hK rfl rfl)⟩
  case stop =>
    rintro D c pre W hD _ h _
    exact h.elim

end Go.Proofs.Ytmmadlpkolcgkaa
