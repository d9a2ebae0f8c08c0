import Derived.Test.YtmmadlpkolcgkaaValid
namespace Go.Proofs.Ytmmadlpkolcgkaa
open Go.RowKit

/-- a cell of a block that was made, in a later world -/
theorem box_cell {w wr : World} {cs : Array Value} {t : TypeId} (hB : Below (w.heap.size + 1) (w.alloc (.cells cs t)) wr) (i : Nat) {x : Value} (hx : cs[i]? = some x) : wr.cell? ⟨w.heap.size, i, none⟩ = some x :=
  (hB.cell (p := ⟨w.heap.size, i, none⟩) (Nat.lt_succ_self _)).trans (by rw [World.cell?_alloc_new]; exact hx)

theorem below_of {w wr : World} {o : Obj} (hB : Below (w.heap.size + 1) (w.alloc o) wr) : Below w.heap.size w wr :=
  (below_alloc (Nat.le_refl _) o).trans (hB.mono (Nat.le_succ _))

set_option maxHeartbeats 800000 in
theorem validSorts_any (N : Nat) (v : Value) (B : Bk) (w : World) (h : BookAt N w v B) (hm : okMarks B = true) :
    Calls Try.prog 88 #[v] w fun e w' => e = .returned (.bool (okSorts B)) ∧ Below w.heap.size w w' := by
  obtain ⟨hN, a1, c1, a2, c2, a3, c3, rfl, h1, h2, h3⟩ := h
  have hns := h3.len
  have hnv := h1.len
  have HB : Hid (Below w.heap.size w (w.alloc (.cells #[.slice a1 B.nv c1, .slice a2 B.nf c2, .slice a3 B.ns c3, .int .i64 B.wr] 25))) := below_alloc (Nat.le_refl _) _
  have H1 : Hid _ := Lib.hid h1
  have H3 : Hid _ := Lib.hid h3
  clear h1 h2 h3 hm
  by_cases h8 : B.ns ≤ 8
  · have h8' : (B.ns : Int) ≤ 8 := by omega
    have H8 : Hid (B.ns ≤ 8) := h8
    clear h8
    go_enter Try.func88, Try.ntmps88
    go_wp2
    go_loopw [14] (fun i wr => ∃ k : Nat, k ≤ B.ns ∧ i = .int .i64 k ∧ Hid (∀ j, j < k → okSort B j = true) ∧ Below (w.heap.size + 1) (w.alloc (.cells #[.slice a1 B.nv c1, .slice a2 B.nf c2, .slice a3 B.ns c3, .int .i64 B.wr] 25)) wr) (fun i _ => B.ns - (intOf i).toNat)
    case atStart => exact ⟨0, Nat.zero_le _, rfl, fun j hj => absurd hj (Nat.not_lt_zero j), Below.refl _ _⟩
    case round =>
      obtain ⟨k, hk, rfl, hj, hBel⟩ := hrel
      have hwo := below_of hBel
      by_cases hkn : k < B.ns
      · have h3' := SortsAt.mono H3.out (hwo.mono hN) (Nat.le_refl _)
        have h1' := IntsAt.mono H1.out (hwo.mono hN) (Nat.le_refl _)
        have hb0 := box_cell hBel 0 rfl
        have hb2 := box_cell hBel 2 rfl
        have hsz : w.heap.size < wr.heap.size := by have := hBel.size; simp at this; omega
        obtain ⟨_, _, e3, _, hc3⟩ := h3'
        cases e3
        obtain ⟨b3, off3, rfl, hb3, hr3⟩ := hc3 (by omega)
        obtain ⟨r3, hcell3, hrows⟩ := hr3 k hkn
        obtain ⟨ao, cap, rfl, hnc, hcr⟩ := hrows
        clear hc3 hr3
        have hfin : Hid (Below (w.heap.size + 1) (w.alloc (.cells #[.slice a1 B.nv c1, .slice a2 B.nf c2, .slice (some ⟨b3, off3, none⟩) B.ns c3, .int .i64 B.wr] 25)) (wr.alloc (.cells #[.slice ao (B.nc k) cap] 73))) := hBel.alloc (by omega) _
        have HW : Hid (Below w.heap.size w wr) := Lib.hid hwo
        have Hhj := hj
        clear hBel hwo hj
        by_cases hc : B.nc k = B.nv
        · have hE : ((B.nc k : Int) != (B.nv : Int)) = false := by simp; omega
          have HC : Hid (B.nc k = B.nv) := hc
          clear hc
          go_wp2
          obtain ⟨wo, HWO⟩ : ∃ wo, Hid (wo = wr.alloc (.cells #[.slice ao (B.nc k) cap] 73)) := ⟨_, rfl⟩
          go_loop [28] (fun i => ∃ m : Nat, m ≤ B.nc k ∧ i = .int .i64 m ∧ Hid (∀ j, j < m → okCan (B.ncc k j) (B.can k j) (B.V j) = true)) (fun i => B.nc k - (intOf i).toNat)
          case atStart => exact ⟨0, Nat.zero_le _, rfl, fun j hj => absurd hj (Nat.not_lt_zero j)⟩
          case round =>
            obtain ⟨m, hm, rfl, hj2⟩ := hrel
            by_cases hmn : m < B.nc k
            · obtain ⟨b4, off4, rfl, hb4, hr4⟩ := hcr (by omega)
              obtain ⟨r4, hcell4, hints⟩ := hr4 m hmn
              obtain ⟨_, _, e1, _, hc1⟩ := h1'
              cases e1
              obtain ⟨b1, off1, rfl, hb1, hr1⟩ := hc1 (by have := HC.out; omega)
              obtain ⟨r1, hcell1, rfl⟩ := hr1 m (by have := HC.out; omega)
              have hmv : (m : Int) < (B.nv : Int) := by have := HC.out; omega
              clear hr4 hcr hc1 hr1
              have hints2 : Hid (IntsAt N (wr.alloc (.cells #[.slice (some ⟨b4, off4, none⟩) (B.nc k) cap] 73)) r4 (B.ncc k m) (B.can k m)) := hints.mono (below_alloc (by omega) _) (Nat.le_refl _)
              clear hints
              have hlt1 : b1 < wr.heap.size := by omega
              have hlt4 : b4 < wr.heap.size := by omega
              cases hok : okCan (B.ncc k m) (B.can k m) (B.V m) with
              | true =>
                have HOK : Hid _ := Lib.hid hok
                clear hok
                go_wp2_with (go_at_call 98; refine (validCan_any N _ _ _ _ _ hints2.out).mono ?_; rintro e w' ⟨rfl, rfl⟩; rw [HOK.out])
                go_round
                case rel => exact ⟨m + 1, by omega, by go_num, lt_succ hj2.out HOK.out⟩
                case measure => simp [intOf]; omega
              | false =>
                have HOK : Hid _ := Lib.hid hok
                clear hok
                go_wp2_with (go_at_call 98; refine (validCan_any N _ _ _ _ _ hints2.out).mono ?_; rintro e w' ⟨rfl, rfl⟩; rw [HOK.out])
                go_ret
                exact ⟨ret_bool (by unfold okSorts; rw [allB_succ_false (k := k) hkn (by unfold okSort; rw [allB_succ_false hmn HOK.out, Bool.and_false]), Bool.and_false]), below_of hfin.out⟩
            · have Hm : Hid (m = B.nc k) := by show m = _; omega
              go_wp2
              go_roundw
              case rel => exact ⟨k + 1, by omega, by go_num, lt_succ Hhj.out (by unfold okSort; rw [allB_true.2 (fun i hi => hj2.out i (by rw [Hm.out]; exact hi))]; simp [HC.out]), hfin.out⟩
              case measure => simp [intOf]; omega
        · have hE : ((B.nc k : Int) != (B.nv : Int)) = true := by simp; omega
          have HC : Hid (¬ B.nc k = B.nv) := hc
          clear hc
          go_wp2
          go_ret
          exact ⟨ret_bool (by unfold okSorts; rw [allB_succ_false (k := k) hkn (by unfold okSort; simp [HC.out]), Bool.and_false]), below_of hfin.out⟩
      · have Hk : Hid (k = B.ns) := by show k = _; omega
        have HW : Hid _ := Lib.hid hwo
        clear hwo hBel
        go_wp2
        go_ret
        exact ⟨ret_bool (by unfold okSorts; rw [allB_true.2 (fun i hi => hj.out i (by rw [Hk.out]; exact hi))]; simp [H8.out]), HW.out⟩
  · have h8' : 8 < (B.ns : Int) := by omega
    have H8 : Hid (¬ B.ns ≤ 8) := h8
    clear h8
    go_enter Try.func88, Try.ntmps88
    go_wp2
    go_ret
    exact ⟨ret_bool (by simp [okSorts, H8.out]), HB.out⟩

end Go.Proofs.Ytmmadlpkolcgkaa
