/-
  JRefB: TotalOf of the reference: exchanges until the row is in order, then the sum of the middle.
-/
import Derived.Test.YtffnlimgjnhmpaaJMem
namespace Go.Proofs.Ytffnlimgjnhmpaa
open Go.RowKit

theorem tot_le {d : Nat} {l : List Int} (hl : ∀ x, x ∈ l → -1 ≤ x ∧ x ≤ 1000) (hd : 2 * d ≤ l.length) : -(l.length : Int) ≤ tot d l ∧ tot d l ≤ 1000 * (l.length : Int) := by
  have h := psum_le (d := d) (L := srt l) (fun x hx => hl x ((srt_perm l).mem_iff.1 hx)) (l.length - d) (by omega) (by rw [srt_len]; omega)
  rw [psum_tot hd] at h
  omega

set_option maxHeartbeats 6400000 in
set_option maxRecDepth 100000 in
theorem totalOf_any (N : Nat) (v : Value) (l : List Int) (d : Nat) (w : World) (h : LI N w v l) (hN : N ≤ w.heap.size) (hl : l.length ≤ 40) (hb : ∀ x, x ∈ l → -1 ≤ x ∧ x ≤ 1000) (hd : 2 * d ≤ l.length) :
    Calls Try.prog 20 #[v, .int .i64 d] w fun e w' => e = .returned (.int .i64 (tot d l)) ∧ Below w.heap.size w w' := by
  obtain ⟨a0, c0, rfl, _, _⟩ := id h
  have HLI := Lib.hid h
  have HBD := Lib.hid hb
  obtain ⟨n, hn⟩ : ∃ n, l.length = n := ⟨_, rfl⟩
  rw [hn] at h hl hd ⊢
  have HLI := Lib.hid h
  have HLN := Lib.hid hn
  clear h hb hn
  go_enter Try.func20, Try.ntmps20
  go_upto_region 2 with (at_builtin; go_must (refine wpList_cloneI _ rfl _ _ rfl rfl N w.heap.size _ n _ l HLN.out.symm rfl rfl (LI.go1 HLI.out hN) (by simp; omega) (by omega) ?_); intro v' w1 hi1 hb1; obtain ⟨a1, c1, rfl⟩ := hi1.form; rw [HLN.out] at hi1 ⊢; have HR := Lib.hid hi1; have HB1 := Lib.hid hb1; clear hi1 hb1)
  have HBw : Hid (Below w.heap.size w w1) := by
    have h1 := HB1.out
    refine (below_alloc (Nat.le_refl _) _).trans (h1.mono ?_)
    simp
  have HRw : Hid (RI w.heap.size w1 (.slice a1 n c1) l) := HR.out.lower (by simp)
  clear HR HB1
  go_upto_block 0 with fail
  go_cut [6] (fun i wx => Hid (∃ L, L.Perm l ∧ Up n L ∧ RI w.heap.size wx (.slice a1 n c1) L ∧ Below w.heap.size w wx))
  case first =>
    go_wp2_with fail
    go_loopw [6, 7] (fun i j wr => ∃ k : Nat, k ≤ n ∧ i = .int .i64 k ∧ Hid (∃ L, L.Perm l ∧ Up k L ∧ RI w.heap.size wr (.slice a1 n c1) L ∧ Below w.heap.size w wr)) (fun i _ _ => n - (intOf i).toNat)
    case atStart => exact ⟨0, Nat.zero_le _, rfl, l, List.Perm.refl _, fun a b ha => absurd ha (Nat.not_lt_zero a), HRw.out, HBw.out⟩
    case round =>
      obtain ⟨k, hk, rfl, hI⟩ := hrel
      obtain ⟨L, hp, hu, hr, hb⟩ := hI
      have HL := Lib.hid (And.intro hp (And.intro hu (And.intro hr hb)))
      clear hp hu hr hb
      by_cases hkn : k < n
      · go_wp2
        obtain ⟨wo, hwo⟩ : ∃ wo, wo = wr := ⟨_, rfl⟩
        subst hwo
        go_loopw [7] (fun j wr => ∃ m : Nat, k < m ∧ m ≤ n ∧ j = .int .i64 m ∧ Hid (∃ L, L.Perm l ∧ Up k L ∧ Lst k m L ∧ RI w.heap.size wr (.slice a1 n c1) L ∧ Below w.heap.size w wr)) (fun j _ => n - (intOf j).toNat)
        case atStart => exact ⟨k + 1, by omega, by omega, by go_num, L, HL.out.1, HL.out.2.1, fun a ha hb => by omega, HL.out.2.2.1, HL.out.2.2.2⟩
        case round =>
          obtain ⟨m, hkm, hm, rfl, hI⟩ := hrel
          obtain ⟨M, hp, hu, hs, hr, hb⟩ := hI
          have hlen : M.length = n := hp.length_eq.trans HLN.out
          by_cases hmn : m < n
          · obtain ⟨g, rfl, hq⟩ := hr.addr (by omega)
            clear hq
            obtain ⟨hgw, hlg, hcl, hfr, cur, hcur⟩ := hr.at (by omega)
            obtain ⟨x, hx⟩ : ∃ x, M.getD m 0 = x := ⟨_, rfl⟩
            obtain ⟨y, hy⟩ : ∃ y, M.getD k 0 = y := ⟨_, rfl⟩
            have cm := hcl m (by omega)
            have ck := hcl k (by omega)
            rw [hx] at cm
            rw [hy] at ck
            have fm := hfr m
            have fk := hfr k
            have HM := Lib.hid (And.intro hp (And.intro hu (And.intro hs (And.intro hr hb))))
            have HXY := Lib.hid (And.intro hx hy)
            have HLE := Lib.hid hlen
            clear hp hu hs hr hb hx hy hlen hcl hfr hcur
            have hmi : (m : Int) < (n : Int) := by omega
            have hki : (k : Int) < (n : Int) := by omega
            by_cases hxy : x < y
            · have hxd : decide (x < y) = true := decide_eq_true hxy
              have HXY2 := Lib.hid hxy
              clear hxy
              go_wp2
              go_quiet (fail)
              go_upto_region 9 with fail
              refine wp_region_held_drew (S := fun _ => True) (by kernel_rfl) trivial (fun hHeld => ?_)
              (refine wpAnyH_take (i := 0) (v := ?_) rfl (by kernel_rfl) (by kernel_rfl) (by kernel_rfl) (fun _ _ _ h => h) (Or.inl ⟨by rfl, ?_⟩) (by assumption) ?_; rotate_left; (focus (intro w hSw; (try dsimp only at hSw); go_simp; (try with_reducible rfl))); (try simp only [List.getElem_toArray, List.getElem_cons_zero, List.getElem_cons_succ, Act.put, List.setIfInBounds_toArray, List.set_cons_zero, List.set_cons_succ])); (refine wpAnyH_take (i := 1) (v := ?_) rfl (by kernel_rfl) (by kernel_rfl) (by kernel_rfl) (fun _ _ _ h => h) (Or.inl ⟨by rfl, ?_⟩) (by assumption) ?_; rotate_left; (focus (intro w hSw; (try dsimp only at hSw); go_simp; (try with_reducible rfl))); (try simp only [List.getElem_toArray, List.getElem_cons_zero, List.getElem_cons_succ, Act.put, List.setIfInBounds_toArray, List.set_cons_zero, List.set_cons_succ])); (refine wpAnyH_take (i := 2) (v := ?_) rfl (by kernel_rfl) (by kernel_rfl) (by kernel_rfl) (fun _ _ _ h => h) (Or.inl ⟨by rfl, ?_⟩) (by assumption) ?_; rotate_left; (focus (intro w hSw; (try dsimp only at hSw); go_simp; (try with_reducible rfl))); (try simp only [List.getElem_toArray, List.getElem_cons_zero, List.getElem_cons_succ, Act.put, List.setIfInBounds_toArray, List.set_cons_zero, List.set_cons_succ])); (refine wpAnyH_take (i := 3) (v := ?_) rfl (by kernel_rfl) (by kernel_rfl) (by kernel_rfl) (fun _ _ _ h => h) (Or.inl ⟨by rfl, ?_⟩) (by assumption) ?_; rotate_left; (focus (intro w hSw; (try dsimp only at hSw); go_simp; (try with_reducible rfl))); (try simp only [List.getElem_toArray, List.getElem_cons_zero, List.getElem_cons_succ, Act.put, List.setIfInBounds_toArray, List.set_cons_zero, List.set_cons_succ])); (refine wpAnyH_take (i := 4) (v := ?_) rfl (by kernel_rfl) (by kernel_rfl) (by kernel_rfl) (fun _ _ _ h => h) (Or.inl ⟨by rfl, ?_⟩) (by assumption) ?_; rotate_left; (focus (intro w hSw; (try dsimp only at hSw); go_simp; (try with_reducible rfl))); (try simp only [List.getElem_toArray, List.getElem_cons_zero, List.getElem_cons_succ, Act.put, List.setIfInBounds_toArray, List.set_cons_zero, List.set_cons_succ])); (refine wpAnyH_take (i := 5) (v := ?_) rfl (by kernel_rfl) (by kernel_rfl) (by kernel_rfl) (fun _ _ _ h => h) (Or.inl ⟨by rfl, ?_⟩) (by assumption) ?_; rotate_left; (focus (intro w hSw; (try dsimp only at hSw); go_simp; (try with_reducible rfl))); (try simp only [List.getElem_toArray, List.getElem_cons_zero, List.getElem_cons_succ, Act.put, List.setIfInBounds_toArray, List.set_cons_zero, List.set_cons_succ])); (refine wpAnyH_take (i := 6) (v := ?_) rfl (by kernel_rfl) (by kernel_rfl) (by kernel_rfl) (fun _ _ _ h => h) (Or.inl ⟨by rfl, ?_⟩) (by assumption) ?_; rotate_left; (focus (intro w hSw; (try dsimp only at hSw); go_simp; (try with_reducible rfl))); (try simp only [List.getElem_toArray, List.getElem_cons_zero, List.getElem_cons_succ, Act.put, List.setIfInBounds_toArray, List.set_cons_zero, List.set_cons_succ]))
              (refine wpAnyH_take (i := 8) (v := ?_) rfl (by kernel_rfl) (by kernel_rfl) (by kernel_rfl) (fun _ _ _ h => h) (Or.inl ⟨by rfl, ?_⟩) (by assumption) ?_; rotate_left; (focus (intro w hSw; (try dsimp only at hSw); go_simp; (try with_reducible rfl))); (try simp only [List.getElem_toArray, List.getElem_cons_zero, List.getElem_cons_succ, Act.put, List.setIfInBounds_toArray, List.set_cons_zero, List.set_cons_succ])); (refine wpAnyH_take (i := 9) (v := ?_) rfl (by kernel_rfl) (by kernel_rfl) (by kernel_rfl) (fun _ _ _ h => h) (Or.inl ⟨by rfl, ?_⟩) (by assumption) ?_; rotate_left; (focus (intro w hSw; (try dsimp only at hSw); go_simp; (try with_reducible rfl))); (try simp only [List.getElem_toArray, List.getElem_cons_zero, List.getElem_cons_succ, Act.put, List.setIfInBounds_toArray, List.set_cons_zero, List.set_cons_succ])); (refine wpAnyH_take (i := 10) (v := ?_) rfl (by kernel_rfl) (by kernel_rfl) (by kernel_rfl) (fun _ _ _ h => h) (Or.inl ⟨by rfl, ?_⟩) (by assumption) ?_; rotate_left; (focus (intro w hSw; (try dsimp only at hSw); go_simp; (try with_reducible rfl))); (try simp only [List.getElem_toArray, List.getElem_cons_zero, List.getElem_cons_succ, Act.put, List.setIfInBounds_toArray, List.set_cons_zero, List.set_cons_succ]))
              refine wpAnyH_ready (rs := [7, 11]) (by kernel_rfl) (by simp) ?_; refine AllReadyH.cons rfl (fun K hK => ?_) (AllReadyH.cons rfl (fun K hK => ?_) AllReadyH.nil)
              rotate_left
              ·
                go_simp
                refine hK.out _ _ trivial (fun hHeld => ?_)
                clear hK K
                (try simp only [List.getElem_toArray, List.getElem_cons_zero, List.getElem_cons_succ, Act.put, List.setIfInBounds_toArray, List.set_cons_zero, List.set_cons_succ])
                refine wpAnyH_ready (rs := [7]) (by kernel_rfl) (by simp) ?_; refine AllReadyH.cons rfl (fun K hK => ?_) AllReadyH.nil; go_simp
                go_simp
                refine hK.out _ _ trivial (fun hHeld => ?_)
                clear hK K
                (try simp only [List.getElem_toArray, List.getElem_cons_zero, List.getElem_cons_succ, Act.put, List.setIfInBounds_toArray, List.set_cons_zero, List.set_cons_succ])
                (refine wpAnyH_take (i := 12) (v := ?_) rfl (by kernel_rfl) (by kernel_rfl) (by kernel_rfl) (fun _ _ _ h => h) (Or.inl ⟨by rfl, ?_⟩) (by assumption) ?_; rotate_left; (focus (intro w hSw; (try dsimp only at hSw); go_simp; (try with_reducible rfl))); (try simp only [List.getElem_toArray, List.getElem_cons_zero, List.getElem_cons_succ, Act.put, List.setIfInBounds_toArray, List.set_cons_zero, List.set_cons_succ]))
                refine wpAnyH_ready (rs := [13]) (by kernel_rfl) (by simp) ?_; refine AllReadyH.cons rfl (fun K hK => ?_) AllReadyH.nil; go_simp
                go_simp
                obtain ⟨w5, hw5⟩ : ∃ w5, (wr.drewN (nq + 1)).setCell ⟨g, k, none⟩ (.int .i64 x) = w5 := ⟨_, rfl⟩
                rw [hw5]
                have HR5 : Hid (RI w.heap.size w5 (.slice (some ⟨g, 0, none⟩) n c1) (M.set k x)) := by rw [← hw5]; exact RI.set (HM.out.2.2.2.1.keep fun _ _ _ _ => rfl) (by have := HLE.out; omega) x
                have HB5 : Hid (Below w.heap.size w w5) := by rw [← hw5]; exact (HM.out.2.2.2.2.trans (below_drewN (Below.refl _ _) _)).setCell (p := ⟨g, k, none⟩) hlg _
                obtain ⟨hg5, _, hcl5, hfr5, cur5, hcur5⟩ := HR5.out.at (by have := HLE.out; simp; omega)
                have f5 := hfr5 m
                have c5 := hcl5 m (by have := HLE.out; simp; omega)
                clear hcl5 hfr5 hcur5 hw5 fm fk cm ck
                refine hK.out _ _ trivial (fun hHeld => ?_)
                clear hK K
                (try simp only [List.getElem_toArray, List.getElem_cons_zero, List.getElem_cons_succ, Act.put, List.setIfInBounds_toArray, List.set_cons_zero, List.set_cons_succ])
                (refine wpAnyH_take (i := 14) (v := ?_) rfl (by kernel_rfl) (by kernel_rfl) (by kernel_rfl) (fun _ _ _ h => h) (Or.inl ⟨by rfl, ?_⟩) (by assumption) ?_; rotate_left; (focus (intro w hSw; (try dsimp only at hSw); go_simp; (try with_reducible rfl))); (try simp only [List.getElem_toArray, List.getElem_cons_zero, List.getElem_cons_succ, Act.put, List.setIfInBounds_toArray, List.set_cons_zero, List.set_cons_succ]))
                refine wpAnyH_ready (rs := [15]) (by kernel_rfl) (by simp) ?_; refine AllReadyH.cons rfl (fun K hK => ?_) AllReadyH.nil; go_simp
                go_simp
                obtain ⟨w6, hw6⟩ : ∃ w6, w5.setCell ⟨g, m, none⟩ (.int .i64 y) = w6 := ⟨_, rfl⟩
                rw [hw6]
                have HR6 : Hid (RI w.heap.size w6 (.slice (some ⟨g, 0, none⟩) n c1) (swp M k m)) := by
                  unfold swp
                  rw [HXY.out.1, HXY.out.2, ← hw6]
                  exact RI.set HR5.out (by have := HLE.out; simp; omega) y
                have HB6 : Hid (Below w.heap.size w w6) := by rw [← hw6]; exact HB5.out.setCell (p := ⟨g, m, none⟩) hlg _
                clear hw6 f5 c5
                refine hK.out _ _ trivial (fun hHeld => ?_)
                clear hK K
                (try simp only [List.getElem_toArray, List.getElem_cons_zero, List.getElem_cons_succ, Act.put, List.setIfInBounds_toArray, List.set_cons_zero, List.set_cons_succ])
                refine wpAnyH_done (by kernel_rfl) ?_ _; clear hHeld
                go_wp2
                go_roundw
                case rel => exact ⟨m + 1, by omega, by omega, by go_num, swp M k m, (swp_perm (by have := HLE.out; omega) (by have := HLE.out; omega)).trans HM.out.1, up_swp HM.out.2.1 hkm (by have := HLE.out; omega), lst_swp HM.out.2.2.1 hkm (by have := HLE.out; omega) (by rw [HXY.out.1, HXY.out.2]; exact HXY2.out), HR6.out, HB6.out⟩
                case measure => simp [intOf]; omega
              ·
                go_simp
                refine hK.out _ _ trivial (fun hHeld => ?_)
                clear hK K
                (try simp only [List.getElem_toArray, List.getElem_cons_zero, List.getElem_cons_succ, Act.put, List.setIfInBounds_toArray, List.set_cons_zero, List.set_cons_succ])
                refine wpAnyH_ready (rs := [11]) (by kernel_rfl) (by simp) ?_; refine AllReadyH.cons rfl (fun K hK => ?_) AllReadyH.nil; go_simp
                go_simp
                refine hK.out _ _ trivial (fun hHeld => ?_)
                clear hK K
                (try simp only [List.getElem_toArray, List.getElem_cons_zero, List.getElem_cons_succ, Act.put, List.setIfInBounds_toArray, List.set_cons_zero, List.set_cons_succ])
                (refine wpAnyH_take (i := 12) (v := ?_) rfl (by kernel_rfl) (by kernel_rfl) (by kernel_rfl) (fun _ _ _ h => h) (Or.inl ⟨by rfl, ?_⟩) (by assumption) ?_; rotate_left; (focus (intro w hSw; (try dsimp only at hSw); go_simp; (try with_reducible rfl))); (try simp only [List.getElem_toArray, List.getElem_cons_zero, List.getElem_cons_succ, Act.put, List.setIfInBounds_toArray, List.set_cons_zero, List.set_cons_succ]))
                refine wpAnyH_ready (rs := [13]) (by kernel_rfl) (by simp) ?_; refine AllReadyH.cons rfl (fun K hK => ?_) AllReadyH.nil; go_simp
                go_simp
                obtain ⟨w5, hw5⟩ : ∃ w5, (wr.drewN (nq + 1)).setCell ⟨g, k, none⟩ (.int .i64 x) = w5 := ⟨_, rfl⟩
                rw [hw5]
                have HR5 : Hid (RI w.heap.size w5 (.slice (some ⟨g, 0, none⟩) n c1) (M.set k x)) := by rw [← hw5]; exact RI.set (HM.out.2.2.2.1.keep fun _ _ _ _ => rfl) (by have := HLE.out; omega) x
                have HB5 : Hid (Below w.heap.size w w5) := by rw [← hw5]; exact (HM.out.2.2.2.2.trans (below_drewN (Below.refl _ _) _)).setCell (p := ⟨g, k, none⟩) hlg _
                obtain ⟨hg5, _, hcl5, hfr5, cur5, hcur5⟩ := HR5.out.at (by have := HLE.out; simp; omega)
                have f5 := hfr5 m
                have c5 := hcl5 m (by have := HLE.out; simp; omega)
                clear hcl5 hfr5 hcur5 hw5 fm fk cm ck
                refine hK.out _ _ trivial (fun hHeld => ?_)
                clear hK K
                (try simp only [List.getElem_toArray, List.getElem_cons_zero, List.getElem_cons_succ, Act.put, List.setIfInBounds_toArray, List.set_cons_zero, List.set_cons_succ])
                (refine wpAnyH_take (i := 14) (v := ?_) rfl (by kernel_rfl) (by kernel_rfl) (by kernel_rfl) (fun _ _ _ h => h) (Or.inl ⟨by rfl, ?_⟩) (by assumption) ?_; rotate_left; (focus (intro w hSw; (try dsimp only at hSw); go_simp; (try with_reducible rfl))); (try simp only [List.getElem_toArray, List.getElem_cons_zero, List.getElem_cons_succ, Act.put, List.setIfInBounds_toArray, List.set_cons_zero, List.set_cons_succ]))
                refine wpAnyH_ready (rs := [15]) (by kernel_rfl) (by simp) ?_; refine AllReadyH.cons rfl (fun K hK => ?_) AllReadyH.nil; go_simp
                go_simp
                obtain ⟨w6, hw6⟩ : ∃ w6, w5.setCell ⟨g, m, none⟩ (.int .i64 y) = w6 := ⟨_, rfl⟩
                rw [hw6]
                have HR6 : Hid (RI w.heap.size w6 (.slice (some ⟨g, 0, none⟩) n c1) (swp M k m)) := by
                  unfold swp
                  rw [HXY.out.1, HXY.out.2, ← hw6]
                  exact RI.set HR5.out (by have := HLE.out; simp; omega) y
                have HB6 : Hid (Below w.heap.size w w6) := by rw [← hw6]; exact HB5.out.setCell (p := ⟨g, m, none⟩) hlg _
                clear hw6 f5 c5
                refine hK.out _ _ trivial (fun hHeld => ?_)
                clear hK K
                (try simp only [List.getElem_toArray, List.getElem_cons_zero, List.getElem_cons_succ, Act.put, List.setIfInBounds_toArray, List.set_cons_zero, List.set_cons_succ])
                refine wpAnyH_done (by kernel_rfl) ?_ _; clear hHeld
                go_wp2
                go_roundw
                case rel => exact ⟨m + 1, by omega, by omega, by go_num, swp M k m, (swp_perm (by have := HLE.out; omega) (by have := HLE.out; omega)).trans HM.out.1, up_swp HM.out.2.1 hkm (by have := HLE.out; omega), lst_swp HM.out.2.2.1 hkm (by have := HLE.out; omega) (by rw [HXY.out.1, HXY.out.2]; exact HXY2.out), HR6.out, HB6.out⟩
                case measure => simp [intOf]; omega
            · have hxd : decide (x < y) = false := decide_eq_false hxy
              have HXY2 := Lib.hid hxy
              clear hxy
              go_wp2
              go_quiet (fail)
              go_wp2
              go_roundw
              case rel => exact ⟨m + 1, by omega, by omega, by go_num, M, HM.out.1, HM.out.2.1, lst_keep HM.out.2.2.1 (by rw [HXY.out.1, HXY.out.2]; have := HXY2.out; omega), HM.out.2.2.2.1.keep fun _ _ _ _ => rfl, HM.out.2.2.2.2.trans (below_drewN (Below.refl _ _) _)⟩
              case measure => simp [intOf]; omega
          · have e : m = n := by omega
            subst e
            have HM := Lib.hid (And.intro hp (And.intro (up_next hu (by rw [hlen]; exact hs)) (And.intro hr hb)))
            clear hp hu hs hr hb hlen
            go_wp2
            go_roundw
            case rel => exact ⟨k + 1, by omega, by go_num, M, HM.out.1, HM.out.2.1, HM.out.2.2.1, HM.out.2.2.2⟩
            case measure => simp [intOf]; omega
      · have e : k = n := by omega
        subst e
        go_wp2
        go_meet
        exact ⟨L, HL.out⟩
  case rest =>
    have hI := hcut
    clear hcut
    obtain ⟨L, hp, hu, hr, hb⟩ := hI
    have hlen : L.length = n := hp.length_eq.trans HLN.out
    have hL : L = srt l := up_done (by rw [hlen]; exact hu) hp
    have HB := Lib.hid hb
    have HR := Lib.hid (hL ▸ hr)
    have HSL : Hid ((srt l).length = n) := by unfold Hid; rw [srt_len]; exact HLN.out
    have HT : Hid (psum d (n - d) (srt l) = tot d l) := by
      have := HLN.out
      unfold Hid
      rw [← this]
      exact psum_tot (by omega)
    have HPB : Hid (∀ i, d ≤ i → i ≤ n → -40 ≤ psum d i (srt l) ∧ psum d i (srt l) ≤ 40000) := fun i h1 h2 => by
      have := psum_le (d := d) (L := srt l) (fun x hx => HBD.out x ((srt_perm l).mem_iff.1 hx)) i h1 (by rw [HSL.out]; exact h2)
      omega
    have HP0 : Hid (psum d d (srt l) = 0) := psum_zero _ _
    clear hp hu hr hb hlen hL HLI HRw HBw
    have hd2 : d + d ≤ n := by omega
    clear hd
    go_wp2_with fail
    go_loopw [8, 9] (fun s i wr => ∃ k : Nat, d ≤ k ∧ k + d ≤ n ∧ i = .int .i64 k ∧ s = .int .i64 (psum d k (srt l)) ∧ Hid (wr = wc)) (fun _ i _ => n - (intOf i).toNat)
    case atStart => exact ⟨d, Nat.le_refl _, hd2, rfl, by rw [HP0.out], rfl⟩
    case round =>
      obtain ⟨k, hdk, hk, rfl, rfl, hw⟩ := hrel
      obtain rfl := hw.out
      clear hw
      obtain ⟨sv, hsv⟩ : ∃ sv, psum d k (srt l) = sv := ⟨_, rfl⟩
      have HSV := Lib.hid hsv
      have hb1 := HPB.out k hdk (by omega)
      rw [hsv] at hb1 ⊢
      obtain ⟨hb1a, hb1b⟩ := hb1
      clear hsv
      by_cases hkn : k + d < n
      · have hsl := HSL.out
        obtain ⟨g, rfl, hq⟩ := HR.out.addr (by omega)
        clear hq
        obtain ⟨_, _, hcl, _, _⟩ := HR.out.at (by omega)
        obtain ⟨x, hx⟩ : ∃ x, (srt l).getD k 0 = x := ⟨_, rfl⟩
        have ck := hcl k (by omega)
        rw [hx] at ck
        have hst : psum d (k + 1) (srt l) = sv + x := by rw [psum_step hdk (by omega), hx, HSV.out]
        have HST := Lib.hid hst
        have hb2 := HPB.out (k + 1) (by omega) (by omega)
        rw [hst] at hb2
        obtain ⟨hb2a, hb2b⟩ := hb2
        have hki : (k : Int) < (n : Int) - (d : Int) := by omega
        have hkn2 : k < n := by omega
        clear hcl hx hst hsl
        go_wp2
        go_roundw
        case rel => exact ⟨k + 1, by omega, by omega, by go_num, by rw [HST.out], by first | exact rfl | exact trivial⟩
        case measure => simp [intOf]; omega
      · have hki : ¬ (k : Int) < (n : Int) - (d : Int) := by omega
        have hke : k = n - d := by omega
        have HKE := Lib.hid hke
        clear hke
        go_wp2
        go_ret
        exact ⟨ret_int (by rw [← HSV.out, HKE.out]; exact HT.out), HB.out⟩

end Go.Proofs.Ytffnlimgjnhmpaa
