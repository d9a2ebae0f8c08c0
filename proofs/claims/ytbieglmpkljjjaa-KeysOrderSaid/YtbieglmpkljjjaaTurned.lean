/-
  Turned: turned of the chapter.
-/
import Derived.Test.YtbieglmpkljjjaaLRight
import Derived.Test.YtbieglmpkljjjaaLBox
import Derived.Test.YtbieglmpkljjjaaBest
namespace Go.Proofs.Ytbieglmpkljjjaa
open Go.RowKit

def rotS (n a i : Nat) : Nat := (i + a) % n
def rotT (n a j : Nat) : Nat := (j + (n - a % n)) % n
theorem rotS_lt {n a i : Nat} (h : i < n) : rotS n a i < n := Nat.mod_lt _ (by omega)
theorem rotT_lt {n a i : Nat} (h : i < n) : rotT n a i < n := Nat.mod_lt _ (by omega)
theorem rot_st {n a i : Nat} (h : i < n) : rotT n a (rotS n a i) = i := by
  unfold rotT rotS
  have h1 := Nat.mod_lt a (by omega : n > 0)
  rw [Nat.mod_add_mod]
  have h2 := Nat.div_add_mod a n
  have e : i + a + (n - a % n) = i + n * (a / n + 1) := by rw [Nat.mul_add]; omega
  rw [e, Nat.add_mul_mod_self_left, Nat.mod_eq_of_lt h]
theorem rot_ts {n a i : Nat} (h : i < n) : rotS n a (rotT n a i) = i := by
  unfold rotT rotS
  have h1 := Nat.mod_lt a (by omega : n > 0)
  rw [Nat.mod_add_mod]
  have h2 := Nat.div_add_mod a n
  have e : i + (n - a % n) + a = i + n * (a / n + 1) := by rw [Nat.mul_add]; omega
  rw [e, Nat.add_mul_mod_self_left, Nat.mod_eq_of_lt h]

set_option maxRecDepth 100000 in
set_option maxHeartbeats 3200000 in
theorem turned_any (N : Nat) (u : Value) (n by' : Nat) (x : Nat → Int) (w : World) (hu : IntsAt N w u n x) (hN : N ≤ w.heap.size) (hn1 : 1 ≤ n) (hn : n ≤ 1000) (hby : by' ≤ 100) :
    Calls Try.prog 43 #[u, .int .i64 by'] w fun e w' => ∃ g : Nat, e = .returned (.slice (some ⟨g, 0, none⟩) n n) ∧ w.heap.size ≤ g ∧ g < w'.heap.size ∧ RowAt w' g n (fun j => .int .i64 (x (rotT n by' j))) ∧ Below w.heap.size w w' := by
  obtain ⟨i0, hi, hz0, hz1, hz2⟩ := info_parts Try.infoInt
  obtain ⟨au, cu, rfl, _, _⟩ := id hu
  have hmk := run_make_row' (P := Try.prog) 22 3 (.int .i64 0) 8 Try.underlying22 Try.infoInt rfl .i64 .i64 n (by omega) (by omega)
  have HU := Lib.hid hu
  have HNW := Lib.hid hN
  obtain ⟨ws, hws, HB, hsz, hblk⟩ := box1 w (.cells (madeCells #[.int .i64 0] n) 3)
  have HU2 := Lib.hid (hu.go hN HB.out)
  clear hu
  go_enter Try.func43, Try.ntmps43
  go_wp2
  have HROW : Hid (RowAt ws w.heap.size n (fun _ => .int .i64 0)) := fun i hi => by
    refine ⟨?_, free_blk hblk i⟩
    have e : (madeCells #[Value.int .i64 0] n)[i]? = some (.int .i64 0) := by simp [madeCells, hi, Nat.mod_one]
    exact cell_blk hblk i e
  clear hws hmk hblk
  have hgs : w.heap.size < ws.heap.size := hsz
  obtain ⟨g, hg⟩ : ∃ g, w.heap.size = g := ⟨_, rfl⟩
  have HGE := Lib.hid hg
  rw [hg] at HB HROW hgs ⊢
  clear hg hsz
  go_loopw [6] (fun i wr => ∃ k : Nat, k ≤ n ∧ i = .int .i64 k ∧ Hid (∃ f, RowAt wr g n f ∧ ∀ j, j < k → f (rotS n by' j) = .int .i64 (x j)) ∧ Hid (Below g w wr) ∧ Hid (g < wr.heap.size)) (fun i _ => n - (intOf i).toNat)
  case atStart => exact ⟨0, Nat.zero_le _, rfl, ⟨_, HROW.out, fun j hj => absurd hj (Nat.not_lt_zero j)⟩, HB, hgs⟩
  case round =>
    obtain ⟨k, hk, rfl, HF, HB2, HG2⟩ := hrel
    by_cases hkn : k < n
    · obtain ⟨b, off, rfl, hb, hr⟩ := HU.out.cells (by omega)
      have hki : (k : Int) < (n : Int) := by omega
      obtain ⟨wd, hwd⟩ : ∃ wd, wr.drew = wd := ⟨_, rfl⟩
      have hcx : wd.cell? ⟨b, off + k, none⟩ = some (.int .i64 (x k)) := by
        rw [← hwd]
        exact (HB2.out.cell (p := ⟨b, off + k, none⟩) (by show b < g; rw [← HGE.out]; have := HNW.out; omega)).trans (hr k hkn)
      obtain ⟨f, hf, hfx⟩ := HF.out
      have hfd : RowAt wd g n f := by rw [← hwd]; exact hf
      have HBd : Hid (Below g w wd) := by rw [← hwd]; exact HB2.out.drew
      have HGd : Hid (g < wd.heap.size) := by rw [← hwd]; exact HG2.out
      have hS := rotS_lt (a := by') hkn
      have hwa : IntKind.i64.wrap ((k : Int) + (by' : Int)) = (k : Int) + (by' : Int) := IntWalk.i64_in _ (by omega)
      have hcS := hfd (rotS n by' k) hS
      have HFX := Lib.hid hfx
      have HFD := Lib.hid hfd
      obtain ⟨Sk, hSk⟩ : ∃ Sk, rotS n by' k = Sk := ⟨_, rfl⟩
      rw [hSk] at hS hcS
      have hrem : ((k : Int) + (by' : Int)).tmod (n : Int) = (Sk : Int) := by rw [← hSk, ← Int.natCast_add]; rfl
      have HSK := Lib.hid hSk
      obtain ⟨cS, fS⟩ := hcS
      clear hf hfx hfd hr HF hSk
      go_upto_region 5 with fail
      refine wp_region_held_drew (S := fun _ => True) (by kernel_rfl) trivial (fun hHeld => ?_)
      rw [hwd]
      clear hwd
      have hn0 : ¬ n = 0 := by omega
      have hSki : (Sk : Int) < (n : Int) := by omega
      (refine wpAnyH_take (i := 0) (v := ?_) rfl (by kernel_rfl) (by kernel_rfl) (by kernel_rfl) (fun _ _ _ h => h) (Or.inl ⟨by rfl, ?_⟩) (by assumption) ?_; rotate_left; (focus (intro w hSw; (try dsimp only at hSw); go_simp; (try with_reducible rfl))); (try simp only [List.getElem_toArray, List.getElem_cons_zero, List.getElem_cons_succ, Act.put, List.setIfInBounds_toArray, List.set_cons_zero, List.set_cons_succ])); (refine wpAnyH_take (i := 1) (v := ?_) rfl (by kernel_rfl) (by kernel_rfl) (by kernel_rfl) (fun _ _ _ h => h) (Or.inl ⟨by rfl, ?_⟩) (by assumption) ?_; rotate_left; (focus (intro w hSw; (try dsimp only at hSw); go_simp; (try with_reducible rfl))); (try simp only [List.getElem_toArray, List.getElem_cons_zero, List.getElem_cons_succ, Act.put, List.setIfInBounds_toArray, List.set_cons_zero, List.set_cons_succ])); (refine wpAnyH_take (i := 2) (v := ?_) rfl (by kernel_rfl) (by kernel_rfl) (by kernel_rfl) (fun _ _ _ h => h) (Or.inl ⟨by rfl, ?_⟩) (by assumption) ?_; rotate_left; (focus (intro w hSw; (try dsimp only at hSw); go_simp; (try with_reducible rfl))); (try simp only [List.getElem_toArray, List.getElem_cons_zero, List.getElem_cons_succ, Act.put, List.setIfInBounds_toArray, List.set_cons_zero, List.set_cons_succ])); (refine wpAnyH_take (i := 3) (v := ?_) rfl (by kernel_rfl) (by kernel_rfl) (by kernel_rfl) (fun _ _ _ h => h) (Or.inl ⟨by rfl, ?_⟩) (by assumption) ?_; rotate_left; (focus (intro w hSw; (try dsimp only at hSw); go_simp; (try with_reducible rfl))); (try simp only [List.getElem_toArray, List.getElem_cons_zero, List.getElem_cons_succ, Act.put, List.setIfInBounds_toArray, List.set_cons_zero, List.set_cons_succ])); (refine wpAnyH_take (i := 4) (v := ?_) rfl (by kernel_rfl) (by kernel_rfl) (by kernel_rfl) (fun _ _ _ h => h) (Or.inl ⟨by rfl, ?_⟩) (by assumption) ?_; rotate_left; (focus (intro w hSw; (try dsimp only at hSw); go_simp; (try with_reducible rfl))); (try simp only [List.getElem_toArray, List.getElem_cons_zero, List.getElem_cons_succ, Act.put, List.setIfInBounds_toArray, List.set_cons_zero, List.set_cons_succ])); (refine wpAnyH_take (i := 5) (v := ?_) rfl (by kernel_rfl) (by kernel_rfl) (by kernel_rfl) (fun _ _ _ h => h) (Or.inl ⟨by rfl, ?_⟩) (by assumption) ?_; rotate_left; (focus (intro w hSw; (try dsimp only at hSw); go_simp; (try with_reducible rfl))); (try simp only [List.getElem_toArray, List.getElem_cons_zero, List.getElem_cons_succ, Act.put, List.setIfInBounds_toArray, List.set_cons_zero, List.set_cons_succ])); (refine wpAnyH_take (i := 6) (v := ?_) rfl (by kernel_rfl) (by kernel_rfl) (by kernel_rfl) (fun _ _ _ h => h) (Or.inl ⟨by rfl, ?_⟩) (by assumption) ?_; rotate_left; (focus (intro w hSw; (try dsimp only at hSw); go_simp; (try with_reducible rfl))); (try simp only [List.getElem_toArray, List.getElem_cons_zero, List.getElem_cons_succ, Act.put, List.setIfInBounds_toArray, List.set_cons_zero, List.set_cons_succ])); (refine wpAnyH_take (i := 7) (v := ?_) rfl (by kernel_rfl) (by kernel_rfl) (by kernel_rfl) (fun _ _ _ h => h) (Or.inl ⟨by rfl, ?_⟩) (by assumption) ?_; rotate_left; (focus (intro w hSw; (try dsimp only at hSw); go_simp; (try with_reducible rfl))); (try simp only [List.getElem_toArray, List.getElem_cons_zero, List.getElem_cons_succ, Act.put, List.setIfInBounds_toArray, List.set_cons_zero, List.set_cons_succ])); (refine wpAnyH_take (i := 8) (v := ?_) rfl (by kernel_rfl) (by kernel_rfl) (by kernel_rfl) (fun _ _ _ h => h) (Or.inl ⟨by rfl, ?_⟩) (by assumption) ?_; rotate_left; (focus (intro w hSw; (try dsimp only at hSw); go_simp; (try with_reducible rfl))); (try simp only [List.getElem_toArray, List.getElem_cons_zero, List.getElem_cons_succ, Act.put, List.setIfInBounds_toArray, List.set_cons_zero, List.set_cons_succ])); (refine wpAnyH_take (i := 9) (v := ?_) rfl (by kernel_rfl) (by kernel_rfl) (by kernel_rfl) (fun _ _ _ h => h) (Or.inl ⟨by rfl, ?_⟩) (by assumption) ?_; rotate_left; (focus (intro w hSw; (try dsimp only at hSw); go_simp; (try with_reducible rfl))); (try simp only [List.getElem_toArray, List.getElem_cons_zero, List.getElem_cons_succ, Act.put, List.setIfInBounds_toArray, List.set_cons_zero, List.set_cons_succ]))
      refine wpAnyH_ready (rs := [10]) (by kernel_rfl) (by simp) ?_
      refine (AllReadyH.cons rfl (fun K hK => ?_) AllReadyH.nil)
      go_simp
      refine hK.out _ _ trivial (fun hHeld => ?_); clear hK K; (try simp only [List.getElem_toArray, List.getElem_cons_zero, List.getElem_cons_succ, Act.put, List.setIfInBounds_toArray, List.set_cons_zero, List.set_cons_succ])
      (refine wpAnyH_take (i := 11) (v := ?_) rfl (by kernel_rfl) (by kernel_rfl) (by kernel_rfl) (fun _ _ _ h => h) (Or.inl ⟨by rfl, ?_⟩) (by assumption) ?_; rotate_left; (focus (intro w hSw; (try dsimp only at hSw); go_simp; (try with_reducible rfl))); (try simp only [List.getElem_toArray, List.getElem_cons_zero, List.getElem_cons_succ, Act.put, List.setIfInBounds_toArray, List.set_cons_zero, List.set_cons_succ]))
      refine wpAnyH_ready (rs := [12]) (by kernel_rfl) (by simp) ?_
      refine (AllReadyH.cons rfl (fun K hK => ?_) AllReadyH.nil)
      go_simp
      have hC1 := HFD.out.set (k := Sk) (.int .i64 (x k))
      have hB1 : Below g w (wd.setCell ⟨g, Sk, none⟩ (.int .i64 (x k))) := HBd.out.setCell (Nat.le_refl _) _
      have hz1 : g < (wd.setCell ⟨g, Sk, none⟩ (.int .i64 (x k))).heap.size := Nat.lt_of_lt_of_le HGd.out (grown_setCell _ _ _ _).size
      obtain ⟨w1, hw1⟩ : ∃ w1, wd.setCell ⟨g, Sk, none⟩ (.int .i64 (x k)) = w1 := ⟨_, rfl⟩
      rw [hw1] at hC1 hB1 hz1 ⊢
      have HC1 : Hid (∃ f, RowAt w1 g n f ∧ ∀ j, j < k + 1 → f (rotS n by' j) = .int .i64 (x j)) := ⟨_, hC1, fun j hj => by
        unfold updV
        by_cases e : j = k
        · subst e; rw [if_pos HSK.out]
        · have hne : ¬ rotS n by' j = Sk := fun e2 => e (by
            have h1 := rot_st (a := by') (show j < n by omega)
            rw [e2, ← HSK.out, rot_st hkn] at h1; exact h1.symm)
          rw [if_neg hne]; exact HFX.out j (by omega)⟩
      have HB1 := Lib.hid hB1
      have HZ1 := Lib.hid hz1
      clear hw1 hC1 hB1 hz1
      refine hK.out _ _ trivial (fun hHeld => ?_); clear hK K; (try simp only [List.getElem_toArray, List.getElem_cons_zero, List.getElem_cons_succ, Act.put, List.setIfInBounds_toArray, List.set_cons_zero, List.set_cons_succ])
      refine wpAnyH_done (by kernel_rfl) ?_ _; clear hHeld
      go_wp2
      go_roundw
      case rel => exact ⟨k + 1, by omega, by go_num, HC1, HB1, HZ1⟩
      case measure => simp [intOf]; omega
    · have hki : ¬ (k : Int) < (n : Int) := by omega
      obtain rfl : k = n := by omega
      go_wp2
      go_ret
      obtain ⟨f, hf, hfx⟩ := HF.out
      refine ⟨g, rfl, by rw [HGE.out]; exact Nat.le_refl _, HG2.out, fun j hj => ?_, by rw [HGE.out]; exact HB2.out⟩
      obtain ⟨h1, h2⟩ := hf j hj
      have := hfx (rotT k by' j) (rotT_lt hj)
      rw [rot_ts hj] at this
      rw [this] at h1
      exact ⟨h1, h2⟩

end Go.Proofs.Ytbieglmpkljjjaa
