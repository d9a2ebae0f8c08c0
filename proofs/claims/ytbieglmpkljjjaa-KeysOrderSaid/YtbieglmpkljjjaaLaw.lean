/-
  CopyC: Copy of a key's book.
-/
import Derived.Test.YtbieglmpkljjjaaCopy
import Derived.Deep.DeepCutAuto
namespace Go.Proofs.Ytbieglmpkljjjaa
open Go.RowKit

/-- values and nodes of the call's own, the ones behind the others -/
def Pair (w : World) (lo hi : Nat) (a b : Value) (B : KB) : Prop := ∃ mid, (RowIn w lo mid a B.nv B.V ∧ NodesIn w mid hi b B.D B.D.n) ∨ (NodesIn w lo mid b B.D B.D.n ∧ RowIn w mid hi a B.nv B.V)
theorem Pair.form1 {w : World} {lo hi : Nat} {a b : Value} {B : KB} (h : Pair w lo hi a b B) : ∃ g cap, a = .slice (some ⟨g, 0, none⟩) B.nv cap := by
  obtain ⟨_, ⟨h, _⟩ | ⟨_, h⟩⟩ := h <;> exact h.form
theorem Pair.form2 {w : World} {lo hi : Nat} {a b : Value} {B : KB} (h : Pair w lo hi a b B) : ∃ g cap, b = .slice (some ⟨g, 0, none⟩) B.D.n cap := by
  obtain ⟨_, ⟨_, h⟩ | ⟨h, _⟩⟩ := h <;> exact h.form
theorem Pair.grow {w w' : World} {lo hi : Nat} {a b : Value} {B : KB} (h : Pair w lo hi a b B) (hb : Below w.heap.size w w') : Pair w' lo hi a b B := by
  obtain ⟨mid, ⟨h1, h2⟩ | ⟨h1, h2⟩⟩ := h
  · exact ⟨mid, .inl ⟨h1.grow hb, h2.grow hb⟩⟩
  · exact ⟨mid, .inr ⟨h1.grow hb, h2.grow hb⟩⟩
theorem Pair.wider {w : World} {lo hi hi' : Nat} {a b : Value} {B : KB} (h : Pair w lo hi a b B) (hh : hi ≤ hi') : Pair w lo hi' a b B := by
  obtain ⟨mid, ⟨h1, h2⟩ | ⟨h1, h2⟩⟩ := h
  · exact ⟨mid, .inl ⟨h1, h2.wider (Nat.le_refl _) hh⟩⟩
  · exact ⟨mid, .inr ⟨h1, h2.wider (Nat.le_refl _) hh⟩⟩
theorem Pair.lower {w : World} {lo lo' hi : Nat} {a b : Value} {B : KB} (h : Pair w lo hi a b B) (hh : lo' ≤ lo) : Pair w lo' hi a b B := by
  obtain ⟨mid, ⟨h1, h2⟩ | ⟨h1, h2⟩⟩ := h
  · exact ⟨mid, .inl ⟨h1.wider hh (Nat.le_refl _), h2⟩⟩
  · exact ⟨mid, .inr ⟨h1.wider hh (Nat.le_refl _), h2⟩⟩
theorem Pair.other {w w' : World} {lo hi : Nat} {a b : Value} {B : KB} (h : Pair w lo hi a b B) (hk : ∀ (k : Nat) (cs : Array Value) (t : TypeId), t = 3 ∨ t = 41 → w.heap[k]? = some (Obj.cells cs t (0, 0)) → w'.heap[k]? = w.heap[k]?) : Pair w' lo hi a b B := by
  obtain ⟨mid, ⟨h1, h2⟩ | ⟨h1, h2⟩⟩ := h
  · exact ⟨mid, .inl ⟨h1.keep fun k cur _ _ hg => hk k cur _ (.inl rfl) hg, h2.keep fun k cs t _ _ ht hg => hk k cs t ht hg⟩⟩
  · exact ⟨mid, .inr ⟨h1.keep fun k cs t _ _ ht hg => hk k cs t ht hg, h2.keep fun k cur _ _ hg => hk k cur _ (.inl rfl) hg⟩⟩

/-- a book in memory of the call's own -/
def OwnBook (w : World) (lo hi : Nat) (v : Value) (B : KB) : Prop :=
  ∃ v1 v2 v3 m, v = .agg #[v1, v2, v3] ∧ Pair w lo m v1 v3 B ∧ RowsIn w m hi v2 B.ns B.L B.X

theorem store_three {w : World} {g : Nat} {z0 z1 z2 : Value} {t : TypeId} (h : w.heap[g]? = some (Obj.cells #[z0, z1, z2] t (0, 0))) (v0 v1 v2 : Value) :
    (((w.setCell ⟨g, 0, none⟩ v0).setCell ⟨g, 1, none⟩ v1).setCell ⟨g, 2, none⟩ v2).heap[g]? = some (Obj.cells #[v0, v1, v2] t (0, 0)) ∧
    (∀ N, N ≤ g → Below N w (((w.setCell ⟨g, 0, none⟩ v0).setCell ⟨g, 1, none⟩ v1).setCell ⟨g, 2, none⟩ v2)) ∧
    (∀ (k : Nat) (cs : Array Value) (u : TypeId), u ≠ t → w.heap[k]? = some (Obj.cells cs u (0, 0)) → (((w.setCell ⟨g, 0, none⟩ v0).setCell ⟨g, 1, none⟩ v1).setCell ⟨g, 2, none⟩ v2).heap[k]? = w.heap[k]?) := by
  refine ⟨?_, fun N hN => ((((Below.refl N w).setCell (p := ⟨g, 0, none⟩) hN _).setCell (p := ⟨g, 1, none⟩) hN _).setCell (p := ⟨g, 2, none⟩) hN _), fun k cs u hu hk => ?_⟩
  · simp [World.setCell, Array.getElem?_modify, h]
  · have hne : k ≠ g := by
      rintro rfl
      rw [hk] at h
      injection h with h
      injection h with _ h
      exact hu h
    rw [Below.heap_setCell _ _ _ _ (by exact hne), Below.heap_setCell _ _ _ _ (by exact hne), Below.heap_setCell _ _ _ _ (by exact hne)]
theorem store_mid {w : World} {g : Nat} {z0 z1 z2 : Value} {t : TypeId} (h : w.heap[g]? = some (Obj.cells #[z0, z1, z2] t (0, 0))) (v1 : Value) :
    (w.setCell ⟨g, 1, none⟩ v1).heap[g]? = some (Obj.cells #[z0, v1, z2] t (0, 0)) ∧ (∀ N, N ≤ g → Below N w (w.setCell ⟨g, 1, none⟩ v1)) ∧
    (∀ (k : Nat) (cs : Array Value) (u : TypeId), u ≠ t → w.heap[k]? = some (Obj.cells cs u (0, 0)) → (w.setCell ⟨g, 1, none⟩ v1).heap[k]? = w.heap[k]?) := by
  refine ⟨by simp [World.setCell, Array.getElem?_modify, h], fun N hN => (Below.refl N w).setCell (p := ⟨g, 1, none⟩) hN _, fun k cs u hu hk => ?_⟩
  refine Below.heap_setCell _ _ _ _ ?_
  rintro rfl
  rw [hk] at h
  injection h with h
  injection h with _ h
  exact hu h

/-- the loop of Copy: k sorts are there -/
def CopyRun (wr ws : World) (mS gE : Nat) (v8 v11 vS : Value) (k : Nat) (B : KB) : Prop :=
  ws.heap.size ≤ gE ∧ gE < mS ∧ Below ws.heap.size ws wr ∧ Pair wr ws.heap.size mS v8 v11 B ∧ wr.heap[gE]? = some (Obj.cells #[v8, vS, v11] 26) ∧ mS ≤ wr.heap.size ∧ RowsIn wr mS wr.heap.size vS k B.L B.X

set_option maxHeartbeats 4000000 in
set_option maxRecDepth 100000 in
theorem copy_any (N : Nat) (v : Value) (B : KB) (w : World) (h : BookAt N w v B) (h40v : B.nv ≤ 1000000) (h40s : B.ns ≤ 1000000) (h40n : B.D.n ≤ 1000) (h40q : ∀ i, i < B.D.n → B.D.q i ≤ 1000) (h40l : ∀ i, i < B.ns → B.L i ≤ 1000000) :
    Calls Try.prog 28 #[v] w fun e w' => ∃ v', e = .returned v' ∧ OwnBook w' w.heap.size w'.heap.size v' B ∧ Below w.heap.size w w' := by
  have hns : Hid _ := Lib.hid h40s
  have hlim : Hid _ := Lib.hid h40l
  have hqn : Hid _ := Lib.hid h40q
  clear h40s h40l h40q
  obtain ⟨_, a1, z1, a2, z2, a3, z3, rfl, _⟩ := id h
  obtain ⟨ws, hws, HB, hsz, hsz1, hblk, hblk1⟩ := box2 w (.cells #[.slice a1 B.nv z1, .slice a2 B.ns z2, .slice a3 B.D.n z3] 26) (Obj.cells #[.slice none 0 0, .slice none 0 0, .slice none 0 0] 26)
  have q0 := cell_blk hblk 0 rfl
  have q1 := cell_blk hblk 1 rfl
  have q2 := cell_blk hblk 2 rfl
  have HBK := Lib.hid (h.go HB.out)
  have HB0 : Hid (Below ws.heap.size ws ws) := Below.refl _ _
  have HNS : Hid (N ≤ ws.heap.size) := HBK.out.1
  have HR1 : Hid _ := Lib.hid hblk1
  clear hblk hblk1 h
  have S0d := old_of HB0.out.drew; have HB0d := S0d.2
  go_enter Try.func28, Try.ntmps28
  go_upto_region 1 with fail
  clear hws
  go_cut [3] (fun s3 wx => ∃ gE v8 v11, s3 = .pointer (some ⟨gE, 0, none⟩) ∧ Hid (ws.heap.size ≤ gE ∧ Below ws.heap.size ws wx ∧ Pair wx ws.heap.size wx.heap.size v8 v11 B ∧ wx.heap[gE]? = some (Obj.cells #[v8, .slice none 0 0, v11] 26)))
  case first =>
    refine wp_region_held_drew (S := (fun w' => (∀ b o, b < ws.heap.size → w'.cell? ⟨b, o, none⟩ = ws.cell? ⟨b, o, none⟩) ∧ Hid (Below ws.heap.size ws w'))) (by kernel_rfl) S0d (fun hHeld => ?_)
    (refine wpAnyH_take (i := 1) (v := ?_) rfl (by kernel_rfl) (by kernel_rfl) (by kernel_rfl) (fun _ _ _ h => h) (Or.inl ⟨by rfl, ?_⟩) (by assumption) ?_; rotate_left; (focus (intro w hSw; (try dsimp only at hSw); go_simp; (try with_reducible rfl))); (try simp only [List.getElem_toArray, List.getElem_cons_zero, List.getElem_cons_succ, Act.put, List.setIfInBounds_toArray, List.set_cons_zero, List.set_cons_succ]))
    (refine wpAnyH_take (i := 2) (v := ?_) rfl (by kernel_rfl) (by kernel_rfl) (by kernel_rfl) (fun _ _ _ h => h) (Or.inl ⟨by rfl, ?_⟩) (by assumption) ?_; rotate_left; (focus (intro w hSw; (try dsimp only at hSw); go_simp; (try with_reducible rfl))); (try simp only [List.getElem_toArray, List.getElem_cons_zero, List.getElem_cons_succ, Act.put, List.setIfInBounds_toArray, List.set_cons_zero, List.set_cons_succ]))
    (refine wpAnyH_take (i := 4) (v := ?_) rfl (by kernel_rfl) (by kernel_rfl) (by kernel_rfl) (fun _ _ _ h => h) (Or.inl ⟨by rfl, ?_⟩) (by assumption) ?_; rotate_left; (focus (intro w hSw; (try dsimp only at hSw); go_simp; (try with_reducible rfl))); (try simp only [List.getElem_toArray, List.getElem_cons_zero, List.getElem_cons_succ, Act.put, List.setIfInBounds_toArray, List.set_cons_zero, List.set_cons_succ]))
    (refine wpAnyH_take (i := 5) (v := ?_) rfl (by kernel_rfl) (by kernel_rfl) (by kernel_rfl) (fun _ _ _ h => h) (Or.inl ⟨by rfl, ?_⟩) (by assumption) ?_; rotate_left; (focus (intro w hSw; (try dsimp only at hSw); go_simp; (try with_reducible rfl))); (try simp only [List.getElem_toArray, List.getElem_cons_zero, List.getElem_cons_succ, Act.put, List.setIfInBounds_toArray, List.set_cons_zero, List.set_cons_succ]))
    have HBc : Hid (Below ws.heap.size ws ws.drew) := HB0d
    clear HB0d S0d
    obtain ⟨wc, hwc⟩ : ∃ w' : World, ws.drew = w' := ⟨_, rfl⟩
    rw [hwc] at HBc hHeld ⊢
    clear hwc
    refine wpAnyH_ready (rs := [0, 8]) (by kernel_rfl) (by simp) ?_
    refine (AllReadyH.cons rfl (fun K hK => ?_) (AllReadyH.cons rfl (fun K hK => ?_) AllReadyH.nil))
    · go_simp
      obtain ⟨wn, hwn⟩ : ∃ wn : World, wc.alloc (.cells #[] 3) = wn := ⟨_, rfl⟩
      rw [hwn]
      have hb : Below wc.heap.size wc wn := (by rw [← hwn]; exact below_alloc (Nat.le_refl _) _)
      clear hwn
      obtain ⟨g5, hg⟩ : ∃ g, wc.heap.size = g := ⟨_, rfl⟩
      rw [hg]
      clear hg
      replace HBc : Hid (Below ws.heap.size ws wn) := bel HBc.out hb
      clear hb
      have Sn := old_of HBc.out
      refine hK.out _ _ Sn (fun hHeld => ?_)
      clear hK K Sn
      (try simp only [List.getElem_toArray, List.getElem_cons_zero, List.getElem_cons_succ, Act.put, List.setIfInBounds_toArray, List.set_cons_zero, List.set_cons_succ])
      obtain ⟨wc, rfl⟩ : ∃ w' : World, w' = wn := ⟨_, rfl⟩
      refine wpAnyH_ready (rs := [3, 8]) (by kernel_rfl) (by simp) ?_
      refine (AllReadyH.cons rfl (fun K hK => ?_) (AllReadyH.cons rfl (fun K hK => ?_) AllReadyH.nil))
      · rw [if_pos (by rfl)]
        refine wp_clone _ (.tmp 5) (.tmp 7) ?_ ?_ N g5 _ B.nv _ B.V ?_ ?_ (HBK.out.go HBc.out).vals h40v ?_
        any_goals (exact rfl)
        intro v8 wn hrow hb
        have r8 : Hid (RowIn wn ws.heap.size wn.heap.size v8 B.nv B.V) := hrow.wider HBc.out.size (Nat.le_refl _)
        clear hrow
        replace HBc : Hid (Below ws.heap.size ws wn) := bel HBc.out hb
        clear hb
        have Sn := old_of HBc.out
        refine hK.out _ _ Sn (fun hHeld => ?_)
        clear hK K Sn
        (try simp only [List.getElem_toArray, List.getElem_cons_zero, List.getElem_cons_succ, Act.put, List.setIfInBounds_toArray, List.set_cons_zero, List.set_cons_succ])
        obtain ⟨wc, rfl⟩ : ∃ w' : World, w' = wn := ⟨_, rfl⟩
        refine wpAnyH_ready (rs := [6, 8]) (by kernel_rfl) (by simp) ?_
        refine (AllReadyH.cons rfl (fun K hK => ?_) (AllReadyH.cons rfl (fun K hK => ?_) AllReadyH.nil))
        · go_simp
          go_at_call 76
          refine (copyNodes_any N _ B.D _ (HBK.out.go HBc.out).nodes (Nat.le_trans HNS.out HBc.out.size) h40n hqn.out).mono ?_
          rintro _ wn ⟨v11, rfl, hnd, hb⟩
          have r2 : Hid (Pair wn ws.heap.size wn.heap.size v8 v11 B) := ⟨_, .inl ⟨r8.out.grow hb, hnd⟩⟩
          clear r8
          clear hnd
          replace HBc : Hid (Below ws.heap.size ws wn) := bel HBc.out hb
          clear hb
          have Sn := old_of HBc.out
          refine hK.out _ _ Sn (fun hHeld => ?_)
          clear hK K Sn
          (try simp only [List.getElem_toArray, List.getElem_cons_zero, List.getElem_cons_succ, Act.put, List.setIfInBounds_toArray, List.set_cons_zero, List.set_cons_succ])
          obtain ⟨wc, rfl⟩ : ∃ w' : World, w' = wn := ⟨_, rfl⟩
          obtain ⟨g8, p8, rfl⟩ := r2.out.form1
          obtain ⟨g11, p11, rfl⟩ := r2.out.form2
          (refine wpAnyH_take (i := 7) (v := ?_) rfl (by kernel_rfl) (by kernel_rfl) (by kernel_rfl) (fun _ _ _ h => h) (Or.inl ⟨by rfl, ?_⟩) (by assumption) ?_; rotate_left; (focus (intro w hSw; (try dsimp only at hSw); go_simp; (try with_reducible rfl))); (try simp only [List.getElem_toArray, List.getElem_cons_zero, List.getElem_cons_succ, Act.put, List.setIfInBounds_toArray, List.set_cons_zero, List.set_cons_succ]))
          refine wpAnyH_ready (rs := [8]) (by kernel_rfl) (by simp) ?_
          refine (AllReadyH.cons rfl (fun K hK => ?_) AllReadyH.nil)
          · go_simp
            obtain ⟨wn, hwn⟩ : ∃ wn : World, wc.alloc (Obj.cells #[.slice none 0 0, .slice none 0 0, .slice none 0 0] 26) = wn := ⟨_, rfl⟩
            rw [hwn]
            have hb : Below wc.heap.size wc wn := (by rw [← hwn]; exact below_alloc (Nat.le_refl _) _)
            have e : Hid (wn.heap[wc.heap.size]? = some (Obj.cells #[.slice none 0 0, .slice none 0 0, .slice none 0 0] 26)) := (by rw [← hwn]; exact World.alloc_heap_new _ _)
            have hge : Hid (ws.heap.size ≤ wc.heap.size) := HBc.out.size
            obtain ⟨gE, hgE⟩ : ∃ g, wc.heap.size = g := ⟨_, rfl⟩
            rw [hgE] at e hge ⊢
            clear hwn hgE
            replace r2 := Lib.hid ((r2.out.grow hb).wider hb.size)
            replace HBc : Hid (Below ws.heap.size ws wn) := bel HBc.out hb
            clear hb
            have Sn := old_of HBc.out
            refine hK.out _ _ Sn (fun hHeld => ?_)
            clear hK K Sn
            (try simp only [List.getElem_toArray, List.getElem_cons_zero, List.getElem_cons_succ, Act.put, List.setIfInBounds_toArray, List.set_cons_zero, List.set_cons_succ])
            obtain ⟨wc, rfl⟩ : ∃ w' : World, w' = wn := ⟨_, rfl⟩
            refine wpAnyH_ready (rs := [9]) (by kernel_rfl) (by simp) ?_
            refine AllReadyH.cons rfl (fun K hK => ?_) AllReadyH.nil
            have z0 := cell_blk e.out 0 rfl
            have z1 := cell_blk e.out 1 rfl
            have z2 := cell_blk e.out 2 rfl
            have y := frozen_blk e.out
            go_simp
            have F := store_three e.out (.slice (some ⟨g8, 0, none⟩) B.nv p8) (.slice none 0 0) (.slice (some ⟨g11, 0, none⟩) B.D.n p11)
            obtain ⟨wn, hwn⟩ : ∃ wn : World, (((wc.setCell ⟨gE, 0, none⟩ (.slice (some ⟨g8, 0, none⟩) B.nv p8)).setCell ⟨gE, 1, none⟩ (.slice none 0 0)).setCell ⟨gE, 2, none⟩ (.slice (some ⟨g11, 0, none⟩) B.D.n p11)) = wn := ⟨_, rfl⟩
            rw [hwn] at F ⊢
            obtain ⟨f1, f2, f3⟩ := F
            have HBn : Hid (Below ws.heap.size ws wn) := HBc.out.trans (f2 _ hge.out)
            have Sn := old_of HBn.out
            have r3 : Hid (Pair wn ws.heap.size wn.heap.size (.slice (some ⟨g8, 0, none⟩) B.nv p8) (.slice (some ⟨g11, 0, none⟩) B.D.n p11) B) := (r2.out.other (fun k cs t ht hg => f3 k cs t (by rcases ht with rfl | rfl <;> decide) hg)).wider (by rw [← hwn]; simp [World.setCell])
            clear hwn f2 f3 r2
            refine hK.out _ _ Sn (fun hHeld => ?_)
            clear hK K Sn
            refine wpAnyH_done (by kernel_rfl) ?_ _
            clear hHeld
            go_wp2_with fail
            go_meet
            exact ⟨gE, _, _, rfl, hge.out, HBn.out, r3.out, f1⟩
        · go_simp
          obtain ⟨wn, hwn⟩ : ∃ wn : World, wc.alloc (Obj.cells #[.slice none 0 0, .slice none 0 0, .slice none 0 0] 26) = wn := ⟨_, rfl⟩
          rw [hwn]
          have hb : Below wc.heap.size wc wn := (by rw [← hwn]; exact below_alloc (Nat.le_refl _) _)
          have e : Hid (wn.heap[wc.heap.size]? = some (Obj.cells #[.slice none 0 0, .slice none 0 0, .slice none 0 0] 26)) := (by rw [← hwn]; exact World.alloc_heap_new _ _)
          have hge : Hid (ws.heap.size ≤ wc.heap.size) := HBc.out.size
          obtain ⟨gE, hgE⟩ : ∃ g, wc.heap.size = g := ⟨_, rfl⟩
          rw [hgE] at e hge ⊢
          clear hwn hgE
          replace r8 : Hid (RowIn wn ws.heap.size wn.heap.size v8 B.nv B.V) := (r8.out.grow hb).wider (Nat.le_refl _) hb.size
          replace HBc : Hid (Below ws.heap.size ws wn) := bel HBc.out hb
          clear hb
          have Sn := old_of HBc.out
          refine hK.out _ _ Sn (fun hHeld => ?_)
          clear hK K Sn
          (try simp only [List.getElem_toArray, List.getElem_cons_zero, List.getElem_cons_succ, Act.put, List.setIfInBounds_toArray, List.set_cons_zero, List.set_cons_succ])
          obtain ⟨wc, rfl⟩ : ∃ w' : World, w' = wn := ⟨_, rfl⟩
          refine wpAnyH_ready (rs := [6]) (by kernel_rfl) (by simp) ?_
          refine (AllReadyH.cons rfl (fun K hK => ?_) AllReadyH.nil)
          · go_simp
            go_at_call 76
            refine (copyNodes_any N _ B.D _ (HBK.out.go HBc.out).nodes (Nat.le_trans HNS.out HBc.out.size) h40n hqn.out).mono ?_
            rintro _ wn ⟨v11, rfl, hnd, hb⟩
            have r2 : Hid (Pair wn ws.heap.size wn.heap.size v8 v11 B) := ⟨_, .inl ⟨r8.out.grow hb, hnd⟩⟩
            clear r8
            clear hnd
            replace e : Hid (wn.heap[gE]? = some (Obj.cells #[.slice none 0 0, .slice none 0 0, .slice none 0 0] 26)) := keep_blk hb e.out
            replace HBc : Hid (Below ws.heap.size ws wn) := bel HBc.out hb
            clear hb
            have Sn := old_of HBc.out
            refine hK.out _ _ Sn (fun hHeld => ?_)
            clear hK K Sn
            (try simp only [List.getElem_toArray, List.getElem_cons_zero, List.getElem_cons_succ, Act.put, List.setIfInBounds_toArray, List.set_cons_zero, List.set_cons_succ])
            obtain ⟨wc, rfl⟩ : ∃ w' : World, w' = wn := ⟨_, rfl⟩
            obtain ⟨g8, p8, rfl⟩ := r2.out.form1
            obtain ⟨g11, p11, rfl⟩ := r2.out.form2
            (refine wpAnyH_take (i := 7) (v := ?_) rfl (by kernel_rfl) (by kernel_rfl) (by kernel_rfl) (fun _ _ _ h => h) (Or.inl ⟨by rfl, ?_⟩) (by assumption) ?_; rotate_left; (focus (intro w hSw; (try dsimp only at hSw); go_simp; (try with_reducible rfl))); (try simp only [List.getElem_toArray, List.getElem_cons_zero, List.getElem_cons_succ, Act.put, List.setIfInBounds_toArray, List.set_cons_zero, List.set_cons_succ]))
            refine wpAnyH_ready (rs := [9]) (by kernel_rfl) (by simp) ?_
            refine AllReadyH.cons rfl (fun K hK => ?_) AllReadyH.nil
            have z0 := cell_blk e.out 0 rfl
            have z1 := cell_blk e.out 1 rfl
            have z2 := cell_blk e.out 2 rfl
            have y := frozen_blk e.out
            go_simp
            have F := store_three e.out (.slice (some ⟨g8, 0, none⟩) B.nv p8) (.slice none 0 0) (.slice (some ⟨g11, 0, none⟩) B.D.n p11)
            obtain ⟨wn, hwn⟩ : ∃ wn : World, (((wc.setCell ⟨gE, 0, none⟩ (.slice (some ⟨g8, 0, none⟩) B.nv p8)).setCell ⟨gE, 1, none⟩ (.slice none 0 0)).setCell ⟨gE, 2, none⟩ (.slice (some ⟨g11, 0, none⟩) B.D.n p11)) = wn := ⟨_, rfl⟩
            rw [hwn] at F ⊢
            obtain ⟨f1, f2, f3⟩ := F
            have HBn : Hid (Below ws.heap.size ws wn) := HBc.out.trans (f2 _ hge.out)
            have Sn := old_of HBn.out
            have r3 : Hid (Pair wn ws.heap.size wn.heap.size (.slice (some ⟨g8, 0, none⟩) B.nv p8) (.slice (some ⟨g11, 0, none⟩) B.D.n p11) B) := (r2.out.other (fun k cs t ht hg => f3 k cs t (by rcases ht with rfl | rfl <;> decide) hg)).wider (by rw [← hwn]; simp [World.setCell])
            clear hwn f2 f3 r2
            refine hK.out _ _ Sn (fun hHeld => ?_)
            clear hK K Sn
            refine wpAnyH_done (by kernel_rfl) ?_ _
            clear hHeld
            go_wp2_with fail
            go_meet
            exact ⟨gE, _, _, rfl, hge.out, HBn.out, r3.out, f1⟩
      · go_simp
        obtain ⟨wn, hwn⟩ : ∃ wn : World, wc.alloc (Obj.cells #[.slice none 0 0, .slice none 0 0, .slice none 0 0] 26) = wn := ⟨_, rfl⟩
        rw [hwn]
        have hb : Below wc.heap.size wc wn := (by rw [← hwn]; exact below_alloc (Nat.le_refl _) _)
        have e : Hid (wn.heap[wc.heap.size]? = some (Obj.cells #[.slice none 0 0, .slice none 0 0, .slice none 0 0] 26)) := (by rw [← hwn]; exact World.alloc_heap_new _ _)
        have hge : Hid (ws.heap.size ≤ wc.heap.size) := HBc.out.size
        obtain ⟨gE, hgE⟩ : ∃ g, wc.heap.size = g := ⟨_, rfl⟩
        rw [hgE] at e hge ⊢
        clear hwn hgE
        replace HBc : Hid (Below ws.heap.size ws wn) := bel HBc.out hb
        clear hb
        have Sn := old_of HBc.out
        refine hK.out _ _ Sn (fun hHeld => ?_)
        clear hK K Sn
        (try simp only [List.getElem_toArray, List.getElem_cons_zero, List.getElem_cons_succ, Act.put, List.setIfInBounds_toArray, List.set_cons_zero, List.set_cons_succ])
        obtain ⟨wc, rfl⟩ : ∃ w' : World, w' = wn := ⟨_, rfl⟩
        refine wpAnyH_ready (rs := [3]) (by kernel_rfl) (by simp) ?_
        refine (AllReadyH.cons rfl (fun K hK => ?_) AllReadyH.nil)
        · rw [if_pos (by rfl)]
          refine wp_clone _ (.tmp 5) (.tmp 7) ?_ ?_ N g5 _ B.nv _ B.V ?_ ?_ (HBK.out.go HBc.out).vals h40v ?_
          any_goals (exact rfl)
          intro v8 wn hrow hb
          have r8 : Hid (RowIn wn ws.heap.size wn.heap.size v8 B.nv B.V) := hrow.wider HBc.out.size (Nat.le_refl _)
          clear hrow
          replace e : Hid (wn.heap[gE]? = some (Obj.cells #[.slice none 0 0, .slice none 0 0, .slice none 0 0] 26)) := keep_blk hb e.out
          replace HBc : Hid (Below ws.heap.size ws wn) := bel HBc.out hb
          clear hb
          have Sn := old_of HBc.out
          refine hK.out _ _ Sn (fun hHeld => ?_)
          clear hK K Sn
          (try simp only [List.getElem_toArray, List.getElem_cons_zero, List.getElem_cons_succ, Act.put, List.setIfInBounds_toArray, List.set_cons_zero, List.set_cons_succ])
          obtain ⟨wc, rfl⟩ : ∃ w' : World, w' = wn := ⟨_, rfl⟩
          refine wpAnyH_ready (rs := [6]) (by kernel_rfl) (by simp) ?_
          refine (AllReadyH.cons rfl (fun K hK => ?_) AllReadyH.nil)
          · go_simp
            go_at_call 76
            refine (copyNodes_any N _ B.D _ (HBK.out.go HBc.out).nodes (Nat.le_trans HNS.out HBc.out.size) h40n hqn.out).mono ?_
            rintro _ wn ⟨v11, rfl, hnd, hb⟩
            have r2 : Hid (Pair wn ws.heap.size wn.heap.size v8 v11 B) := ⟨_, .inl ⟨r8.out.grow hb, hnd⟩⟩
            clear r8
            clear hnd
            replace e : Hid (wn.heap[gE]? = some (Obj.cells #[.slice none 0 0, .slice none 0 0, .slice none 0 0] 26)) := keep_blk hb e.out
            replace HBc : Hid (Below ws.heap.size ws wn) := bel HBc.out hb
            clear hb
            have Sn := old_of HBc.out
            refine hK.out _ _ Sn (fun hHeld => ?_)
            clear hK K Sn
            (try simp only [List.getElem_toArray, List.getElem_cons_zero, List.getElem_cons_succ, Act.put, List.setIfInBounds_toArray, List.set_cons_zero, List.set_cons_succ])
            obtain ⟨wc, rfl⟩ : ∃ w' : World, w' = wn := ⟨_, rfl⟩
            obtain ⟨g8, p8, rfl⟩ := r2.out.form1
            obtain ⟨g11, p11, rfl⟩ := r2.out.form2
            (refine wpAnyH_take (i := 7) (v := ?_) rfl (by kernel_rfl) (by kernel_rfl) (by kernel_rfl) (fun _ _ _ h => h) (Or.inl ⟨by rfl, ?_⟩) (by assumption) ?_; rotate_left; (focus (intro w hSw; (try dsimp only at hSw); go_simp; (try with_reducible rfl))); (try simp only [List.getElem_toArray, List.getElem_cons_zero, List.getElem_cons_succ, Act.put, List.setIfInBounds_toArray, List.set_cons_zero, List.set_cons_succ]))
            refine wpAnyH_ready (rs := [9]) (by kernel_rfl) (by simp) ?_
            refine AllReadyH.cons rfl (fun K hK => ?_) AllReadyH.nil
            have z0 := cell_blk e.out 0 rfl
            have z1 := cell_blk e.out 1 rfl
            have z2 := cell_blk e.out 2 rfl
            have y := frozen_blk e.out
            go_simp
            have F := store_three e.out (.slice (some ⟨g8, 0, none⟩) B.nv p8) (.slice none 0 0) (.slice (some ⟨g11, 0, none⟩) B.D.n p11)
            obtain ⟨wn, hwn⟩ : ∃ wn : World, (((wc.setCell ⟨gE, 0, none⟩ (.slice (some ⟨g8, 0, none⟩) B.nv p8)).setCell ⟨gE, 1, none⟩ (.slice none 0 0)).setCell ⟨gE, 2, none⟩ (.slice (some ⟨g11, 0, none⟩) B.D.n p11)) = wn := ⟨_, rfl⟩
            rw [hwn] at F ⊢
            obtain ⟨f1, f2, f3⟩ := F
            have HBn : Hid (Below ws.heap.size ws wn) := HBc.out.trans (f2 _ hge.out)
            have Sn := old_of HBn.out
            have r3 : Hid (Pair wn ws.heap.size wn.heap.size (.slice (some ⟨g8, 0, none⟩) B.nv p8) (.slice (some ⟨g11, 0, none⟩) B.D.n p11) B) := (r2.out.other (fun k cs t ht hg => f3 k cs t (by rcases ht with rfl | rfl <;> decide) hg)).wider (by rw [← hwn]; simp [World.setCell])
            clear hwn f2 f3 r2
            refine hK.out _ _ Sn (fun hHeld => ?_)
            clear hK K Sn
            refine wpAnyH_done (by kernel_rfl) ?_ _
            clear hHeld
            go_wp2_with fail
            go_meet
            exact ⟨gE, _, _, rfl, hge.out, HBn.out, r3.out, f1⟩
    · go_simp
      obtain ⟨wn, hwn⟩ : ∃ wn : World, wc.alloc (Obj.cells #[.slice none 0 0, .slice none 0 0, .slice none 0 0] 26) = wn := ⟨_, rfl⟩
      rw [hwn]
      have hb : Below wc.heap.size wc wn := (by rw [← hwn]; exact below_alloc (Nat.le_refl _) _)
      have e : Hid (wn.heap[wc.heap.size]? = some (Obj.cells #[.slice none 0 0, .slice none 0 0, .slice none 0 0] 26)) := (by rw [← hwn]; exact World.alloc_heap_new _ _)
      have hge : Hid (ws.heap.size ≤ wc.heap.size) := HBc.out.size
      obtain ⟨gE, hgE⟩ : ∃ g, wc.heap.size = g := ⟨_, rfl⟩
      rw [hgE] at e hge ⊢
      clear hwn hgE
      replace HBc : Hid (Below ws.heap.size ws wn) := bel HBc.out hb
      clear hb
      have Sn := old_of HBc.out
      refine hK.out _ _ Sn (fun hHeld => ?_)
      clear hK K Sn
      (try simp only [List.getElem_toArray, List.getElem_cons_zero, List.getElem_cons_succ, Act.put, List.setIfInBounds_toArray, List.set_cons_zero, List.set_cons_succ])
      obtain ⟨wc, rfl⟩ : ∃ w' : World, w' = wn := ⟨_, rfl⟩
      refine wpAnyH_ready (rs := [0]) (by kernel_rfl) (by simp) ?_
      refine (AllReadyH.cons rfl (fun K hK => ?_) AllReadyH.nil)
      · go_simp
        obtain ⟨wn, hwn⟩ : ∃ wn : World, wc.alloc (.cells #[] 3) = wn := ⟨_, rfl⟩
        rw [hwn]
        have hb : Below wc.heap.size wc wn := (by rw [← hwn]; exact below_alloc (Nat.le_refl _) _)
        clear hwn
        obtain ⟨g5, hg⟩ : ∃ g, wc.heap.size = g := ⟨_, rfl⟩
        rw [hg]
        clear hg
        replace e : Hid (wn.heap[gE]? = some (Obj.cells #[.slice none 0 0, .slice none 0 0, .slice none 0 0] 26)) := keep_blk hb e.out
        replace HBc : Hid (Below ws.heap.size ws wn) := bel HBc.out hb
        clear hb
        have Sn := old_of HBc.out
        refine hK.out _ _ Sn (fun hHeld => ?_)
        clear hK K Sn
        (try simp only [List.getElem_toArray, List.getElem_cons_zero, List.getElem_cons_succ, Act.put, List.setIfInBounds_toArray, List.set_cons_zero, List.set_cons_succ])
        obtain ⟨wc, rfl⟩ : ∃ w' : World, w' = wn := ⟨_, rfl⟩
        refine wpAnyH_ready (rs := [3]) (by kernel_rfl) (by simp) ?_
        refine (AllReadyH.cons rfl (fun K hK => ?_) AllReadyH.nil)
        · rw [if_pos (by rfl)]
          refine wp_clone _ (.tmp 5) (.tmp 7) ?_ ?_ N g5 _ B.nv _ B.V ?_ ?_ (HBK.out.go HBc.out).vals h40v ?_
          any_goals (exact rfl)
          intro v8 wn hrow hb
          have r8 : Hid (RowIn wn ws.heap.size wn.heap.size v8 B.nv B.V) := hrow.wider HBc.out.size (Nat.le_refl _)
          clear hrow
          replace e : Hid (wn.heap[gE]? = some (Obj.cells #[.slice none 0 0, .slice none 0 0, .slice none 0 0] 26)) := keep_blk hb e.out
          replace HBc : Hid (Below ws.heap.size ws wn) := bel HBc.out hb
          clear hb
          have Sn := old_of HBc.out
          refine hK.out _ _ Sn (fun hHeld => ?_)
          clear hK K Sn
          (try simp only [List.getElem_toArray, List.getElem_cons_zero, List.getElem_cons_succ, Act.put, List.setIfInBounds_toArray, List.set_cons_zero, List.set_cons_succ])
          obtain ⟨wc, rfl⟩ : ∃ w' : World, w' = wn := ⟨_, rfl⟩
          refine wpAnyH_ready (rs := [6]) (by kernel_rfl) (by simp) ?_
          refine (AllReadyH.cons rfl (fun K hK => ?_) AllReadyH.nil)
          · go_simp
            go_at_call 76
            refine (copyNodes_any N _ B.D _ (HBK.out.go HBc.out).nodes (Nat.le_trans HNS.out HBc.out.size) h40n hqn.out).mono ?_
            rintro _ wn ⟨v11, rfl, hnd, hb⟩
            have r2 : Hid (Pair wn ws.heap.size wn.heap.size v8 v11 B) := ⟨_, .inl ⟨r8.out.grow hb, hnd⟩⟩
            clear r8
            clear hnd
            replace e : Hid (wn.heap[gE]? = some (Obj.cells #[.slice none 0 0, .slice none 0 0, .slice none 0 0] 26)) := keep_blk hb e.out
            replace HBc : Hid (Below ws.heap.size ws wn) := bel HBc.out hb
            clear hb
            have Sn := old_of HBc.out
            refine hK.out _ _ Sn (fun hHeld => ?_)
            clear hK K Sn
            (try simp only [List.getElem_toArray, List.getElem_cons_zero, List.getElem_cons_succ, Act.put, List.setIfInBounds_toArray, List.set_cons_zero, List.set_cons_succ])
            obtain ⟨wc, rfl⟩ : ∃ w' : World, w' = wn := ⟨_, rfl⟩
            obtain ⟨g8, p8, rfl⟩ := r2.out.form1
            obtain ⟨g11, p11, rfl⟩ := r2.out.form2
            (refine wpAnyH_take (i := 7) (v := ?_) rfl (by kernel_rfl) (by kernel_rfl) (by kernel_rfl) (fun _ _ _ h => h) (Or.inl ⟨by rfl, ?_⟩) (by assumption) ?_; rotate_left; (focus (intro w hSw; (try dsimp only at hSw); go_simp; (try with_reducible rfl))); (try simp only [List.getElem_toArray, List.getElem_cons_zero, List.getElem_cons_succ, Act.put, List.setIfInBounds_toArray, List.set_cons_zero, List.set_cons_succ]))
            refine wpAnyH_ready (rs := [9]) (by kernel_rfl) (by simp) ?_
            refine AllReadyH.cons rfl (fun K hK => ?_) AllReadyH.nil
            have z0 := cell_blk e.out 0 rfl
            have z1 := cell_blk e.out 1 rfl
            have z2 := cell_blk e.out 2 rfl
            have y := frozen_blk e.out
            go_simp
            have F := store_three e.out (.slice (some ⟨g8, 0, none⟩) B.nv p8) (.slice none 0 0) (.slice (some ⟨g11, 0, none⟩) B.D.n p11)
            obtain ⟨wn, hwn⟩ : ∃ wn : World, (((wc.setCell ⟨gE, 0, none⟩ (.slice (some ⟨g8, 0, none⟩) B.nv p8)).setCell ⟨gE, 1, none⟩ (.slice none 0 0)).setCell ⟨gE, 2, none⟩ (.slice (some ⟨g11, 0, none⟩) B.D.n p11)) = wn := ⟨_, rfl⟩
            rw [hwn] at F ⊢
            obtain ⟨f1, f2, f3⟩ := F
            have HBn : Hid (Below ws.heap.size ws wn) := HBc.out.trans (f2 _ hge.out)
            have Sn := old_of HBn.out
            have r3 : Hid (Pair wn ws.heap.size wn.heap.size (.slice (some ⟨g8, 0, none⟩) B.nv p8) (.slice (some ⟨g11, 0, none⟩) B.D.n p11) B) := (r2.out.other (fun k cs t ht hg => f3 k cs t (by rcases ht with rfl | rfl <;> decide) hg)).wider (by rw [← hwn]; simp [World.setCell])
            clear hwn f2 f3 r2
            refine hK.out _ _ Sn (fun hHeld => ?_)
            clear hK K Sn
            refine wpAnyH_done (by kernel_rfl) ?_ _
            clear hHeld
            go_wp2_with fail
            go_meet
            exact ⟨gE, _, _, rfl, hge.out, HBn.out, r3.out, f1⟩
  case rest =>
    obtain ⟨gE, v8, v11, rfl, hcut⟩ := hcut
    obtain ⟨i1, hi, hz0, hz1, hz2⟩ := info_parts Try.infoInts
    obtain ⟨mS, hmS⟩ : ∃ m, wc.heap.size = m := ⟨_, rfl⟩
    have HX : Hid (CopyRun wc ws mS gE v8 v11 (.slice none 0 0) 0 B) := by
      obtain ⟨h1, h2, h3, h4⟩ := hcut
      subst hmS
      exact ⟨h1, (Array.getElem?_eq_some_iff.1 h4).1, h2, h3, h4, Nat.le_refl _, rowsIn_nil _ _ _ _ _ _ (Nat.le_refl _) rfl⟩
    clear hcut hmS S0d HB0d
    go_wp2
    go_loopw [4] (fun i wr => ∃ k : Nat, k ≤ B.ns ∧ i = .int .i64 k ∧ ∃ vS, Hid (CopyRun wr ws mS gE v8 v11 vS k B)) (fun i _ => B.ns - (intOf i).toNat)
    case atStart => exact ⟨0, Nat.zero_le _, rfl, _, HX.out⟩
    case round =>
      obtain ⟨k, hk, rfl, vS, hrun⟩ := hrel
      have hB := hrun.out.2.2.1
      have cr := (old_of hB).1
      have hszr := Nat.lt_of_lt_of_le hsz hB.size
      by_cases hkn : k < B.ns
      · obtain ⟨b3, o3, rfl, hb3, hr3⟩ := HBK.out.sorts.cells (by omega)
        obtain ⟨ao, cap, hq3, hik⟩ := hr3 k hkn
        have HIk := Lib.hid hik
        clear hr3 hik
        have hnsv := hns.out
        have hb3s : b3 < ws.heap.size := Nat.lt_of_lt_of_le hb3 HNS.out
        have hkni : (k : Int) < (B.ns : Int) := by omega
        obtain ⟨hg1, hg2, _, HT0, hE0, hM0, hS0⟩ := hrun.out
        have HBc : Hid (Below ws.heap.size ws wr.drew) := hB.drew
        have HT : Hid (Pair wr.drew ws.heap.size mS v8 v11 B) := HT0
        have HEc : Hid (wr.drew.heap[gE]? = some (Obj.cells #[v8, vS, v11] 26)) := hE0
        have hgE : Hid (ws.heap.size ≤ gE ∧ gE < mS) := ⟨hg1, hg2⟩
        have HM : Hid (mS ≤ wr.drew.heap.size) := hM0
        have HmS : Hid (ws.heap.size ≤ mS) := Nat.le_of_lt (Nat.lt_of_le_of_lt hg1 hg2)
        obtain ⟨av, cv, rfl⟩ := hS0.form
        obtain ⟨rows, M, ho, _, hlen, h0, hM, hm, hr⟩ := hS0
        have HO : Hid (wr.drew.ownsRow mS 22 1 (.slice av k cv) k rows) := ho
        have HR : Hid (∀ j, j < k → ∃ r, rows[j]? = some r ∧ RowIn wr.drew (M j) (M (j + 1)) r (B.L j) (B.X j)) := hr
        have HH : Hid (rows.length = k ∧ mS ≤ M 0 ∧ M k ≤ wr.drew.heap.size ∧ ∀ j, j < k → M j ≤ M (j + 1)) := ⟨hlen, h0, hM, hm⟩
        clear hg1 hg2 HT0 hE0 hM0 ho hlen h0 hM hm hr hrun hB
        go_wp2
        clear cr hszr
        have Sd := old_of HBc.out
        refine wp_region_held_drew (S := (fun w' => (∀ b o, b < ws.heap.size → w'.cell? ⟨b, o, none⟩ = ws.cell? ⟨b, o, none⟩) ∧ Hid (Below ws.heap.size ws w'))) (by kernel_rfl) Sd (fun hHeld => ?_)
        clear Sd
        obtain ⟨wc, hwc⟩ : ∃ w' : World, wr.drew = w' := ⟨_, rfl⟩
        rw [hwc] at HBc HT HEc HM HO HR HH ⊢
        clear hwc
        have Sd := old_of HBc.out
        (refine wpAnyH_take (i := 0) (v := ?_) rfl (by kernel_rfl) (by kernel_rfl) (by kernel_rfl) (fun _ _ _ h => h) (Or.inl ⟨by rfl, ?_⟩) (by assumption) ?_; rotate_left; (focus (intro w hSw; (try dsimp only at hSw); go_simp; (try with_reducible rfl))); (try simp only [List.getElem_toArray, List.getElem_cons_zero, List.getElem_cons_succ, Act.put, List.setIfInBounds_toArray, List.set_cons_zero, List.set_cons_succ]))
        (refine wpAnyH_take (i := 3) (v := ?_) rfl (by kernel_rfl) (by kernel_rfl) (by kernel_rfl) (fun _ _ _ h => h) (Or.inl ⟨by rfl, ?_⟩) (by assumption) ?_; rotate_left; (focus (intro w hSw; (try dsimp only at hSw); go_simp; (try with_reducible rfl))); (try simp only [List.getElem_toArray, List.getElem_cons_zero, List.getElem_cons_succ, Act.put, List.setIfInBounds_toArray, List.set_cons_zero, List.set_cons_succ])); (refine wpAnyH_take (i := 4) (v := ?_) rfl (by kernel_rfl) (by kernel_rfl) (by kernel_rfl) (fun _ _ _ h => h) (Or.inl ⟨by rfl, ?_⟩) (by assumption) ?_; rotate_left; (focus (intro w hSw; (try dsimp only at hSw); go_simp; (try with_reducible rfl))); (try simp only [List.getElem_toArray, List.getElem_cons_zero, List.getElem_cons_succ, Act.put, List.setIfInBounds_toArray, List.set_cons_zero, List.set_cons_succ])); (refine wpAnyH_take (i := 5) (v := ?_) rfl (by kernel_rfl) (by kernel_rfl) (by kernel_rfl) (fun _ _ _ h => h) (Or.inl ⟨by rfl, ?_⟩) (by assumption) ?_; rotate_left; (focus (intro w hSw; (try dsimp only at hSw); go_simp; (try with_reducible rfl))); (try simp only [List.getElem_toArray, List.getElem_cons_zero, List.getElem_cons_succ, Act.put, List.setIfInBounds_toArray, List.set_cons_zero, List.set_cons_succ])); (refine wpAnyH_take (i := 6) (v := ?_) rfl (by kernel_rfl) (by kernel_rfl) (by kernel_rfl) (fun _ _ _ h => h) (Or.inl ⟨by rfl, ?_⟩) (by assumption) ?_; rotate_left; (focus (intro w hSw; (try dsimp only at hSw); go_simp; (try with_reducible rfl))); (try simp only [List.getElem_toArray, List.getElem_cons_zero, List.getElem_cons_succ, Act.put, List.setIfInBounds_toArray, List.set_cons_zero, List.set_cons_succ])); (refine wpAnyH_take (i := 7) (v := ?_) rfl (by kernel_rfl) (by kernel_rfl) (by kernel_rfl) (fun _ _ _ h => h) (Or.inl ⟨by rfl, ?_⟩) (by assumption) ?_; rotate_left; (focus (intro w hSw; (try dsimp only at hSw); go_simp; (try with_reducible rfl))); (try simp only [List.getElem_toArray, List.getElem_cons_zero, List.getElem_cons_succ, Act.put, List.setIfInBounds_toArray, List.set_cons_zero, List.set_cons_succ]))
        clear Sd
        obtain ⟨vS, hvS⟩ : ∃ vS : Value, .slice av k cv = vS := ⟨_, rfl⟩
        rw [hvS] at HEc HO
        clear hvS
        refine wpAnyH_ready (rs := [1, 2]) (by kernel_rfl) (by simp) ?_
        refine (AllReadyH.cons rfl (fun K hK => ?_) (AllReadyH.cons rfl (fun K hK => ?_) AllReadyH.nil))
        · have x1 := cell_blk HEc.out 1 rfl
          go_simp
          have Sn := old_of HBc.out
          refine hK.out _ _ Sn (fun hHeld => ?_)
          clear hK K Sn
          (try simp only [List.getElem_toArray, List.getElem_cons_zero, List.getElem_cons_succ, Act.put, List.setIfInBounds_toArray, List.set_cons_zero, List.set_cons_succ])
          clear x1
          refine wpAnyH_ready (rs := [2]) (by kernel_rfl) (by simp) ?_
          refine (AllReadyH.cons rfl (fun K hK => ?_) AllReadyH.nil)
          · go_simp
            obtain ⟨wn, hwn⟩ : ∃ wn : World, wc.alloc (.cells #[] 3) = wn := ⟨_, rfl⟩
            rw [hwn]
            have hb : Below wc.heap.size wc wn := (by rw [← hwn]; exact below_alloc (Nat.le_refl _) _)
            clear hwn
            obtain ⟨g5, hg⟩ : ∃ g, wc.heap.size = g := ⟨_, rfl⟩
            rw [hg]
            clear hg
            replace HBc : Hid (Below ws.heap.size ws wn) := bel HBc.out hb
            replace HEc : Hid (wn.heap[gE]? = some (Obj.cells #[v8, vS, v11] 26)) := keep_blk hb HEc.out
            replace HO := Lib.hid (own_below HO.out hb)
            have HB0' := Lib.hid hb
            clear hb
            have Sn := old_of HBc.out
            refine hK.out _ _ Sn (fun hHeld => ?_)
            clear hK K Sn
            (try simp only [List.getElem_toArray, List.getElem_cons_zero, List.getElem_cons_succ, Act.put, List.setIfInBounds_toArray, List.set_cons_zero, List.set_cons_succ])
            refine wpAnyH_ready (rs := [8]) (by kernel_rfl) (by simp) ?_
            refine (AllReadyH.cons rfl (fun K hK => ?_) AllReadyH.nil)
            · rw [if_pos (by rfl)]
              refine wp_clone _ (.tmp 22) (.tmp 27) ?_ ?_ N g5 _ (B.L k) _ (B.X k) ?_ ?_ (HIk.out.mono (HBc.out.mono HNS.out) (Nat.le_refl _)) (hlim.out k hkn) ?_
              any_goals (exact rfl)
              intro v1 wn hrow hb
              obtain ⟨ar1, cr1, rfl⟩ := hrow.form
              have HR1 : Hid (RowIn wn wc.heap.size wn.heap.size (.slice (some ⟨ar1, 0, none⟩) (B.L k) cr1) (B.L k) (B.X k)) := hrow.wider HB0'.out.size (Nat.le_refl _)
              replace HBc : Hid (Below ws.heap.size ws wn) := bel HBc.out hb
              replace HEc : Hid (wn.heap[gE]? = some (Obj.cells #[v8, vS, v11] 26)) := keep_blk hb HEc.out
              replace HO := Lib.hid (own_below HO.out hb)
              have HB1 : Hid (Below wc.heap.size wc wn) := bel HB0'.out hb
              clear hrow hb HB0'
              have Sn := old_of HBc.out
              refine hK.out _ _ Sn (fun hHeld => ?_)
              clear hK K Sn
              (try simp only [List.getElem_toArray, List.getElem_cons_zero, List.getElem_cons_succ, Act.put, List.setIfInBounds_toArray, List.set_cons_zero, List.set_cons_succ])
              refine wpAnyH_ready (rs := [9]) (by kernel_rfl) (by simp) ?_
              refine (AllReadyH.cons rfl (fun K hK => ?_) AllReadyH.nil)
              · go_simp
                obtain ⟨w2, hw2⟩ : ∃ w2 : World, wn.alloc (.cells #[.slice (some ⟨ar1, 0, none⟩) (B.L k) cr1] 22) = w2 := ⟨_, rfl⟩
                rw [hw2]
                have hb : Below wn.heap.size wn w2 := (by rw [← hw2]; exact below_alloc (Nat.le_refl _) _)
                have HC2 : Hid (w2.heap[wn.heap.size]? = some (Obj.cells #[.slice (some ⟨ar1, 0, none⟩) (B.L k) cr1] 22)) := (by rw [← hw2]; exact World.alloc_heap_new _ _)
                replace HBc : Hid (Below ws.heap.size ws w2) := bel HBc.out hb
                replace HEc : Hid (w2.heap[gE]? = some (Obj.cells #[v8, vS, v11] 26)) := keep_blk hb HEc.out
                replace HO := Lib.hid (own_below HO.out hb)
                have HB2 := Lib.hid hb
                clear hb hw2
                have Sn := old_of HBc.out
                refine hK.out _ _ Sn (fun hHeld => ?_)
                clear hK K Sn
                (try simp only [List.getElem_toArray, List.getElem_cons_zero, List.getElem_cons_succ, Act.put, List.setIfInBounds_toArray, List.set_cons_zero, List.set_cons_succ])
                refine wpAnyH_ready (rs := [10]) (by kernel_rfl) (by simp) ?_
                refine (AllReadyH.cons rfl (fun K hK => ?_) AllReadyH.nil)
                · rw [if_pos (by rfl)]
                  refine wp_append_own _ (.tmp 21) (.tmp 29) 23 ?_ mS 22 i1 (.slice none 0 0) 1 24 Try.underlying23 hi hz0 hz1 hz2 rfl (by decide) _ _ _ ?_ HO.out ⟨wn.heap.size, 0, none⟩ 1 1 [.slice (some ⟨ar1, 0, none⟩) (B.L k) cr1] ?_ rfl (fun j u hj => by rw [addr_add, Nat.zero_add]; exact cell_blk HC2.out j (by simpa using hj)) (by simp [Value.oneCell']) (by have := hns.out; unfold maxLen; omega) (by have := hns.out; omega) (by have := HM.out; have := HB1.out.size; have := HB2.out.size; omega) ?_
                  any_goals (exact rfl)
                  intro v' w3 hown3 hgrow _
                  obtain ⟨av', cv', rfl⟩ := own_formG hown3
                  have HO3 := Lib.hid hown3
                  have HG3 := Lib.hid hgrow
                  have HBd : Hid (Below ws.heap.size ws w3) := HBc.out.grown hgrow HBc.out.size (fun j e => by have := (HO.out.lt j e).1; have := HM.out; have := HmS.out; omega)
                  have HE3 : Hid (w3.heap[gE]? = some (Obj.cells #[v8, vS, v11] 26)) := (hgrow.block gE (Array.getElem?_eq_some_iff.1 HEc.out).1 (own_apart HO.out HEc.out (by decide))).trans HEc.out
                  clear hown3 hgrow
                  have Sn := old_of HBd.out
                  refine hK.out _ _ Sn (fun hHeld => ?_)
                  clear hK K
                  (try simp only [List.getElem_toArray, List.getElem_cons_zero, List.getElem_cons_succ, Act.put, List.setIfInBounds_toArray, List.set_cons_zero, List.set_cons_succ])
                  (refine wpAnyH_take (i := 11) (v := ?_) rfl (by kernel_rfl) (by kernel_rfl) (by kernel_rfl) (fun _ _ _ h => h) (Or.inl ⟨by rfl, ?_⟩) (by assumption) ?_; rotate_left; (focus (intro w hSw; (try dsimp only at hSw); go_simp; (try with_reducible rfl))); (try simp only [List.getElem_toArray, List.getElem_cons_zero, List.getElem_cons_succ, Act.put, List.setIfInBounds_toArray, List.set_cons_zero, List.set_cons_succ]))
                  clear Sn
                  refine wpAnyH_ready (rs := [12]) (by kernel_rfl) (by simp) ?_
                  refine (AllReadyH.cons rfl (fun K hK => ?_) AllReadyH.nil)
                  · have z1 := cell_blk HE3.out 1 rfl
                    have y := frozen_blk HE3.out
                    go_simp
                    clear z1 y
                    obtain ⟨w4, hw4⟩ : ∃ w4 : World, w3.setCell ⟨gE, 1, none⟩ (.slice av' (k + 1) cv') = w4 := ⟨_, rfl⟩
                    rw [hw4]
                    have HF := Lib.hid (store_mid HE3.out (.slice av' (k + 1) cv'))
                    rw [hw4] at HF
                    have HZ : Hid (w4.heap.size = w3.heap.size) := Lib.hid (by rw [← hw4]; simp [World.setCell])
                    clear hw4
                    have HB4 : Hid (Below ws.heap.size ws w4) := HBd.out.trans (HF.out.2.1 _ hgE.out.1)
                    have Sn := old_of HB4.out
                    refine hK.out _ _ Sn (fun hHeld => ?_)
                    clear hK K Sn
                    (try simp only [List.getElem_toArray, List.getElem_cons_zero, List.getElem_cons_succ, Act.put, List.setIfInBounds_toArray, List.set_cons_zero, List.set_cons_succ])
                    refine wpAnyH_done (by kernel_rfl) ?_ _
                    clear hHeld
                    go_wp2
                    go_roundw
                    case rel =>
                      refine ⟨k + 1, by omega, by go_num, .slice av' (k + 1) cv', ?_⟩
                      obtain ⟨f1, f2, f3⟩ := HF.out
                      obtain ⟨hlen, h0, hM, hm⟩ := HH.out
                      have hs1 := HB1.out.size
                      have hs2 := HB2.out.size
                      have hs3 := HG3.out.size
                      refine ⟨hgE.out.1, hgE.out.2, HB4.out, ?_, f1, by have := HM.out; rw [HZ.out]; omega, ?_⟩
                      · refine (((HT.out.grow HB1.out).grow HB2.out).other fun j cs t ht hg => ?_).other fun j cs t ht hg => f3 j cs t (by rcases ht with rfl | rfl <;> decide) hg
                        exact HG3.out.block j (Array.getElem?_eq_some_iff.1 hg).1 (own_apart HO.out hg (by rcases ht with rfl | rfl <;> decide))
                      · rw [HZ.out]
                        have hst := rowsIn_step (w2 := w4) hlen h0 hM hm HR.out HB1.out HR1.out (own_keep HO3.out fun g cur hg => f3 g cur _ (by decide) hg) (fun g cs hg => ?_) (by rw [HZ.out]; omega)
                        · rw [HZ.out] at hst; exact hst
                        · have e2 : w2.heap[g]? = wn.heap[g]? := HB2.out.block g (Array.getElem?_eq_some_iff.1 hg).1
                          have e3 : w3.heap[g]? = w2.heap[g]? := HG3.out.block g (Array.getElem?_eq_some_iff.1 (e2.trans hg)).1 (own_apart HO.out (e2.trans hg) (by decide))
                          rw [f3 g cs _ (by decide) ((e3.trans e2).trans hg), e3, e2]
                    case measure => simp [intOf]; omega
        · go_simp
          obtain ⟨wn, hwn⟩ : ∃ wn : World, wc.alloc (.cells #[] 3) = wn := ⟨_, rfl⟩
          rw [hwn]
          have hb : Below wc.heap.size wc wn := (by rw [← hwn]; exact below_alloc (Nat.le_refl _) _)
          clear hwn
          obtain ⟨g5, hg⟩ : ∃ g, wc.heap.size = g := ⟨_, rfl⟩
          rw [hg]
          clear hg
          replace HBc : Hid (Below ws.heap.size ws wn) := bel HBc.out hb
          replace HEc : Hid (wn.heap[gE]? = some (Obj.cells #[v8, vS, v11] 26)) := keep_blk hb HEc.out
          replace HO := Lib.hid (own_below HO.out hb)
          have HB0' := Lib.hid hb
          clear hb
          have Sn := old_of HBc.out
          refine hK.out _ _ Sn (fun hHeld => ?_)
          clear hK K Sn
          (try simp only [List.getElem_toArray, List.getElem_cons_zero, List.getElem_cons_succ, Act.put, List.setIfInBounds_toArray, List.set_cons_zero, List.set_cons_succ])
          refine wpAnyH_ready (rs := [1, 8]) (by kernel_rfl) (by simp) ?_
          refine (AllReadyH.cons rfl (fun K hK => ?_) (AllReadyH.cons rfl (fun K hK => ?_) AllReadyH.nil))
          · have x1 := cell_blk HEc.out 1 rfl
            go_simp
            have Sn := old_of HBc.out
            refine hK.out _ _ Sn (fun hHeld => ?_)
            clear hK K Sn
            (try simp only [List.getElem_toArray, List.getElem_cons_zero, List.getElem_cons_succ, Act.put, List.setIfInBounds_toArray, List.set_cons_zero, List.set_cons_succ])
            clear x1
            refine wpAnyH_ready (rs := [8]) (by kernel_rfl) (by simp) ?_
            refine (AllReadyH.cons rfl (fun K hK => ?_) AllReadyH.nil)
            · rw [if_pos (by rfl)]
              refine wp_clone _ (.tmp 22) (.tmp 27) ?_ ?_ N g5 _ (B.L k) _ (B.X k) ?_ ?_ (HIk.out.mono (HBc.out.mono HNS.out) (Nat.le_refl _)) (hlim.out k hkn) ?_
              any_goals (exact rfl)
              intro v1 wn hrow hb
              obtain ⟨ar1, cr1, rfl⟩ := hrow.form
              have HR1 : Hid (RowIn wn wc.heap.size wn.heap.size (.slice (some ⟨ar1, 0, none⟩) (B.L k) cr1) (B.L k) (B.X k)) := hrow.wider HB0'.out.size (Nat.le_refl _)
              replace HBc : Hid (Below ws.heap.size ws wn) := bel HBc.out hb
              replace HEc : Hid (wn.heap[gE]? = some (Obj.cells #[v8, vS, v11] 26)) := keep_blk hb HEc.out
              replace HO := Lib.hid (own_below HO.out hb)
              have HB1 : Hid (Below wc.heap.size wc wn) := bel HB0'.out hb
              clear hrow hb HB0'
              have Sn := old_of HBc.out
              refine hK.out _ _ Sn (fun hHeld => ?_)
              clear hK K Sn
              (try simp only [List.getElem_toArray, List.getElem_cons_zero, List.getElem_cons_succ, Act.put, List.setIfInBounds_toArray, List.set_cons_zero, List.set_cons_succ])
              refine wpAnyH_ready (rs := [9]) (by kernel_rfl) (by simp) ?_
              refine (AllReadyH.cons rfl (fun K hK => ?_) AllReadyH.nil)
              · go_simp
                obtain ⟨w2, hw2⟩ : ∃ w2 : World, wn.alloc (.cells #[.slice (some ⟨ar1, 0, none⟩) (B.L k) cr1] 22) = w2 := ⟨_, rfl⟩
                rw [hw2]
                have hb : Below wn.heap.size wn w2 := (by rw [← hw2]; exact below_alloc (Nat.le_refl _) _)
                have HC2 : Hid (w2.heap[wn.heap.size]? = some (Obj.cells #[.slice (some ⟨ar1, 0, none⟩) (B.L k) cr1] 22)) := (by rw [← hw2]; exact World.alloc_heap_new _ _)
                replace HBc : Hid (Below ws.heap.size ws w2) := bel HBc.out hb
                replace HEc : Hid (w2.heap[gE]? = some (Obj.cells #[v8, vS, v11] 26)) := keep_blk hb HEc.out
                replace HO := Lib.hid (own_below HO.out hb)
                have HB2 := Lib.hid hb
                clear hb hw2
                have Sn := old_of HBc.out
                refine hK.out _ _ Sn (fun hHeld => ?_)
                clear hK K Sn
                (try simp only [List.getElem_toArray, List.getElem_cons_zero, List.getElem_cons_succ, Act.put, List.setIfInBounds_toArray, List.set_cons_zero, List.set_cons_succ])
                refine wpAnyH_ready (rs := [10]) (by kernel_rfl) (by simp) ?_
                refine (AllReadyH.cons rfl (fun K hK => ?_) AllReadyH.nil)
                · rw [if_pos (by rfl)]
                  refine wp_append_own _ (.tmp 21) (.tmp 29) 23 ?_ mS 22 i1 (.slice none 0 0) 1 24 Try.underlying23 hi hz0 hz1 hz2 rfl (by decide) _ _ _ ?_ HO.out ⟨wn.heap.size, 0, none⟩ 1 1 [.slice (some ⟨ar1, 0, none⟩) (B.L k) cr1] ?_ rfl (fun j u hj => by rw [addr_add, Nat.zero_add]; exact cell_blk HC2.out j (by simpa using hj)) (by simp [Value.oneCell']) (by have := hns.out; unfold maxLen; omega) (by have := hns.out; omega) (by have := HM.out; have := HB1.out.size; have := HB2.out.size; omega) ?_
                  any_goals (exact rfl)
                  intro v' w3 hown3 hgrow _
                  obtain ⟨av', cv', rfl⟩ := own_formG hown3
                  have HO3 := Lib.hid hown3
                  have HG3 := Lib.hid hgrow
                  have HBd : Hid (Below ws.heap.size ws w3) := HBc.out.grown hgrow HBc.out.size (fun j e => by have := (HO.out.lt j e).1; have := HM.out; have := HmS.out; omega)
                  have HE3 : Hid (w3.heap[gE]? = some (Obj.cells #[v8, vS, v11] 26)) := (hgrow.block gE (Array.getElem?_eq_some_iff.1 HEc.out).1 (own_apart HO.out HEc.out (by decide))).trans HEc.out
                  clear hown3 hgrow
                  have Sn := old_of HBd.out
                  refine hK.out _ _ Sn (fun hHeld => ?_)
                  clear hK K
                  (try simp only [List.getElem_toArray, List.getElem_cons_zero, List.getElem_cons_succ, Act.put, List.setIfInBounds_toArray, List.set_cons_zero, List.set_cons_succ])
                  (refine wpAnyH_take (i := 11) (v := ?_) rfl (by kernel_rfl) (by kernel_rfl) (by kernel_rfl) (fun _ _ _ h => h) (Or.inl ⟨by rfl, ?_⟩) (by assumption) ?_; rotate_left; (focus (intro w hSw; (try dsimp only at hSw); go_simp; (try with_reducible rfl))); (try simp only [List.getElem_toArray, List.getElem_cons_zero, List.getElem_cons_succ, Act.put, List.setIfInBounds_toArray, List.set_cons_zero, List.set_cons_succ]))
                  clear Sn
                  refine wpAnyH_ready (rs := [12]) (by kernel_rfl) (by simp) ?_
                  refine (AllReadyH.cons rfl (fun K hK => ?_) AllReadyH.nil)
                  · have z1 := cell_blk HE3.out 1 rfl
                    have y := frozen_blk HE3.out
                    go_simp
                    clear z1 y
                    obtain ⟨w4, hw4⟩ : ∃ w4 : World, w3.setCell ⟨gE, 1, none⟩ (.slice av' (k + 1) cv') = w4 := ⟨_, rfl⟩
                    rw [hw4]
                    have HF := Lib.hid (store_mid HE3.out (.slice av' (k + 1) cv'))
                    rw [hw4] at HF
                    have HZ : Hid (w4.heap.size = w3.heap.size) := Lib.hid (by rw [← hw4]; simp [World.setCell])
                    clear hw4
                    have HB4 : Hid (Below ws.heap.size ws w4) := HBd.out.trans (HF.out.2.1 _ hgE.out.1)
                    have Sn := old_of HB4.out
                    refine hK.out _ _ Sn (fun hHeld => ?_)
                    clear hK K Sn
                    (try simp only [List.getElem_toArray, List.getElem_cons_zero, List.getElem_cons_succ, Act.put, List.setIfInBounds_toArray, List.set_cons_zero, List.set_cons_succ])
                    refine wpAnyH_done (by kernel_rfl) ?_ _
                    clear hHeld
                    go_wp2
                    go_roundw
                    case rel =>
                      refine ⟨k + 1, by omega, by go_num, .slice av' (k + 1) cv', ?_⟩
                      obtain ⟨f1, f2, f3⟩ := HF.out
                      obtain ⟨hlen, h0, hM, hm⟩ := HH.out
                      have hs1 := HB1.out.size
                      have hs2 := HB2.out.size
                      have hs3 := HG3.out.size
                      refine ⟨hgE.out.1, hgE.out.2, HB4.out, ?_, f1, by have := HM.out; rw [HZ.out]; omega, ?_⟩
                      · refine (((HT.out.grow HB1.out).grow HB2.out).other fun j cs t ht hg => ?_).other fun j cs t ht hg => f3 j cs t (by rcases ht with rfl | rfl <;> decide) hg
                        exact HG3.out.block j (Array.getElem?_eq_some_iff.1 hg).1 (own_apart HO.out hg (by rcases ht with rfl | rfl <;> decide))
                      · rw [HZ.out]
                        have hst := rowsIn_step (w2 := w4) hlen h0 hM hm HR.out HB1.out HR1.out (own_keep HO3.out fun g cur hg => f3 g cur _ (by decide) hg) (fun g cs hg => ?_) (by rw [HZ.out]; omega)
                        · rw [HZ.out] at hst; exact hst
                        · have e2 : w2.heap[g]? = wn.heap[g]? := HB2.out.block g (Array.getElem?_eq_some_iff.1 hg).1
                          have e3 : w3.heap[g]? = w2.heap[g]? := HG3.out.block g (Array.getElem?_eq_some_iff.1 (e2.trans hg)).1 (own_apart HO.out (e2.trans hg) (by decide))
                          rw [f3 g cs _ (by decide) ((e3.trans e2).trans hg), e3, e2]
                    case measure => simp [intOf]; omega
          · rw [if_pos (by rfl)]
            refine wp_clone _ (.tmp 22) (.tmp 27) ?_ ?_ N g5 _ (B.L k) _ (B.X k) ?_ ?_ (HIk.out.mono (HBc.out.mono HNS.out) (Nat.le_refl _)) (hlim.out k hkn) ?_
            any_goals (exact rfl)
            intro v1 wn hrow hb
            obtain ⟨ar1, cr1, rfl⟩ := hrow.form
            have HR1 : Hid (RowIn wn wc.heap.size wn.heap.size (.slice (some ⟨ar1, 0, none⟩) (B.L k) cr1) (B.L k) (B.X k)) := hrow.wider HB0'.out.size (Nat.le_refl _)
            replace HBc : Hid (Below ws.heap.size ws wn) := bel HBc.out hb
            replace HEc : Hid (wn.heap[gE]? = some (Obj.cells #[v8, vS, v11] 26)) := keep_blk hb HEc.out
            replace HO := Lib.hid (own_below HO.out hb)
            have HB1 : Hid (Below wc.heap.size wc wn) := bel HB0'.out hb
            clear hrow hb HB0'
            have Sn := old_of HBc.out
            refine hK.out _ _ Sn (fun hHeld => ?_)
            clear hK K Sn
            (try simp only [List.getElem_toArray, List.getElem_cons_zero, List.getElem_cons_succ, Act.put, List.setIfInBounds_toArray, List.set_cons_zero, List.set_cons_succ])
            refine wpAnyH_ready (rs := [1, 9]) (by kernel_rfl) (by simp) ?_
            refine (AllReadyH.cons rfl (fun K hK => ?_) (AllReadyH.cons rfl (fun K hK => ?_) AllReadyH.nil))
            · have x1 := cell_blk HEc.out 1 rfl
              go_simp
              have Sn := old_of HBc.out
              refine hK.out _ _ Sn (fun hHeld => ?_)
              clear hK K Sn
              (try simp only [List.getElem_toArray, List.getElem_cons_zero, List.getElem_cons_succ, Act.put, List.setIfInBounds_toArray, List.set_cons_zero, List.set_cons_succ])
              clear x1
              refine wpAnyH_ready (rs := [9]) (by kernel_rfl) (by simp) ?_
              refine (AllReadyH.cons rfl (fun K hK => ?_) AllReadyH.nil)
              · go_simp
                obtain ⟨w2, hw2⟩ : ∃ w2 : World, wn.alloc (.cells #[.slice (some ⟨ar1, 0, none⟩) (B.L k) cr1] 22) = w2 := ⟨_, rfl⟩
                rw [hw2]
                have hb : Below wn.heap.size wn w2 := (by rw [← hw2]; exact below_alloc (Nat.le_refl _) _)
                have HC2 : Hid (w2.heap[wn.heap.size]? = some (Obj.cells #[.slice (some ⟨ar1, 0, none⟩) (B.L k) cr1] 22)) := (by rw [← hw2]; exact World.alloc_heap_new _ _)
                replace HBc : Hid (Below ws.heap.size ws w2) := bel HBc.out hb
                replace HEc : Hid (w2.heap[gE]? = some (Obj.cells #[v8, vS, v11] 26)) := keep_blk hb HEc.out
                replace HO := Lib.hid (own_below HO.out hb)
                have HB2 := Lib.hid hb
                clear hb hw2
                have Sn := old_of HBc.out
                refine hK.out _ _ Sn (fun hHeld => ?_)
                clear hK K Sn
                (try simp only [List.getElem_toArray, List.getElem_cons_zero, List.getElem_cons_succ, Act.put, List.setIfInBounds_toArray, List.set_cons_zero, List.set_cons_succ])
                refine wpAnyH_ready (rs := [10]) (by kernel_rfl) (by simp) ?_
                refine (AllReadyH.cons rfl (fun K hK => ?_) AllReadyH.nil)
                · rw [if_pos (by rfl)]
                  refine wp_append_own _ (.tmp 21) (.tmp 29) 23 ?_ mS 22 i1 (.slice none 0 0) 1 24 Try.underlying23 hi hz0 hz1 hz2 rfl (by decide) _ _ _ ?_ HO.out ⟨wn.heap.size, 0, none⟩ 1 1 [.slice (some ⟨ar1, 0, none⟩) (B.L k) cr1] ?_ rfl (fun j u hj => by rw [addr_add, Nat.zero_add]; exact cell_blk HC2.out j (by simpa using hj)) (by simp [Value.oneCell']) (by have := hns.out; unfold maxLen; omega) (by have := hns.out; omega) (by have := HM.out; have := HB1.out.size; have := HB2.out.size; omega) ?_
                  any_goals (exact rfl)
                  intro v' w3 hown3 hgrow _
                  obtain ⟨av', cv', rfl⟩ := own_formG hown3
                  have HO3 := Lib.hid hown3
                  have HG3 := Lib.hid hgrow
                  have HBd : Hid (Below ws.heap.size ws w3) := HBc.out.grown hgrow HBc.out.size (fun j e => by have := (HO.out.lt j e).1; have := HM.out; have := HmS.out; omega)
                  have HE3 : Hid (w3.heap[gE]? = some (Obj.cells #[v8, vS, v11] 26)) := (hgrow.block gE (Array.getElem?_eq_some_iff.1 HEc.out).1 (own_apart HO.out HEc.out (by decide))).trans HEc.out
                  clear hown3 hgrow
                  have Sn := old_of HBd.out
                  refine hK.out _ _ Sn (fun hHeld => ?_)
                  clear hK K
                  (try simp only [List.getElem_toArray, List.getElem_cons_zero, List.getElem_cons_succ, Act.put, List.setIfInBounds_toArray, List.set_cons_zero, List.set_cons_succ])
                  (refine wpAnyH_take (i := 11) (v := ?_) rfl (by kernel_rfl) (by kernel_rfl) (by kernel_rfl) (fun _ _ _ h => h) (Or.inl ⟨by rfl, ?_⟩) (by assumption) ?_; rotate_left; (focus (intro w hSw; (try dsimp only at hSw); go_simp; (try with_reducible rfl))); (try simp only [List.getElem_toArray, List.getElem_cons_zero, List.getElem_cons_succ, Act.put, List.setIfInBounds_toArray, List.set_cons_zero, List.set_cons_succ]))
                  clear Sn
                  refine wpAnyH_ready (rs := [12]) (by kernel_rfl) (by simp) ?_
                  refine (AllReadyH.cons rfl (fun K hK => ?_) AllReadyH.nil)
                  · have z1 := cell_blk HE3.out 1 rfl
                    have y := frozen_blk HE3.out
                    go_simp
                    clear z1 y
                    obtain ⟨w4, hw4⟩ : ∃ w4 : World, w3.setCell ⟨gE, 1, none⟩ (.slice av' (k + 1) cv') = w4 := ⟨_, rfl⟩
                    rw [hw4]
                    have HF := Lib.hid (store_mid HE3.out (.slice av' (k + 1) cv'))
                    rw [hw4] at HF
                    have HZ : Hid (w4.heap.size = w3.heap.size) := Lib.hid (by rw [← hw4]; simp [World.setCell])
                    clear hw4
                    have HB4 : Hid (Below ws.heap.size ws w4) := HBd.out.trans (HF.out.2.1 _ hgE.out.1)
                    have Sn := old_of HB4.out
                    refine hK.out _ _ Sn (fun hHeld => ?_)
                    clear hK K Sn
                    (try simp only [List.getElem_toArray, List.getElem_cons_zero, List.getElem_cons_succ, Act.put, List.setIfInBounds_toArray, List.set_cons_zero, List.set_cons_succ])
                    refine wpAnyH_done (by kernel_rfl) ?_ _
                    clear hHeld
                    go_wp2
                    go_roundw
                    case rel =>
                      refine ⟨k + 1, by omega, by go_num, .slice av' (k + 1) cv', ?_⟩
                      obtain ⟨f1, f2, f3⟩ := HF.out
                      obtain ⟨hlen, h0, hM, hm⟩ := HH.out
                      have hs1 := HB1.out.size
                      have hs2 := HB2.out.size
                      have hs3 := HG3.out.size
                      refine ⟨hgE.out.1, hgE.out.2, HB4.out, ?_, f1, by have := HM.out; rw [HZ.out]; omega, ?_⟩
                      · refine (((HT.out.grow HB1.out).grow HB2.out).other fun j cs t ht hg => ?_).other fun j cs t ht hg => f3 j cs t (by rcases ht with rfl | rfl <;> decide) hg
                        exact HG3.out.block j (Array.getElem?_eq_some_iff.1 hg).1 (own_apart HO.out hg (by rcases ht with rfl | rfl <;> decide))
                      · rw [HZ.out]
                        have hst := rowsIn_step (w2 := w4) hlen h0 hM hm HR.out HB1.out HR1.out (own_keep HO3.out fun g cur hg => f3 g cur _ (by decide) hg) (fun g cs hg => ?_) (by rw [HZ.out]; omega)
                        · rw [HZ.out] at hst; exact hst
                        · have e2 : w2.heap[g]? = wn.heap[g]? := HB2.out.block g (Array.getElem?_eq_some_iff.1 hg).1
                          have e3 : w3.heap[g]? = w2.heap[g]? := HG3.out.block g (Array.getElem?_eq_some_iff.1 (e2.trans hg)).1 (own_apart HO.out (e2.trans hg) (by decide))
                          rw [f3 g cs _ (by decide) ((e3.trans e2).trans hg), e3, e2]
                    case measure => simp [intOf]; omega
            · go_simp
              obtain ⟨w2, hw2⟩ : ∃ w2 : World, wn.alloc (.cells #[.slice (some ⟨ar1, 0, none⟩) (B.L k) cr1] 22) = w2 := ⟨_, rfl⟩
              rw [hw2]
              have hb : Below wn.heap.size wn w2 := (by rw [← hw2]; exact below_alloc (Nat.le_refl _) _)
              have HC2 : Hid (w2.heap[wn.heap.size]? = some (Obj.cells #[.slice (some ⟨ar1, 0, none⟩) (B.L k) cr1] 22)) := (by rw [← hw2]; exact World.alloc_heap_new _ _)
              replace HBc : Hid (Below ws.heap.size ws w2) := bel HBc.out hb
              replace HEc : Hid (w2.heap[gE]? = some (Obj.cells #[v8, vS, v11] 26)) := keep_blk hb HEc.out
              replace HO := Lib.hid (own_below HO.out hb)
              have HB2 := Lib.hid hb
              clear hb hw2
              have Sn := old_of HBc.out
              refine hK.out _ _ Sn (fun hHeld => ?_)
              clear hK K Sn
              (try simp only [List.getElem_toArray, List.getElem_cons_zero, List.getElem_cons_succ, Act.put, List.setIfInBounds_toArray, List.set_cons_zero, List.set_cons_succ])
              refine wpAnyH_ready (rs := [1]) (by kernel_rfl) (by simp) ?_
              refine (AllReadyH.cons rfl (fun K hK => ?_) AllReadyH.nil)
              · have x1 := cell_blk HEc.out 1 rfl
                go_simp
                have Sn := old_of HBc.out
                refine hK.out _ _ Sn (fun hHeld => ?_)
                clear hK K Sn
                (try simp only [List.getElem_toArray, List.getElem_cons_zero, List.getElem_cons_succ, Act.put, List.setIfInBounds_toArray, List.set_cons_zero, List.set_cons_succ])
                clear x1
                refine wpAnyH_ready (rs := [10]) (by kernel_rfl) (by simp) ?_
                refine (AllReadyH.cons rfl (fun K hK => ?_) AllReadyH.nil)
                · rw [if_pos (by rfl)]
                  refine wp_append_own _ (.tmp 21) (.tmp 29) 23 ?_ mS 22 i1 (.slice none 0 0) 1 24 Try.underlying23 hi hz0 hz1 hz2 rfl (by decide) _ _ _ ?_ HO.out ⟨wn.heap.size, 0, none⟩ 1 1 [.slice (some ⟨ar1, 0, none⟩) (B.L k) cr1] ?_ rfl (fun j u hj => by rw [addr_add, Nat.zero_add]; exact cell_blk HC2.out j (by simpa using hj)) (by simp [Value.oneCell']) (by have := hns.out; unfold maxLen; omega) (by have := hns.out; omega) (by have := HM.out; have := HB1.out.size; have := HB2.out.size; omega) ?_
                  any_goals (exact rfl)
                  intro v' w3 hown3 hgrow _
                  obtain ⟨av', cv', rfl⟩ := own_formG hown3
                  have HO3 := Lib.hid hown3
                  have HG3 := Lib.hid hgrow
                  have HBd : Hid (Below ws.heap.size ws w3) := HBc.out.grown hgrow HBc.out.size (fun j e => by have := (HO.out.lt j e).1; have := HM.out; have := HmS.out; omega)
                  have HE3 : Hid (w3.heap[gE]? = some (Obj.cells #[v8, vS, v11] 26)) := (hgrow.block gE (Array.getElem?_eq_some_iff.1 HEc.out).1 (own_apart HO.out HEc.out (by decide))).trans HEc.out
                  clear hown3 hgrow
                  have Sn := old_of HBd.out
                  refine hK.out _ _ Sn (fun hHeld => ?_)
                  clear hK K
                  (try simp only [List.getElem_toArray, List.getElem_cons_zero, List.getElem_cons_succ, Act.put, List.setIfInBounds_toArray, List.set_cons_zero, List.set_cons_succ])
                  (refine wpAnyH_take (i := 11) (v := ?_) rfl (by kernel_rfl) (by kernel_rfl) (by kernel_rfl) (fun _ _ _ h => h) (Or.inl ⟨by rfl, ?_⟩) (by assumption) ?_; rotate_left; (focus (intro w hSw; (try dsimp only at hSw); go_simp; (try with_reducible rfl))); (try simp only [List.getElem_toArray, List.getElem_cons_zero, List.getElem_cons_succ, Act.put, List.setIfInBounds_toArray, List.set_cons_zero, List.set_cons_succ]))
                  clear Sn
                  refine wpAnyH_ready (rs := [12]) (by kernel_rfl) (by simp) ?_
                  refine (AllReadyH.cons rfl (fun K hK => ?_) AllReadyH.nil)
                  · have z1 := cell_blk HE3.out 1 rfl
                    have y := frozen_blk HE3.out
                    go_simp
                    clear z1 y
                    obtain ⟨w4, hw4⟩ : ∃ w4 : World, w3.setCell ⟨gE, 1, none⟩ (.slice av' (k + 1) cv') = w4 := ⟨_, rfl⟩
                    rw [hw4]
                    have HF := Lib.hid (store_mid HE3.out (.slice av' (k + 1) cv'))
                    rw [hw4] at HF
                    have HZ : Hid (w4.heap.size = w3.heap.size) := Lib.hid (by rw [← hw4]; simp [World.setCell])
                    clear hw4
                    have HB4 : Hid (Below ws.heap.size ws w4) := HBd.out.trans (HF.out.2.1 _ hgE.out.1)
                    have Sn := old_of HB4.out
                    refine hK.out _ _ Sn (fun hHeld => ?_)
                    clear hK K Sn
                    (try simp only [List.getElem_toArray, List.getElem_cons_zero, List.getElem_cons_succ, Act.put, List.setIfInBounds_toArray, List.set_cons_zero, List.set_cons_succ])
                    refine wpAnyH_done (by kernel_rfl) ?_ _
                    clear hHeld
                    go_wp2
                    go_roundw
                    case rel =>
                      refine ⟨k + 1, by omega, by go_num, .slice av' (k + 1) cv', ?_⟩
                      obtain ⟨f1, f2, f3⟩ := HF.out
                      obtain ⟨hlen, h0, hM, hm⟩ := HH.out
                      have hs1 := HB1.out.size
                      have hs2 := HB2.out.size
                      have hs3 := HG3.out.size
                      refine ⟨hgE.out.1, hgE.out.2, HB4.out, ?_, f1, by have := HM.out; rw [HZ.out]; omega, ?_⟩
                      · refine (((HT.out.grow HB1.out).grow HB2.out).other fun j cs t ht hg => ?_).other fun j cs t ht hg => f3 j cs t (by rcases ht with rfl | rfl <;> decide) hg
                        exact HG3.out.block j (Array.getElem?_eq_some_iff.1 hg).1 (own_apart HO.out hg (by rcases ht with rfl | rfl <;> decide))
                      · rw [HZ.out]
                        have hst := rowsIn_step (w2 := w4) hlen h0 hM hm HR.out HB1.out HR1.out (own_keep HO3.out fun g cur hg => f3 g cur _ (by decide) hg) (fun g cs hg => ?_) (by rw [HZ.out]; omega)
                        · rw [HZ.out] at hst; exact hst
                        · have e2 : w2.heap[g]? = wn.heap[g]? := HB2.out.block g (Array.getElem?_eq_some_iff.1 hg).1
                          have e3 : w3.heap[g]? = w2.heap[g]? := HG3.out.block g (Array.getElem?_eq_some_iff.1 (e2.trans hg)).1 (own_apart HO.out (e2.trans hg) (by decide))
                          rw [f3 g cs _ (by decide) ((e3.trans e2).trans hg), e3, e2]
                    case measure => simp [intOf]; omega
      · obtain rfl : k = B.ns := by omega
        obtain ⟨hg1, hg2, _, HT0, hE0, hM0, hS0⟩ := hrun.out
        obtain ⟨g8, p8, rfl⟩ := HT0.form1
        obtain ⟨g11, p11, rfl⟩ := HT0.form2
        obtain ⟨av, cv, rfl⟩ := hS0.form
        obtain ⟨gR, hgR⟩ : ∃ g, w.heap.size + 1 = g := ⟨_, rfl⟩
        have hR0 : wr.heap[w.heap.size + 1]? = some (Obj.cells #[.slice none 0 0, .slice none 0 0, .slice none 0 0] 26) := (hB.block _ hsz1).trans HR1.out
        have hR := hR0
        rw [hgR] at hR ⊢
        have HGR := Lib.hid hgR
        have z0 := cell_blk hE0 0 rfl
        have z1 := cell_blk hE0 1 rfl
        have z2 := cell_blk hE0 2 rfl
        have y0 := cell_blk hR 0 rfl
        have y1 := cell_blk hR 1 rfl
        have y2 := cell_blk hR 2 rfl
        have yf := frozen_blk hR
        have HF := Lib.hid (store_three hR (.slice (some ⟨g8, 0, none⟩) B.nv p8) (.slice av B.ns cv) (.slice (some ⟨g11, 0, none⟩) B.D.n p11))
        have HRUN := Lib.hid hrun.out
        have HB1 := Lib.hid hB
        clear hR hR0 hgR hE0 hg1 hg2 HT0 hM0 hS0 hrun hB
        go_wp2
        obtain ⟨f1, f2, f3⟩ := HF.out
        obtain ⟨w5, hw5⟩ : ∃ w5 : World, (((wr.setCell ⟨gR, 0, none⟩ (.slice (some ⟨g8, 0, none⟩) B.nv p8)).setCell ⟨gR, 1, none⟩ (.slice av B.ns cv)).setCell ⟨gR, 2, none⟩ (.slice (some ⟨g11, 0, none⟩) B.D.n p11)) = w5 := ⟨_, rfl⟩
        have hsz5 : w5.heap.size = wr.heap.size := by rw [← hw5]; simp [World.setCell]
        rw [hw5] at f1 f2 f3 ⊢
        have x0 := cell_blk f1 0 rfl
        have x1 := cell_blk f1 1 rfl
        have x2 := cell_blk f1 2 rfl
        obtain ⟨hg1, hg2, hB, HT, _, hM, hS⟩ := HRUN.out
        refine bodyPost_ret (v := .agg #[.slice (some ⟨g8, 0, none⟩) B.nv p8, .slice av B.ns cv, .slice (some ⟨g11, 0, none⟩) B.D.n p11]) (by simp [results, Try.results28, go_sem, x0, x1, x2]) rfl ⟨_, rfl, ⟨_, _, _, mS, rfl, ?_, ?_⟩, ?_⟩
        · exact (HT.other fun j cs t ht hg => f3 j cs t (by rcases ht with rfl | rfl <;> decide) hg).lower HB.out.size
        · rw [hsz5]
          exact hS.keep fun j cs t _ _ ht hg => f3 j cs t (by rcases ht with rfl | rfl <;> decide) hg
        · exact (fin HB.out hB).trans (f2 _ (by have := HGR.out; omega))

end Go.Proofs.Ytbieglmpkljjjaa

namespace Go.Proofs.Ytbieglmpkljjjaa
open Go.RowKit

theorem IntsAt.wider {N N' : Nat} {w : World} {v : Value} {n : Nat} {x : Nat → Int} (h : IntsAt N w v n x) (hN : N ≤ N') : IntsAt N' w v n x :=
  h.mono (Below.refl _ _) hN
theorem sameI_self (n : Nat) (x : Nat → Int) : sameI n x n x = true := by
  unfold sameI; rw [allB_true.2 fun i _ => by simp]; simp
theorem drawn_below {w w' : World} (h : ∃ q, w' = w.drewN q) : Below w.heap.size w w' := Drawn.below h _

/-- what is known of the k-th row, or node, of a book, in a world that went on -/
theorem BookAt.rowK {N : Nat} {ws wk : World} {a1 a2 a3 : Option Addr} {z1 z2 z3 : Nat} {B : KB} (h : BookAt N ws (.agg #[.slice a1 B.nv z1, .slice a2 B.ns z2, .slice a3 B.D.n z3]) B) (hb : Below ws.heap.size ws wk) {k : Nat} (hk : k < B.ns) :
    ∃ b o a c, a2 = some ⟨b, o, none⟩ ∧ b < wk.heap.size ∧ wk.cell? ⟨b, o + k, none⟩ = some (.slice a (B.L k) c) ∧ Hid (IntsAt wk.heap.size wk (.slice a (B.L k) c) (B.L k) (B.X k)) := by
  have hg := h.go hb
  obtain ⟨b, o, rfl, hb1, hr⟩ := hg.sorts.cells (by omega)
  obtain ⟨a, c, h1, h2⟩ := hr k hk
  exact ⟨b, o, a, c, rfl, Nat.lt_of_lt_of_le hb1 hg.1, h1, h2.mono (Below.refl _ _) hg.1⟩
theorem BookAt.nodeK {N : Nat} {ws wk : World} {a1 a2 a3 : Option Addr} {z1 z2 z3 : Nat} {B : KB} (h : BookAt N ws (.agg #[.slice a1 B.nv z1, .slice a2 B.ns z2, .slice a3 B.D.n z3]) B) (hb : Below ws.heap.size ws wk) {k : Nat} (hk : k < B.D.n) :
    ∃ b o a c, a3 = some ⟨b, o, none⟩ ∧ b < wk.heap.size ∧ wk.cell? ⟨b, o + k * 3, none⟩ = some (.int .i64 (B.D.M k)) ∧ wk.cell? ⟨b, o + k * 3 + 1, none⟩ = some (.int .i64 (B.D.S k)) ∧ wk.cell? ⟨b, o + k * 3 + 2, none⟩ = some (.slice a (B.D.q k) c) ∧ Hid (IntsAt wk.heap.size wk (.slice a (B.D.q k) c) (B.D.q k) (B.D.T k)) := by
  have hg := h.go hb
  obtain ⟨b, o, rfl, hb1, hr⟩ := hg.nodes.cells (by omega)
  obtain ⟨a, c, h1, h2, h3, h4⟩ := hr k hk
  exact ⟨b, o, a, c, rfl, Nat.lt_of_lt_of_le hb1 hg.1, h1, h2, h3, h4.mono (Below.refl _ _) hg.1⟩

set_option maxRecDepth 100000 in
set_option maxHeartbeats 4000000 in
theorem same_any (N M : Nat) (v u : Value) (B : KB) (w : World) (h : BookAt N w v B) (h2 : BookAt M w u B) :
    Calls Try.prog 51 #[v, u] w fun e w' => e = .returned (.bool true) ∧ Below w.heap.size w w' := by
  obtain ⟨_, a1, z1, a2, z2, a3, z3, rfl, _⟩ := id h
  obtain ⟨_, b1, y1, b2, y2, b3, y3, rfl, _⟩ := id h2
  obtain ⟨ws, hws, HB, hsz, hsz1, hblk, hblk1⟩ := box2 w (.cells #[.slice a1 B.nv z1, .slice a2 B.ns z2, .slice a3 B.D.n z3] 26) (.cells #[.slice b1 B.nv y1, .slice b2 B.ns y2, .slice b3 B.D.n y3] 26)
  have q0 := cell_blk hblk 0 rfl
  have q1 := cell_blk hblk 1 rfl
  have q2 := cell_blk hblk 2 rfl
  have p0 := cell_blk hblk1 0 rfl
  have p1 := cell_blk hblk1 1 rfl
  have p2 := cell_blk hblk1 2 rfl
  have HBK := Lib.hid (h.go HB.out)
  have HBG := Lib.hid (h2.go HB.out)
  have HB0 : Hid (Below ws.heap.size ws ws) := Below.refl _ _
  have hN : N ≤ ws.heap.size := HBK.out.1
  have hM : M ≤ ws.heap.size := HBG.out.1
  have hl := h.lens
  clear hblk hblk1 h h2
  have HE1 : Hid (sameI B.nv B.V B.nv B.V = true) := sameI_self _ _
  go_enter Try.func51, Try.ntmps51
  go_wp2_with (go_at_call 44; refine (sameInts_any _ _ _ _ _ _ _ _ (IntsAt.wider (HBK.out.go HB0.out).vals hN) (IntsAt.wider (HBG.out.go HB0.out).vals hM)).mono ?_; rintro e w1 ⟨rfl, hb1⟩; rw [HE1.out]; replace hb1 := drawn_below hb1; (try clear c0); have HB1 := Lib.hid (bel HB0.out hb1); have c1 := (old_of HB1.out).1; clear hb1)
  clear hws
  go_loopw [5] (fun i wr => ∃ k : Nat, k ≤ B.ns ∧ i = .int .i64 k ∧ Hid (Below ws.heap.size ws wr)) (fun i _ => B.ns - (intOf i).toNat)
  case atStart => exact ⟨0, Nat.zero_le _, rfl, HB1.out⟩
  clear c1 HB1
  case round =>
  obtain ⟨k, hk, rfl, HBr⟩ := hrel
  have cr := (old_of HBr.out).1
  have hszr := Nat.lt_of_lt_of_le hsz HBr.out.size
  have hszr1 := Nat.lt_of_lt_of_le hsz1 HBr.out.size
  by_cases hkn : k < B.ns
  · obtain ⟨b5, o5, ao, cap, rfl, hb5, hq5, HR1⟩ := HBK.out.rowK HBr.out hkn
    obtain ⟨b6, o6, ao', cap', rfl, hb6, hq6, HR2⟩ := HBG.out.rowK HBr.out hkn
    have hkni : (k : Int) < (B.ns : Int) := by omega
    have HE : Hid (sameI (B.L k) (B.X k) (B.L k) (B.X k) = true) := sameI_self _ _
    have HB0 : Hid (Below wr.heap.size wr wr) := Below.refl _ _
    have hS0d := old_of HB0.out.drew
    have X1 : Hid (IntsAt wr.heap.size wr.drew (.slice ao (B.L k) cap) (B.L k) (B.X k)) := HR1.out.mono HB0.out.drew (Nat.le_refl _)
    have X2 : Hid (IntsAt wr.heap.size wr.drew (.slice ao' (B.L k) cap') (B.L k) (B.X k)) := HR2.out.mono HB0.out.drew (Nat.le_refl _)
    clear HR1 HR2
    go_wp2
    go_region_held3 (fun w' => (∀ b o, b < wr.heap.size → w'.cell? ⟨b, o, none⟩ = wr.cell? ⟨b, o, none⟩) ∧ Hid (Below wr.heap.size wr w')) (assumption) (first
      | (go_at_call 44; refine (sameInts_any _ _ _ _ _ _ _ _ X1.out X2.out).mono ?_; rintro e w1 ⟨rfl, hb1⟩; rw [HE.out]; replace hb1 := drawn_below hb1; have S1 := old_of (bel hS0d.2.out hb1); have HB1 := S1.2; clear hb1))
    clear S1 hS0d
    go_wp2
    go_roundw
    case rel => exact ⟨k + 1, by omega, by go_num, bel HBr.out HB1.out⟩
    case measure => simp [intOf]; omega
  · have hkni : ¬ (k : Int) < (B.ns : Int) := by omega
    go_wp2
    go_loopw [6] (fun i wr => ∃ k : Nat, k ≤ B.D.n ∧ i = .int .i64 k ∧ Hid (Below ws.heap.size ws wr)) (fun i _ => B.D.n - (intOf i).toNat)
    case atStart => exact ⟨0, Nat.zero_le _, rfl, HBr.out⟩
    clear cr HBr hszr hszr1 hkn hkni hk
    case round =>
    obtain ⟨k, hk, rfl, HBr⟩ := hrel
    have cr := (old_of HBr.out).1
    have hszr := Nat.lt_of_lt_of_le hsz HBr.out.size
    have hszr1 := Nat.lt_of_lt_of_le hsz1 HBr.out.size
    by_cases hkn : k < B.D.n
    · obtain ⟨b5, o5, ao, cap, rfl, hb5, hm5, hs5, hq5, HR1⟩ := HBK.out.nodeK HBr.out hkn
      obtain ⟨b6, o6, ao', cap', rfl, hb6, hm6, hs6, hq6, HR2⟩ := HBG.out.nodeK HBr.out hkn
      have hkni : (k : Int) < (B.D.n : Int) := by omega
      have HE : Hid (sameI (B.D.q k) (B.D.T k) (B.D.q k) (B.D.T k) = true) := sameI_self _ _
      have HB0 : Hid (Below wr.heap.size wr wr) := Below.refl _ _
      have hS0d := old_of HB0.out.drew
      have X1 : Hid (IntsAt wr.heap.size wr.drew (.slice ao (B.D.q k) cap) (B.D.q k) (B.D.T k)) := HR1.out.mono HB0.out.drew (Nat.le_refl _)
      have X2 : Hid (IntsAt wr.heap.size wr.drew (.slice ao' (B.D.q k) cap') (B.D.q k) (B.D.T k)) := HR2.out.mono HB0.out.drew (Nat.le_refl _)
      clear HR1 HR2
      go_wp2
      go_region_held3 (fun w' => (∀ b o, b < wr.heap.size → w'.cell? ⟨b, o, none⟩ = wr.cell? ⟨b, o, none⟩) ∧ Hid (Below wr.heap.size wr w')) (assumption) (first
        | (go_at_call 44; refine (sameInts_any _ _ _ _ _ _ _ _ X1.out X2.out).mono ?_; rintro e w1 ⟨rfl, hb1⟩; rw [HE.out]; replace hb1 := drawn_below hb1; have S1 := old_of (bel hS0d.2.out hb1); have HB1 := S1.2; clear hb1))
      clear S1 hS0d
      go_wp2
      go_roundw
      case rel => exact ⟨k + 1, by omega, by go_num, bel HBr.out HB1.out⟩
      case measure => simp [intOf]; omega
    · have hkni : ¬ (k : Int) < (B.D.n : Int) := by omega
      go_wp2
      go_ret
      exact ⟨rfl, fin HB.out HBr.out⟩

end Go.Proofs.Ytbieglmpkljjjaa
