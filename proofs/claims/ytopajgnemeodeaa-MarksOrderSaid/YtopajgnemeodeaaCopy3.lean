/-
  The chapter's Copy of a book: its first lines.
-/
import Derived.Test.YtopajgnemeodeaaCopy
import Derived.Test.YtopajgnemeodeaaRefE
import Derived.Deep.DeepCutAuto
namespace Go.Proofs.Ytopajgnemeodeaa
open Go.RowKit

/-- two rows of the call's own, the one behind the other -/
def Two (w : World) (lo hi : Nat) (a b : Value) (B : Bk) : Prop := ∃ mid, RowIn w lo mid a B.nv B.V ∧ RowIn w mid hi b B.nf B.F
theorem Two.grow {w w' : World} {lo hi : Nat} {a b : Value} {B : Bk} (h : Two w lo hi a b B) (hb : Below w.heap.size w w') : Two w' lo hi a b B := by
  obtain ⟨mid, h1, h2⟩ := h
  exact ⟨mid, h1.grow hb, h2.grow hb⟩
theorem Two.wider {w : World} {lo hi hi' : Nat} {a b : Value} {B : Bk} (h : Two w lo hi a b B) (hh : hi ≤ hi') : Two w lo hi' a b B := by
  obtain ⟨mid, h1, h2⟩ := h
  exact ⟨mid, h1, h2.wider (Nat.le_refl _) hh⟩
theorem Two.form1 {w : World} {lo hi : Nat} {a b : Value} {B : Bk} (h : Two w lo hi a b B) : ∃ g cap, a = .slice (some ⟨g, 0, none⟩) B.nv cap := by
  obtain ⟨_, h, _⟩ := h; exact h.form
theorem Two.form2 {w : World} {lo hi : Nat} {a b : Value} {B : Bk} (h : Two w lo hi a b B) : ∃ g cap, b = .slice (some ⟨g, 0, none⟩) B.nf cap := by
  obtain ⟨_, _, h⟩ := h; exact h.form
theorem frozen_blk {w : World} {g : Nat} {cs : Array Value} {t : TypeId} (h : w.heap[g]? = some (Obj.cells cs t (0, 0))) : ∀ i, w.frozen? ⟨g, i, none⟩ = false := fun i => by
  simp [World.frozen?, h]
/-- lists of rows, sort by sort, of the call's own -/
def SortsIn (w : World) (lo hi : Nat) (v : Value) (k : Nat) (B : Bk) : Prop :=
  ∃ (rows : List Value) (M : Nat → Nat), w.ownsRow lo 73 1 v k rows ∧ (∀ g, v.ownBlock = some g → g < hi) ∧ rows.length = k ∧ lo ≤ M 0 ∧ M k ≤ hi ∧ (∀ j, j < k → M j ≤ M (j + 1)) ∧ ∀ j, j < k → ∃ r, rows[j]? = some r ∧ RowsIn w (M j) (M (j + 1)) r (B.nc j) (B.ncc j) (B.can j)
theorem SortsIn.nil (w : World) (B : Bk) {lo hi : Nat} (h : lo ≤ hi) : SortsIn w lo hi (.slice none 0 0) 0 B :=
  ⟨[], fun _ => lo, World.ownsRow_nil _ _ _ _, (fun g hg => by cases hg), rfl, Nat.le_refl _, h, fun j hj => absurd hj (Nat.not_lt_zero j), fun j hj => absurd hj (Nat.not_lt_zero j)⟩
theorem SortsIn.form {w : World} {lo hi : Nat} {v : Value} {k : Nat} {B : Bk} (h : SortsIn w lo hi v k B) : ∃ ao cap, v = .slice ao k cap := by
  obtain ⟨rows, M, ⟨h1, ⟨rfl, h2⟩ | ⟨g, cap, cur, rfl, _⟩⟩, _⟩ := h
  · exact ⟨none, 0, by rw [h2]⟩
  · exact ⟨_, _, rfl⟩

theorem Two.lower {w : World} {lo lo' hi : Nat} {a b : Value} {B : Bk} (h : Two w lo hi a b B) (hh : lo' ≤ lo) : Two w lo' hi a b B := by
  obtain ⟨mid, h1, h2⟩ := h
  exact ⟨mid, h1.wider hh (Nat.le_refl _), h2⟩

/-- a book in memory of the call's own -/
def OwnBook (w : World) (lo hi : Nat) (v : Value) (B : Bk) : Prop :=
  ∃ v1 v2 v3 m, v = .agg #[v1, v2, v3, .int .i64 B.wr] ∧ Two w lo m v1 v2 B ∧ SortsIn w m hi v3 B.ns B

theorem own_form {w : World} {lo : Nat} {e : TypeId} {size : Nat} {v : Value} {n : Nat} {xs : List Value} (h : w.ownsRow lo e size v n xs) : ∃ ao cap, v = .slice ao n cap := by
  obtain ⟨h1, ⟨rfl, rfl⟩ | ⟨g, cap, cur, rfl, _⟩⟩ := h
  · exact ⟨none, 0, rfl⟩
  · exact ⟨_, _, rfl⟩
theorem own_keep {w w' : World} {lo : Nat} {e : TypeId} {size : Nat} {v : Value} {n : Nat} {xs : List Value} (h : w.ownsRow lo e size v n xs)
    (hk : ∀ (g : Nat) (cur : Array Value), w.heap[g]? = some (Obj.cells cur e (0, 0)) → w'.heap[g]? = w.heap[g]?) : w'.ownsRow lo e size v n xs := by
  obtain ⟨h1, h2 | ⟨g, cap, cur, rfl, h3, h4, h5⟩⟩ := h
  · exact ⟨h1, .inl h2⟩
  · exact ⟨h1, .inr ⟨g, cap, cur, rfl, h3, (hk g cur h4).trans h4, h5⟩⟩
theorem own_apart {w : World} {lo : Nat} {e : TypeId} {size : Nat} {v : Value} {n : Nat} {xs : List Value} (h : w.ownsRow lo e size v n xs) {g : Nat} {cur : Array Value} {t : TypeId} (hg : w.heap[g]? = some (Obj.cells cur t (0, 0))) (hne : e ≠ t) : some g ≠ v.ownBlock := by
  intro he
  obtain ⟨_, ⟨rfl, _⟩ | ⟨g', cap, cur', rfl, _, hh, _⟩⟩ := h
  · cases he
  · obtain rfl : g = g' := by simpa [Value.ownBlock] using he
    rw [hh] at hg
    injection hg with hg
    injection hg with _ ht
    exact hne ht

theorem SortsIn.keep {w w' : World} {lo hi : Nat} {v : Value} {k : Nat} {B : Bk} (h : SortsIn w lo hi v k B)
    (hk : ∀ (k : Nat) (cs : Array Value) (t : TypeId), lo ≤ k → k < hi → t = 3 ∨ t = 22 ∨ t = 73 → w.heap[k]? = some (Obj.cells cs t (0, 0)) → w'.heap[k]? = w.heap[k]?) : SortsIn w' lo hi v k B := by
  obtain ⟨rows, M, ho, hb, hlen, h0, hM, hm, hr⟩ := h
  have hMm := mono_M hm
  refine ⟨rows, M, ?_, hb, hlen, h0, hM, hm, fun j hj => ?_⟩
  · obtain ⟨h1, h2 | ⟨g, cap, cur, rfl, h3, h4, h5⟩⟩ := ho
    · exact ⟨h1, .inl h2⟩
    · exact ⟨h1, .inr ⟨g, cap, cur, rfl, h3, (hk g cur _ h3 (hb g rfl) (.inr (.inr rfl)) h4).trans h4, h5⟩⟩
  · obtain ⟨r, hr1, hr2⟩ := hr j hj
    have e1 := hMm 0 j (Nat.zero_le _) (by omega)
    have e2 := hMm (j + 1) k (by omega) (Nat.le_refl _)
    exact ⟨r, hr1, hr2.keep fun k cs t k1 k2 k3 k4 => hk k cs t (by omega) (by omega) (k3.elim .inl (fun h => .inr (.inl h))) k4⟩
theorem SortsIn.grow {w w' : World} {lo hi : Nat} {v : Value} {k : Nat} {B : Bk} (h : SortsIn w lo hi v k B) (hb : Below w.heap.size w w') : SortsIn w' lo hi v k B :=
  h.keep fun k _ _ _ _ _ hg => hb.block k (Array.getElem?_eq_some_iff.1 hg).1

/-- one more sort: its rows made behind all that there is (wr to w1), then appended, and the list put down elsewhere (w1 to w2) -/
theorem sortsIn_step {wr w1 w2 : World} {lo : Nat} {v' r : Value} {k : Nat} {B : Bk} {rows : List Value} {M : Nat → Nat}
    (hlen : rows.length = k) (h0 : lo ≤ M 0) (hM : M k ≤ wr.heap.size) (hm : ∀ j, j < k → M j ≤ M (j + 1)) (hr : ∀ j, j < k → ∃ r, rows[j]? = some r ∧ RowsIn wr (M j) (M (j + 1)) r (B.nc j) (B.ncc j) (B.can j))
    (hb : Below wr.heap.size wr w1) (hrow : RowsIn w1 wr.heap.size w1.heap.size r (B.nc k) (B.ncc k) (B.can k))
    (hown : w2.ownsRow lo 73 1 v' (k + 1) (rows ++ [r])) (hkeep : ∀ (g : Nat) (cs : Array Value) (t : TypeId), t = 3 ∨ t = 22 → w1.heap[g]? = some (Obj.cells cs t (0, 0)) → w2.heap[g]? = w1.heap[g]?) (hsz : w1.heap.size ≤ w2.heap.size) :
    SortsIn w2 lo w2.heap.size v' (k + 1) B := by
  have hMm := mono_M hm
  refine ⟨rows ++ [r], fun j => if j ≤ k then (if j = k then wr.heap.size else M j) else w1.heap.size, hown, fun g hg => (hown.lt g hg).2, by simp [hlen], ?_, ?_, ?_, ?_⟩
  · have := hMm 0 k (Nat.zero_le _) (Nat.le_refl _)
    show lo ≤ if 0 ≤ k then (if 0 = k then wr.heap.size else M 0) else w1.heap.size
    rw [if_pos (Nat.zero_le _)]
    split
    · omega
    · exact h0
  · simp only
    rw [if_neg (by omega)]; exact hsz
  · intro j hj
    have hs := hb.size
    by_cases h1 : j = k
    · subst h1; simp only [Nat.le_refl, if_true]; rw [if_neg (by omega)]; exact hs
    · have h2 := hm j (by omega)
      have h3 := hMm (j + 1) k (by omega) (Nat.le_refl _)
      simp only
      rw [if_pos (by omega), if_neg h1, if_pos (by omega)]
      split
      · omega
      · exact h2
  · intro j hj
    by_cases h1 : j = k
    · subst h1
      refine ⟨r, by simp [hlen], ?_⟩
      simp only [Nat.le_refl, if_true]
      rw [if_neg (by omega)]
      exact hrow.keep fun g cs t _ _ ht hg => hkeep g cs t ht hg
    · obtain ⟨q, hq, hrq⟩ := hr j (by omega)
      refine ⟨q, by rw [List.getElem?_append_left (by omega)]; exact hq, ?_⟩
      have h3 := hMm (j + 1) k (by omega) (Nat.le_refl _)
      have hlt : ∀ g, g < M (j + 1) → w1.heap[g]? = wr.heap[g]? := fun g hg => hb.block g (by omega)
      have hk2 : RowsIn w2 (M j) (M (j + 1)) q (B.nc j) (B.ncc j) (B.can j) := hrq.keep fun g cs t _ hg2 ht hg3 => by
        have e1 := hlt g hg2
        rw [hkeep g cs t ht (e1.trans hg3), e1]
      have hM' : M (j + 1) ≤ (if j + 1 = k then wr.heap.size else M (j + 1)) := by
        split
        · rename_i he; rw [he]; exact hM
        · exact Nat.le_refl _
      simp only
      rw [if_pos (by omega), if_neg h1, if_pos (by omega)]
      exact hk2.wider hM'

theorem keep_blk {w w' : World} {g : Nat} {o : Obj} (hb : Below w.heap.size w w') (h : w.heap[g]? = some o) : w'.heap[g]? = some o :=
  (hb.block g (Array.getElem?_eq_some_iff.1 h).1).trans h
theorem ints_v {n : Nat} {w : World} {a1 a2 a3 : Option Addr} {c1 c2 c3 : Nat} {B : Bk} (h : BookAt n w (.agg #[.slice a1 B.nv c1, .slice a2 B.nf c2, .slice a3 B.ns c3, .int .i64 B.wr]) B) : IntsAt n w (.slice a1 B.nv c1) B.nv B.V := by
  obtain ⟨_, _, _, _, _, _, _, e, h, _⟩ := h
  cases e; exact h
theorem ints_f {n : Nat} {w : World} {a1 a2 a3 : Option Addr} {c1 c2 c3 : Nat} {B : Bk} (h : BookAt n w (.agg #[.slice a1 B.nv c1, .slice a2 B.nf c2, .slice a3 B.ns c3, .int .i64 B.wr]) B) : IntsAt n w (.slice a2 B.nf c2) B.nf B.F := by
  obtain ⟨_, _, _, _, _, _, _, e, _, h, _⟩ := h
  cases e; exact h

theorem store_four {w : World} {g : Nat} {z0 z1 z2 z3 : Value} {t : TypeId} (h : w.heap[g]? = some (Obj.cells #[z0, z1, z2, z3] t (0, 0))) (v0 v1 v2 v3 : Value) :
    ((((w.setCell ⟨g, 0, none⟩ v0).setCell ⟨g, 1, none⟩ v1).setCell ⟨g, 2, none⟩ v2).setCell ⟨g, 3, none⟩ v3).heap[g]? = some (Obj.cells #[v0, v1, v2, v3] t (0, 0)) ∧
    (∀ N, N ≤ g → Below N w ((((w.setCell ⟨g, 0, none⟩ v0).setCell ⟨g, 1, none⟩ v1).setCell ⟨g, 2, none⟩ v2).setCell ⟨g, 3, none⟩ v3)) ∧
    (∀ (k : Nat) (cs : Array Value) (u : TypeId), u ≠ t → w.heap[k]? = some (Obj.cells cs u (0, 0)) → ((((w.setCell ⟨g, 0, none⟩ v0).setCell ⟨g, 1, none⟩ v1).setCell ⟨g, 2, none⟩ v2).setCell ⟨g, 3, none⟩ v3).heap[k]? = w.heap[k]?) := by
  refine ⟨?_, fun N hN => (((((Below.refl N w).setCell (p := ⟨g, 0, none⟩) hN _).setCell (p := ⟨g, 1, none⟩) hN _).setCell (p := ⟨g, 2, none⟩) hN _).setCell (p := ⟨g, 3, none⟩) hN _), fun k cs u hu hk => ?_⟩
  · simp [World.setCell, Array.getElem?_modify, h]
  · have hne : k ≠ g := by
      rintro rfl
      rw [hk] at h
      injection h with h
      injection h with _ h
      exact hu h
    rw [Below.heap_setCell _ _ _ _ (by exact hne), Below.heap_setCell _ _ _ _ (by exact hne), Below.heap_setCell _ _ _ _ (by exact hne), Below.heap_setCell _ _ _ _ (by exact hne)]
theorem Two.other {w w' : World} {lo hi : Nat} {a b : Value} {B : Bk} (h : Two w lo hi a b B) (hk : ∀ (k : Nat) (cs : Array Value), w.heap[k]? = some (Obj.cells cs 3 (0, 0)) → w'.heap[k]? = w.heap[k]?) : Two w' lo hi a b B := by
  obtain ⟨mid, h1, h2⟩ := h
  exact ⟨mid, h1.keep fun k cur _ _ hg => hk k cur hg, h2.keep fun k cur _ _ hg => hk k cur hg⟩

theorem store_one {w : World} {g : Nat} {z0 z1 z2 z3 : Value} {t : TypeId} (h : w.heap[g]? = some (Obj.cells #[z0, z1, z2, z3] t (0, 0))) (_ : Nat) (v2 : Value) :
    (w.setCell ⟨g, 2, none⟩ v2).heap[g]? = some (Obj.cells #[z0, z1, v2, z3] t (0, 0)) ∧ (∀ N, N ≤ g → Below N w (w.setCell ⟨g, 2, none⟩ v2)) ∧
    (∀ (k : Nat) (cs : Array Value) (u : TypeId), u ≠ t → w.heap[k]? = some (Obj.cells cs u (0, 0)) → (w.setCell ⟨g, 2, none⟩ v2).heap[k]? = w.heap[k]?) := by
  refine ⟨by simp [World.setCell, Array.getElem?_modify, h], fun N hN => (Below.refl N w).setCell (p := ⟨g, 2, none⟩) hN _, fun k cs u hu hk => ?_⟩
  refine Below.heap_setCell _ _ _ _ ?_
  rintro rfl
  rw [hk] at h
  injection h with h
  injection h with _ h
  exact hu h

/-- the loop of Copy: k sorts are there -/
def CopyRun (wr ws : World) (mS gE : Nat) (v8 v12 vS : Value) (k : Nat) (B : Bk) : Prop :=
  ws.heap.size ≤ gE ∧ gE < mS ∧ Below ws.heap.size ws wr ∧ Two wr ws.heap.size mS v8 v12 B ∧ wr.heap[gE]? = some (Obj.cells #[v8, v12, vS, .int .i64 B.wr] 25) ∧ mS ≤ wr.heap.size ∧ SortsIn wr mS wr.heap.size vS k B

theorem Try.infoSort : (Try.prog.info? 73).map (fun i => (i.zero, i.size, i.bytes)) = some (some (.agg #[.slice none 0 0]), 1, 24) := by kernel_rfl

theorem sort_at {n : Nat} {w : World} {a1 a2 a3 : Option Addr} {c1 c2 c3 : Nat} {B : Bk} {s : Nat} (h : BookAt n w (.agg #[.slice a1 B.nv c1, .slice a2 B.nf c2, .slice a3 B.ns c3, .int .i64 B.wr]) B) (hs : s < B.ns) :
    ∃ b3 o3 ao cap, a3 = some ⟨b3, o3, none⟩ ∧ b3 < n ∧ w.cell? ⟨b3, o3 + s, none⟩ = some (.slice ao (B.nc s) cap) ∧ Hid (RowsAt n w (.slice ao (B.nc s) cap) (B.nc s) (B.ncc s) (B.can s)) := by
  obtain ⟨_, _, _, _, _, _, _, e, _, _, h3⟩ := h
  cases e
  obtain ⟨_, _, e3, _, hc3⟩ := h3
  cases e3
  obtain ⟨b3, off3, rfl, hb3, hr3⟩ := hc3 (by omega)
  obtain ⟨r3, hcell3, hrw⟩ := hr3 s hs
  obtain ⟨ao, cap, rfl, hh⟩ := hrw
  exact ⟨b3, off3, ao, cap, rfl, hb3, hcell3, ⟨ao, cap, rfl, hh⟩⟩

set_option maxHeartbeats 4000000 in
set_option maxRecDepth 100000 in
theorem copy_any (N : Nat) (v : Value) (B : Bk) (w : World) (h : BookAt N w v B) (h40v : B.nv ≤ 1000000) (h40f : B.nf ≤ 1000000) (h40s : B.ns ≤ 1000000) (h40c : ∀ s, s < B.ns → B.nc s ≤ 1000 ∧ ∀ i, i < B.nc s → B.ncc s i ≤ 1000) :
    Calls Try.prog 16 #[v] w fun e w' => ∃ v', e = .returned v' ∧ OwnBook w' w.heap.size w'.heap.size v' B ∧ Below w.heap.size w w' := by
  have hf := nil_fruits N w
  have h' := h
  have hns : Hid _ := Lib.hid h40s
  have hlim : Hid _ := Lib.hid h40c
  clear h40s h40c
  obtain ⟨_, a1, c1, a2, c2, a3, c3, rfl, _⟩ := h'
  obtain ⟨ws, hws, HB, hsz, hsz1, hblk, hblk1⟩ := box2 w (.cells #[.slice a1 B.nv c1, .slice a2 B.nf c2, .slice a3 B.ns c3, .int .i64 B.wr] 25) (Obj.cells #[.slice none 0 0, .slice none 0 0, .slice none 0 0, .int .i64 0] 25)
  have q0 := cell_blk hblk 0 rfl
  have q1 := cell_blk hblk 1 rfl
  have q2 := cell_blk hblk 2 rfl
  have q3 := cell_blk hblk 3 rfl
  obtain ⟨HBF, HB0⟩ := entry HB.out h hf
  have HR1 : Hid _ := Lib.hid hblk1
  have HN : Hid (N ≤ ws.heap.size) := HBF.out.1.1
  clear hblk hblk1 h hf
  have S0d := old_of HB0.out.drew; have HB0d := S0d.2
  go_enter Try.func16, Try.ntmps16
  go_upto_region 1 with fail
  clear hws
  go_cut [3] (fun s3 wx => ∃ gE v8 v12, s3 = .pointer (some ⟨gE, 0, none⟩) ∧ Hid (ws.heap.size ≤ gE ∧ Below ws.heap.size ws wx ∧ Two wx ws.heap.size wx.heap.size v8 v12 B ∧ wx.heap[gE]? = some (Obj.cells #[v8, v12, .slice none 0 0, .int .i64 B.wr] 25)))
  case first =>
    refine wp_region_held_drew (S := (fun w' => (∀ b o, b < ws.heap.size → w'.cell? ⟨b, o, none⟩ = ws.cell? ⟨b, o, none⟩) ∧ Hid (Below ws.heap.size ws w'))) (by kernel_rfl) S0d (fun hHeld => ?_)
    (refine wpAnyH_take (i := 1) (v := ?_) rfl (by kernel_rfl) (by kernel_rfl) (by kernel_rfl) (fun _ _ _ h => h) (Or.inl ⟨by rfl, ?_⟩) (by assumption) ?_; rotate_left; (focus (intro w hSw; (try dsimp only at hSw); go_simp; (try with_reducible rfl))); (try simp only [List.getElem_toArray, List.getElem_cons_zero, List.getElem_cons_succ, Act.put, List.setIfInBounds_toArray, List.set_cons_zero, List.set_cons_succ]))
    (refine wpAnyH_take (i := 2) (v := ?_) rfl (by kernel_rfl) (by kernel_rfl) (by kernel_rfl) (fun _ _ _ h => h) (Or.inl ⟨by rfl, ?_⟩) (by assumption) ?_; rotate_left; (focus (intro w hSw; (try dsimp only at hSw); go_simp; (try with_reducible rfl))); (try simp only [List.getElem_toArray, List.getElem_cons_zero, List.getElem_cons_succ, Act.put, List.setIfInBounds_toArray, List.set_cons_zero, List.set_cons_succ]))
    (refine wpAnyH_take (i := 5) (v := ?_) rfl (by kernel_rfl) (by kernel_rfl) (by kernel_rfl) (fun _ _ _ h => h) (Or.inl ⟨by rfl, ?_⟩) (by assumption) ?_; rotate_left; (focus (intro w hSw; (try dsimp only at hSw); go_simp; (try with_reducible rfl))); (try simp only [List.getElem_toArray, List.getElem_cons_zero, List.getElem_cons_succ, Act.put, List.setIfInBounds_toArray, List.set_cons_zero, List.set_cons_succ]))
    (refine wpAnyH_take (i := 6) (v := ?_) rfl (by kernel_rfl) (by kernel_rfl) (by kernel_rfl) (fun _ _ _ h => h) (Or.inl ⟨by rfl, ?_⟩) (by assumption) ?_; rotate_left; (focus (intro w hSw; (try dsimp only at hSw); go_simp; (try with_reducible rfl))); (try simp only [List.getElem_toArray, List.getElem_cons_zero, List.getElem_cons_succ, Act.put, List.setIfInBounds_toArray, List.set_cons_zero, List.set_cons_succ]))
    (refine wpAnyH_take (i := 8) (v := ?_) rfl (by kernel_rfl) (by kernel_rfl) (by kernel_rfl) (fun _ _ _ h => h) (Or.inl ⟨by rfl, ?_⟩) (by assumption) ?_; rotate_left; (focus (intro w hSw; (try dsimp only at hSw); go_simp; (try with_reducible rfl))); (try simp only [List.getElem_toArray, List.getElem_cons_zero, List.getElem_cons_succ, Act.put, List.setIfInBounds_toArray, List.set_cons_zero, List.set_cons_succ]))
    (refine wpAnyH_take (i := 9) (v := ?_) rfl (by kernel_rfl) (by kernel_rfl) (by kernel_rfl) (fun _ _ _ h => h) (Or.inl ⟨by rfl, ?_⟩) (by assumption) ?_; rotate_left; (focus (intro w hSw; (try dsimp only at hSw); go_simp; (try with_reducible rfl))); (try simp only [List.getElem_toArray, List.getElem_cons_zero, List.getElem_cons_succ, Act.put, List.setIfInBounds_toArray, List.set_cons_zero, List.set_cons_succ]))
    have HBc : Hid (Below ws.heap.size ws ws.drew) := HB0d
    clear HB0d S0d
    obtain ⟨wc, hwc⟩ : ∃ w' : World, ws.drew = w' := ⟨_, rfl⟩
    rw [hwc] at HBc hHeld ⊢
    clear hwc
    refine wpAnyH_ready (rs := [0, 4, 11]) (by kernel_rfl) (by simp) ?_
    refine (AllReadyH.cons rfl (fun K hK => ?_) (AllReadyH.cons rfl (fun K hK => ?_) (AllReadyH.cons rfl (fun K hK => ?_) AllReadyH.nil)))
    · go_simp
      obtain ⟨wn, hwn⟩ : ∃ wn : World, wc.alloc (.cells #[] 3) = wn := ⟨_, rfl⟩
      rw [hwn]
      have hb : Below wc.heap.size wc wn := (by rw [← hwn]; exact below_alloc (Nat.le_refl _) _)
      clear hwn
      obtain ⟨g5, hg⟩ : ∃ g, wc.heap.size = g := ⟨_, rfl⟩
      rw [hg]
      clear hg
      (try replace r8 : Hid (RowIn wn ws.heap.size wn.heap.size v8 B.nv B.V) := (r8.out.grow hb).wider (Nat.le_refl _) hb.size)
      (try replace r2 := Lib.hid ((r2.out.grow hb).wider hb.size))
      (try replace e : Hid (wn.heap[gE]? = some (Obj.cells #[.slice none 0 0, .slice none 0 0, .slice none 0 0, .int .i64 0] 25)) := keep_blk hb e.out)
      replace HBc : Hid (Below ws.heap.size ws wn) := bel HBc.out hb
      clear hb
      have Sn := old_of HBc.out
      refine hK.out _ _ Sn (fun hHeld => ?_)
      clear hK K Sn
      (try simp only [List.getElem_toArray, List.getElem_cons_zero, List.getElem_cons_succ, Act.put, List.setIfInBounds_toArray, List.set_cons_zero, List.set_cons_succ])
      obtain ⟨wc, rfl⟩ : ∃ w' : World, w' = wn := ⟨_, rfl⟩
      refine wpAnyH_ready (rs := [3, 4, 11]) (by kernel_rfl) (by simp) ?_
      refine (AllReadyH.cons rfl (fun K hK => ?_) (AllReadyH.cons rfl (fun K hK => ?_) (AllReadyH.cons rfl (fun K hK => ?_) AllReadyH.nil)))
      · rw [if_pos (by rfl)]
        refine wp_clone _ (.tmp 5) (.tmp 7) ?_ ?_ N g5 _ B.nv _ B.V ?_ ?_ (ints_v (HBF.out.go HBc.out).1) h40v ?_
        any_goals (exact rfl)
        intro v8 wn hrow hb
        have r8 : Hid (RowIn wn ws.heap.size wn.heap.size v8 B.nv B.V) := hrow.wider HBc.out.size (Nat.le_refl _)
        clear hrow
        (try replace e : Hid (wn.heap[gE]? = some (Obj.cells #[.slice none 0 0, .slice none 0 0, .slice none 0 0, .int .i64 0] 25)) := keep_blk hb e.out)
        replace HBc : Hid (Below ws.heap.size ws wn) := bel HBc.out hb
        clear hb
        have Sn := old_of HBc.out
        refine hK.out _ _ Sn (fun hHeld => ?_)
        clear hK K Sn
        (try simp only [List.getElem_toArray, List.getElem_cons_zero, List.getElem_cons_succ, Act.put, List.setIfInBounds_toArray, List.set_cons_zero, List.set_cons_succ])
        obtain ⟨wc, rfl⟩ : ∃ w' : World, w' = wn := ⟨_, rfl⟩
        refine wpAnyH_ready (rs := [4, 11]) (by kernel_rfl) (by simp) ?_
        refine (AllReadyH.cons rfl (fun K hK => ?_) (AllReadyH.cons rfl (fun K hK => ?_) AllReadyH.nil))
        · go_simp
          obtain ⟨wn, hwn⟩ : ∃ wn : World, wc.alloc (.cells #[] 3) = wn := ⟨_, rfl⟩
          rw [hwn]
          have hb : Below wc.heap.size wc wn := (by rw [← hwn]; exact below_alloc (Nat.le_refl _) _)
          clear hwn
          obtain ⟨g9, hg⟩ : ∃ g, wc.heap.size = g := ⟨_, rfl⟩
          rw [hg]
          clear hg
          (try replace r8 : Hid (RowIn wn ws.heap.size wn.heap.size v8 B.nv B.V) := (r8.out.grow hb).wider (Nat.le_refl _) hb.size)
          (try replace r2 := Lib.hid ((r2.out.grow hb).wider hb.size))
          (try replace e : Hid (wn.heap[gE]? = some (Obj.cells #[.slice none 0 0, .slice none 0 0, .slice none 0 0, .int .i64 0] 25)) := keep_blk hb e.out)
          replace HBc : Hid (Below ws.heap.size ws wn) := bel HBc.out hb
          clear hb
          have Sn := old_of HBc.out
          refine hK.out _ _ Sn (fun hHeld => ?_)
          clear hK K Sn
          (try simp only [List.getElem_toArray, List.getElem_cons_zero, List.getElem_cons_succ, Act.put, List.setIfInBounds_toArray, List.set_cons_zero, List.set_cons_succ])
          obtain ⟨wc, rfl⟩ : ∃ w' : World, w' = wn := ⟨_, rfl⟩
          refine wpAnyH_ready (rs := [7, 11]) (by kernel_rfl) (by simp) ?_
          refine (AllReadyH.cons rfl (fun K hK => ?_) (AllReadyH.cons rfl (fun K hK => ?_) AllReadyH.nil))
          · rw [if_pos (by rfl)]
            refine wp_clone _ (.tmp 9) (.tmp 11) ?_ ?_ N g9 _ B.nf _ B.F ?_ ?_ (ints_f (HBF.out.go HBc.out).1) h40f ?_
            any_goals (exact rfl)
            intro v12 wn hrow hb
            have r2 : Hid (Two wn ws.heap.size wn.heap.size v8 v12 B) := ⟨_, r8.out.grow hb, hrow⟩
            clear hrow r8
            (try replace e : Hid (wn.heap[gE]? = some (Obj.cells #[.slice none 0 0, .slice none 0 0, .slice none 0 0, .int .i64 0] 25)) := keep_blk hb e.out)
            replace HBc : Hid (Below ws.heap.size ws wn) := bel HBc.out hb
            clear hb
            have Sn := old_of HBc.out
            refine hK.out _ _ Sn (fun hHeld => ?_)
            clear hK K Sn
            (try simp only [List.getElem_toArray, List.getElem_cons_zero, List.getElem_cons_succ, Act.put, List.setIfInBounds_toArray, List.set_cons_zero, List.set_cons_succ])
            obtain ⟨wc, rfl⟩ : ∃ w' : World, w' = wn := ⟨_, rfl⟩
            obtain ⟨g8, p8, rfl⟩ := r2.out.form1
            obtain ⟨g12, p12, rfl⟩ := r2.out.form2
            (refine wpAnyH_take (i := 10) (v := ?_) rfl (by kernel_rfl) (by kernel_rfl) (by kernel_rfl) (fun _ _ _ h => h) (Or.inl ⟨by rfl, ?_⟩) (by assumption) ?_; rotate_left; (focus (intro w hSw; (try dsimp only at hSw); go_simp; (try with_reducible rfl))); (try simp only [List.getElem_toArray, List.getElem_cons_zero, List.getElem_cons_succ, Act.put, List.setIfInBounds_toArray, List.set_cons_zero, List.set_cons_succ]))
            refine wpAnyH_ready (rs := [11]) (by kernel_rfl) (by simp) ?_
            refine (AllReadyH.cons rfl (fun K hK => ?_) AllReadyH.nil)
            · go_simp
              obtain ⟨wn, hwn⟩ : ∃ wn : World, wc.alloc (Obj.cells #[.slice none 0 0, .slice none 0 0, .slice none 0 0, .int .i64 0] 25) = wn := ⟨_, rfl⟩
              rw [hwn]
              have hb : Below wc.heap.size wc wn := (by rw [← hwn]; exact below_alloc (Nat.le_refl _) _)
              have e : Hid (wn.heap[wc.heap.size]? = some (Obj.cells #[.slice none 0 0, .slice none 0 0, .slice none 0 0, .int .i64 0] 25)) := (by rw [← hwn]; exact World.alloc_heap_new _ _)
              have hge : Hid (ws.heap.size ≤ wc.heap.size) := HBc.out.size
              obtain ⟨gE, hgE⟩ : ∃ g, wc.heap.size = g := ⟨_, rfl⟩
              rw [hgE] at e hge ⊢
              clear hwn hgE
              (try replace r8 : Hid (RowIn wn ws.heap.size wn.heap.size v8 B.nv B.V) := (r8.out.grow hb).wider (Nat.le_refl _) hb.size)
              (try replace r2 := Lib.hid ((r2.out.grow hb).wider hb.size))
              replace HBc : Hid (Below ws.heap.size ws wn) := bel HBc.out hb
              clear hb
              have Sn := old_of HBc.out
              refine hK.out _ _ Sn (fun hHeld => ?_)
              clear hK K Sn
              (try simp only [List.getElem_toArray, List.getElem_cons_zero, List.getElem_cons_succ, Act.put, List.setIfInBounds_toArray, List.set_cons_zero, List.set_cons_succ])
              obtain ⟨wc, rfl⟩ : ∃ w' : World, w' = wn := ⟨_, rfl⟩
              refine wpAnyH_ready (rs := [12]) (by kernel_rfl) (by simp) ?_
              refine AllReadyH.cons rfl (fun K hK => ?_) AllReadyH.nil
              have z0 := cell_blk e.out 0 rfl
              have z1 := cell_blk e.out 1 rfl
              have z2 := cell_blk e.out 2 rfl
              have z3 := cell_blk e.out 3 rfl
              have y := frozen_blk e.out
              go_simp
              have F := store_four e.out (.slice (some ⟨g8, 0, none⟩) B.nv p8) (.slice (some ⟨g12, 0, none⟩) B.nf p12) (.slice none 0 0) (.int .i64 B.wr)
              obtain ⟨wn, hwn⟩ : ∃ wn : World, ((((wc.setCell ⟨gE, 0, none⟩ (.slice (some ⟨g8, 0, none⟩) B.nv p8)).setCell ⟨gE, 1, none⟩ (.slice (some ⟨g12, 0, none⟩) B.nf p12)).setCell ⟨gE, 2, none⟩ (.slice none 0 0)).setCell ⟨gE, 3, none⟩ (.int .i64 B.wr)) = wn := ⟨_, rfl⟩
              rw [hwn] at F ⊢
              obtain ⟨f1, f2, f3⟩ := F
              have HBn : Hid (Below ws.heap.size ws wn) := HBc.out.trans (f2 _ hge.out)
              have Sn := old_of HBn.out
              have r3 : Hid (Two wn ws.heap.size wn.heap.size (.slice (some ⟨g8, 0, none⟩) B.nv p8) (.slice (some ⟨g12, 0, none⟩) B.nf p12) B) := (r2.out.other (fun k cs hg => f3 k cs _ (by decide) hg)).wider (by rw [← hwn]; simp [World.setCell])
              clear hwn f2 f3 r2
              refine hK.out _ _ Sn (fun hHeld => ?_)
              clear hK K Sn
              refine wpAnyH_done (by kernel_rfl) ?_ _
              clear hHeld
              go_wp2_with fail
              go_meet
              exact ⟨gE, _, _, rfl, hge.out, HBn.out, r3.out, f1⟩
          · go_simp
            obtain ⟨wn, hwn⟩ : ∃ wn : World, wc.alloc (Obj.cells #[.slice none 0 0, .slice none 0 0, .slice none 0 0, .int .i64 0] 25) = wn := ⟨_, rfl⟩
            rw [hwn]
            have hb : Below wc.heap.size wc wn := (by rw [← hwn]; exact below_alloc (Nat.le_refl _) _)
            have e : Hid (wn.heap[wc.heap.size]? = some (Obj.cells #[.slice none 0 0, .slice none 0 0, .slice none 0 0, .int .i64 0] 25)) := (by rw [← hwn]; exact World.alloc_heap_new _ _)
            have hge : Hid (ws.heap.size ≤ wc.heap.size) := HBc.out.size
            obtain ⟨gE, hgE⟩ : ∃ g, wc.heap.size = g := ⟨_, rfl⟩
            rw [hgE] at e hge ⊢
            clear hwn hgE
            (try replace r8 : Hid (RowIn wn ws.heap.size wn.heap.size v8 B.nv B.V) := (r8.out.grow hb).wider (Nat.le_refl _) hb.size)
            (try replace r2 := Lib.hid ((r2.out.grow hb).wider hb.size))
            replace HBc : Hid (Below ws.heap.size ws wn) := bel HBc.out hb
            clear hb
            have Sn := old_of HBc.out
            refine hK.out _ _ Sn (fun hHeld => ?_)
            clear hK K Sn
            (try simp only [List.getElem_toArray, List.getElem_cons_zero, List.getElem_cons_succ, Act.put, List.setIfInBounds_toArray, List.set_cons_zero, List.set_cons_succ])
            obtain ⟨wc, rfl⟩ : ∃ w' : World, w' = wn := ⟨_, rfl⟩
            refine wpAnyH_ready (rs := [7]) (by kernel_rfl) (by simp) ?_
            refine (AllReadyH.cons rfl (fun K hK => ?_) AllReadyH.nil)
            · rw [if_pos (by rfl)]
              refine wp_clone _ (.tmp 9) (.tmp 11) ?_ ?_ N g9 _ B.nf _ B.F ?_ ?_ (ints_f (HBF.out.go HBc.out).1) h40f ?_
              any_goals (exact rfl)
              intro v12 wn hrow hb
              have r2 : Hid (Two wn ws.heap.size wn.heap.size v8 v12 B) := ⟨_, r8.out.grow hb, hrow⟩
              clear hrow r8
              (try replace e : Hid (wn.heap[gE]? = some (Obj.cells #[.slice none 0 0, .slice none 0 0, .slice none 0 0, .int .i64 0] 25)) := keep_blk hb e.out)
              replace HBc : Hid (Below ws.heap.size ws wn) := bel HBc.out hb
              clear hb
              have Sn := old_of HBc.out
              refine hK.out _ _ Sn (fun hHeld => ?_)
              clear hK K Sn
              (try simp only [List.getElem_toArray, List.getElem_cons_zero, List.getElem_cons_succ, Act.put, List.setIfInBounds_toArray, List.set_cons_zero, List.set_cons_succ])
              obtain ⟨wc, rfl⟩ : ∃ w' : World, w' = wn := ⟨_, rfl⟩
              obtain ⟨g8, p8, rfl⟩ := r2.out.form1
              obtain ⟨g12, p12, rfl⟩ := r2.out.form2
              (refine wpAnyH_take (i := 10) (v := ?_) rfl (by kernel_rfl) (by kernel_rfl) (by kernel_rfl) (fun _ _ _ h => h) (Or.inl ⟨by rfl, ?_⟩) (by assumption) ?_; rotate_left; (focus (intro w hSw; (try dsimp only at hSw); go_simp; (try with_reducible rfl))); (try simp only [List.getElem_toArray, List.getElem_cons_zero, List.getElem_cons_succ, Act.put, List.setIfInBounds_toArray, List.set_cons_zero, List.set_cons_succ]))
              refine wpAnyH_ready (rs := [12]) (by kernel_rfl) (by simp) ?_
              refine AllReadyH.cons rfl (fun K hK => ?_) AllReadyH.nil
              have z0 := cell_blk e.out 0 rfl
              have z1 := cell_blk e.out 1 rfl
              have z2 := cell_blk e.out 2 rfl
              have z3 := cell_blk e.out 3 rfl
              have y := frozen_blk e.out
              go_simp
              have F := store_four e.out (.slice (some ⟨g8, 0, none⟩) B.nv p8) (.slice (some ⟨g12, 0, none⟩) B.nf p12) (.slice none 0 0) (.int .i64 B.wr)
              obtain ⟨wn, hwn⟩ : ∃ wn : World, ((((wc.setCell ⟨gE, 0, none⟩ (.slice (some ⟨g8, 0, none⟩) B.nv p8)).setCell ⟨gE, 1, none⟩ (.slice (some ⟨g12, 0, none⟩) B.nf p12)).setCell ⟨gE, 2, none⟩ (.slice none 0 0)).setCell ⟨gE, 3, none⟩ (.int .i64 B.wr)) = wn := ⟨_, rfl⟩
              rw [hwn] at F ⊢
              obtain ⟨f1, f2, f3⟩ := F
              have HBn : Hid (Below ws.heap.size ws wn) := HBc.out.trans (f2 _ hge.out)
              have Sn := old_of HBn.out
              have r3 : Hid (Two wn ws.heap.size wn.heap.size (.slice (some ⟨g8, 0, none⟩) B.nv p8) (.slice (some ⟨g12, 0, none⟩) B.nf p12) B) := (r2.out.other (fun k cs hg => f3 k cs _ (by decide) hg)).wider (by rw [← hwn]; simp [World.setCell])
              clear hwn f2 f3 r2
              refine hK.out _ _ Sn (fun hHeld => ?_)
              clear hK K Sn
              refine wpAnyH_done (by kernel_rfl) ?_ _
              clear hHeld
              go_wp2_with fail
              go_meet
              exact ⟨gE, _, _, rfl, hge.out, HBn.out, r3.out, f1⟩
        · go_simp
          obtain ⟨wn, hwn⟩ : ∃ wn : World, wc.alloc (Obj.cells #[.slice none 0 0, .slice none 0 0, .slice none 0 0, .int .i64 0] 25) = wn := ⟨_, rfl⟩
          rw [hwn]
          have hb : Below wc.heap.size wc wn := (by rw [← hwn]; exact below_alloc (Nat.le_refl _) _)
          have e : Hid (wn.heap[wc.heap.size]? = some (Obj.cells #[.slice none 0 0, .slice none 0 0, .slice none 0 0, .int .i64 0] 25)) := (by rw [← hwn]; exact World.alloc_heap_new _ _)
          have hge : Hid (ws.heap.size ≤ wc.heap.size) := HBc.out.size
          obtain ⟨gE, hgE⟩ : ∃ g, wc.heap.size = g := ⟨_, rfl⟩
          rw [hgE] at e hge ⊢
          clear hwn hgE
          (try replace r8 : Hid (RowIn wn ws.heap.size wn.heap.size v8 B.nv B.V) := (r8.out.grow hb).wider (Nat.le_refl _) hb.size)
          (try replace r2 := Lib.hid ((r2.out.grow hb).wider hb.size))
          replace HBc : Hid (Below ws.heap.size ws wn) := bel HBc.out hb
          clear hb
          have Sn := old_of HBc.out
          refine hK.out _ _ Sn (fun hHeld => ?_)
          clear hK K Sn
          (try simp only [List.getElem_toArray, List.getElem_cons_zero, List.getElem_cons_succ, Act.put, List.setIfInBounds_toArray, List.set_cons_zero, List.set_cons_succ])
          obtain ⟨wc, rfl⟩ : ∃ w' : World, w' = wn := ⟨_, rfl⟩
          refine wpAnyH_ready (rs := [4]) (by kernel_rfl) (by simp) ?_
          refine (AllReadyH.cons rfl (fun K hK => ?_) AllReadyH.nil)
          · go_simp
            obtain ⟨wn, hwn⟩ : ∃ wn : World, wc.alloc (.cells #[] 3) = wn := ⟨_, rfl⟩
            rw [hwn]
            have hb : Below wc.heap.size wc wn := (by rw [← hwn]; exact below_alloc (Nat.le_refl _) _)
            clear hwn
            obtain ⟨g9, hg⟩ : ∃ g, wc.heap.size = g := ⟨_, rfl⟩
            rw [hg]
            clear hg
            (try replace r8 : Hid (RowIn wn ws.heap.size wn.heap.size v8 B.nv B.V) := (r8.out.grow hb).wider (Nat.le_refl _) hb.size)
            (try replace r2 := Lib.hid ((r2.out.grow hb).wider hb.size))
            (try replace e : Hid (wn.heap[gE]? = some (Obj.cells #[.slice none 0 0, .slice none 0 0, .slice none 0 0, .int .i64 0] 25)) := keep_blk hb e.out)
            replace HBc : Hid (Below ws.heap.size ws wn) := bel HBc.out hb
            clear hb
            have Sn := old_of HBc.out
            refine hK.out _ _ Sn (fun hHeld => ?_)
            clear hK K Sn
            (try simp only [List.getElem_toArray, List.getElem_cons_zero, List.getElem_cons_succ, Act.put, List.setIfInBounds_toArray, List.set_cons_zero, List.set_cons_succ])
            obtain ⟨wc, rfl⟩ : ∃ w' : World, w' = wn := ⟨_, rfl⟩
            refine wpAnyH_ready (rs := [7]) (by kernel_rfl) (by simp) ?_
            refine (AllReadyH.cons rfl (fun K hK => ?_) AllReadyH.nil)
            · rw [if_pos (by rfl)]
              refine wp_clone _ (.tmp 9) (.tmp 11) ?_ ?_ N g9 _ B.nf _ B.F ?_ ?_ (ints_f (HBF.out.go HBc.out).1) h40f ?_
              any_goals (exact rfl)
              intro v12 wn hrow hb
              have r2 : Hid (Two wn ws.heap.size wn.heap.size v8 v12 B) := ⟨_, r8.out.grow hb, hrow⟩
              clear hrow r8
              (try replace e : Hid (wn.heap[gE]? = some (Obj.cells #[.slice none 0 0, .slice none 0 0, .slice none 0 0, .int .i64 0] 25)) := keep_blk hb e.out)
              replace HBc : Hid (Below ws.heap.size ws wn) := bel HBc.out hb
              clear hb
              have Sn := old_of HBc.out
              refine hK.out _ _ Sn (fun hHeld => ?_)
              clear hK K Sn
              (try simp only [List.getElem_toArray, List.getElem_cons_zero, List.getElem_cons_succ, Act.put, List.setIfInBounds_toArray, List.set_cons_zero, List.set_cons_succ])
              obtain ⟨wc, rfl⟩ : ∃ w' : World, w' = wn := ⟨_, rfl⟩
              obtain ⟨g8, p8, rfl⟩ := r2.out.form1
              obtain ⟨g12, p12, rfl⟩ := r2.out.form2
              (refine wpAnyH_take (i := 10) (v := ?_) rfl (by kernel_rfl) (by kernel_rfl) (by kernel_rfl) (fun _ _ _ h => h) (Or.inl ⟨by rfl, ?_⟩) (by assumption) ?_; rotate_left; (focus (intro w hSw; (try dsimp only at hSw); go_simp; (try with_reducible rfl))); (try simp only [List.getElem_toArray, List.getElem_cons_zero, List.getElem_cons_succ, Act.put, List.setIfInBounds_toArray, List.set_cons_zero, List.set_cons_succ]))
              refine wpAnyH_ready (rs := [12]) (by kernel_rfl) (by simp) ?_
              refine AllReadyH.cons rfl (fun K hK => ?_) AllReadyH.nil
              have z0 := cell_blk e.out 0 rfl
              have z1 := cell_blk e.out 1 rfl
              have z2 := cell_blk e.out 2 rfl
              have z3 := cell_blk e.out 3 rfl
              have y := frozen_blk e.out
              go_simp
              have F := store_four e.out (.slice (some ⟨g8, 0, none⟩) B.nv p8) (.slice (some ⟨g12, 0, none⟩) B.nf p12) (.slice none 0 0) (.int .i64 B.wr)
              obtain ⟨wn, hwn⟩ : ∃ wn : World, ((((wc.setCell ⟨gE, 0, none⟩ (.slice (some ⟨g8, 0, none⟩) B.nv p8)).setCell ⟨gE, 1, none⟩ (.slice (some ⟨g12, 0, none⟩) B.nf p12)).setCell ⟨gE, 2, none⟩ (.slice none 0 0)).setCell ⟨gE, 3, none⟩ (.int .i64 B.wr)) = wn := ⟨_, rfl⟩
              rw [hwn] at F ⊢
              obtain ⟨f1, f2, f3⟩ := F
              have HBn : Hid (Below ws.heap.size ws wn) := HBc.out.trans (f2 _ hge.out)
              have Sn := old_of HBn.out
              have r3 : Hid (Two wn ws.heap.size wn.heap.size (.slice (some ⟨g8, 0, none⟩) B.nv p8) (.slice (some ⟨g12, 0, none⟩) B.nf p12) B) := (r2.out.other (fun k cs hg => f3 k cs _ (by decide) hg)).wider (by rw [← hwn]; simp [World.setCell])
              clear hwn f2 f3 r2
              refine hK.out _ _ Sn (fun hHeld => ?_)
              clear hK K Sn
              refine wpAnyH_done (by kernel_rfl) ?_ _
              clear hHeld
              go_wp2_with fail
              go_meet
              exact ⟨gE, _, _, rfl, hge.out, HBn.out, r3.out, f1⟩
      · go_simp
        obtain ⟨wn, hwn⟩ : ∃ wn : World, wc.alloc (.cells #[] 3) = wn := ⟨_, rfl⟩
        rw [hwn]
        have hb : Below wc.heap.size wc wn := (by rw [← hwn]; exact below_alloc (Nat.le_refl _) _)
        clear hwn
        obtain ⟨g9, hg⟩ : ∃ g, wc.heap.size = g := ⟨_, rfl⟩
        rw [hg]
        clear hg
        (try replace r8 : Hid (RowIn wn ws.heap.size wn.heap.size v8 B.nv B.V) := (r8.out.grow hb).wider (Nat.le_refl _) hb.size)
        (try replace r2 := Lib.hid ((r2.out.grow hb).wider hb.size))
        (try replace e : Hid (wn.heap[gE]? = some (Obj.cells #[.slice none 0 0, .slice none 0 0, .slice none 0 0, .int .i64 0] 25)) := keep_blk hb e.out)
        replace HBc : Hid (Below ws.heap.size ws wn) := bel HBc.out hb
        clear hb
        have Sn := old_of HBc.out
        refine hK.out _ _ Sn (fun hHeld => ?_)
        clear hK K Sn
        (try simp only [List.getElem_toArray, List.getElem_cons_zero, List.getElem_cons_succ, Act.put, List.setIfInBounds_toArray, List.set_cons_zero, List.set_cons_succ])
        obtain ⟨wc, rfl⟩ : ∃ w' : World, w' = wn := ⟨_, rfl⟩
        refine wpAnyH_ready (rs := [3, 11]) (by kernel_rfl) (by simp) ?_
        refine (AllReadyH.cons rfl (fun K hK => ?_) (AllReadyH.cons rfl (fun K hK => ?_) AllReadyH.nil))
        · rw [if_pos (by rfl)]
          refine wp_clone _ (.tmp 5) (.tmp 7) ?_ ?_ N g5 _ B.nv _ B.V ?_ ?_ (ints_v (HBF.out.go HBc.out).1) h40v ?_
          any_goals (exact rfl)
          intro v8 wn hrow hb
          have r8 : Hid (RowIn wn ws.heap.size wn.heap.size v8 B.nv B.V) := hrow.wider HBc.out.size (Nat.le_refl _)
          clear hrow
          (try replace e : Hid (wn.heap[gE]? = some (Obj.cells #[.slice none 0 0, .slice none 0 0, .slice none 0 0, .int .i64 0] 25)) := keep_blk hb e.out)
          replace HBc : Hid (Below ws.heap.size ws wn) := bel HBc.out hb
          clear hb
          have Sn := old_of HBc.out
          refine hK.out _ _ Sn (fun hHeld => ?_)
          clear hK K Sn
          (try simp only [List.getElem_toArray, List.getElem_cons_zero, List.getElem_cons_succ, Act.put, List.setIfInBounds_toArray, List.set_cons_zero, List.set_cons_succ])
          obtain ⟨wc, rfl⟩ : ∃ w' : World, w' = wn := ⟨_, rfl⟩
          refine wpAnyH_ready (rs := [7, 11]) (by kernel_rfl) (by simp) ?_
          refine (AllReadyH.cons rfl (fun K hK => ?_) (AllReadyH.cons rfl (fun K hK => ?_) AllReadyH.nil))
          · rw [if_pos (by rfl)]
            refine wp_clone _ (.tmp 9) (.tmp 11) ?_ ?_ N g9 _ B.nf _ B.F ?_ ?_ (ints_f (HBF.out.go HBc.out).1) h40f ?_
            any_goals (exact rfl)
            intro v12 wn hrow hb
            have r2 : Hid (Two wn ws.heap.size wn.heap.size v8 v12 B) := ⟨_, r8.out.grow hb, hrow⟩
            clear hrow r8
            (try replace e : Hid (wn.heap[gE]? = some (Obj.cells #[.slice none 0 0, .slice none 0 0, .slice none 0 0, .int .i64 0] 25)) := keep_blk hb e.out)
            replace HBc : Hid (Below ws.heap.size ws wn) := bel HBc.out hb
            clear hb
            have Sn := old_of HBc.out
            refine hK.out _ _ Sn (fun hHeld => ?_)
            clear hK K Sn
            (try simp only [List.getElem_toArray, List.getElem_cons_zero, List.getElem_cons_succ, Act.put, List.setIfInBounds_toArray, List.set_cons_zero, List.set_cons_succ])
            obtain ⟨wc, rfl⟩ : ∃ w' : World, w' = wn := ⟨_, rfl⟩
            obtain ⟨g8, p8, rfl⟩ := r2.out.form1
            obtain ⟨g12, p12, rfl⟩ := r2.out.form2
            (refine wpAnyH_take (i := 10) (v := ?_) rfl (by kernel_rfl) (by kernel_rfl) (by kernel_rfl) (fun _ _ _ h => h) (Or.inl ⟨by rfl, ?_⟩) (by assumption) ?_; rotate_left; (focus (intro w hSw; (try dsimp only at hSw); go_simp; (try with_reducible rfl))); (try simp only [List.getElem_toArray, List.getElem_cons_zero, List.getElem_cons_succ, Act.put, List.setIfInBounds_toArray, List.set_cons_zero, List.set_cons_succ]))
            refine wpAnyH_ready (rs := [11]) (by kernel_rfl) (by simp) ?_
            refine (AllReadyH.cons rfl (fun K hK => ?_) AllReadyH.nil)
            · go_simp
              obtain ⟨wn, hwn⟩ : ∃ wn : World, wc.alloc (Obj.cells #[.slice none 0 0, .slice none 0 0, .slice none 0 0, .int .i64 0] 25) = wn := ⟨_, rfl⟩
              rw [hwn]
              have hb : Below wc.heap.size wc wn := (by rw [← hwn]; exact below_alloc (Nat.le_refl _) _)
              have e : Hid (wn.heap[wc.heap.size]? = some (Obj.cells #[.slice none 0 0, .slice none 0 0, .slice none 0 0, .int .i64 0] 25)) := (by rw [← hwn]; exact World.alloc_heap_new _ _)
              have hge : Hid (ws.heap.size ≤ wc.heap.size) := HBc.out.size
              obtain ⟨gE, hgE⟩ : ∃ g, wc.heap.size = g := ⟨_, rfl⟩
              rw [hgE] at e hge ⊢
              clear hwn hgE
              (try replace r8 : Hid (RowIn wn ws.heap.size wn.heap.size v8 B.nv B.V) := (r8.out.grow hb).wider (Nat.le_refl _) hb.size)
              (try replace r2 := Lib.hid ((r2.out.grow hb).wider hb.size))
              replace HBc : Hid (Below ws.heap.size ws wn) := bel HBc.out hb
              clear hb
              have Sn := old_of HBc.out
              refine hK.out _ _ Sn (fun hHeld => ?_)
              clear hK K Sn
              (try simp only [List.getElem_toArray, List.getElem_cons_zero, List.getElem_cons_succ, Act.put, List.setIfInBounds_toArray, List.set_cons_zero, List.set_cons_succ])
              obtain ⟨wc, rfl⟩ : ∃ w' : World, w' = wn := ⟨_, rfl⟩
              refine wpAnyH_ready (rs := [12]) (by kernel_rfl) (by simp) ?_
              refine AllReadyH.cons rfl (fun K hK => ?_) AllReadyH.nil
              have z0 := cell_blk e.out 0 rfl
              have z1 := cell_blk e.out 1 rfl
              have z2 := cell_blk e.out 2 rfl
              have z3 := cell_blk e.out 3 rfl
              have y := frozen_blk e.out
              go_simp
              have F := store_four e.out (.slice (some ⟨g8, 0, none⟩) B.nv p8) (.slice (some ⟨g12, 0, none⟩) B.nf p12) (.slice none 0 0) (.int .i64 B.wr)
              obtain ⟨wn, hwn⟩ : ∃ wn : World, ((((wc.setCell ⟨gE, 0, none⟩ (.slice (some ⟨g8, 0, none⟩) B.nv p8)).setCell ⟨gE, 1, none⟩ (.slice (some ⟨g12, 0, none⟩) B.nf p12)).setCell ⟨gE, 2, none⟩ (.slice none 0 0)).setCell ⟨gE, 3, none⟩ (.int .i64 B.wr)) = wn := ⟨_, rfl⟩
              rw [hwn] at F ⊢
              obtain ⟨f1, f2, f3⟩ := F
              have HBn : Hid (Below ws.heap.size ws wn) := HBc.out.trans (f2 _ hge.out)
              have Sn := old_of HBn.out
              have r3 : Hid (Two wn ws.heap.size wn.heap.size (.slice (some ⟨g8, 0, none⟩) B.nv p8) (.slice (some ⟨g12, 0, none⟩) B.nf p12) B) := (r2.out.other (fun k cs hg => f3 k cs _ (by decide) hg)).wider (by rw [← hwn]; simp [World.setCell])
              clear hwn f2 f3 r2
              refine hK.out _ _ Sn (fun hHeld => ?_)
              clear hK K Sn
              refine wpAnyH_done (by kernel_rfl) ?_ _
              clear hHeld
              go_wp2_with fail
              go_meet
              exact ⟨gE, _, _, rfl, hge.out, HBn.out, r3.out, f1⟩
          · go_simp
            obtain ⟨wn, hwn⟩ : ∃ wn : World, wc.alloc (Obj.cells #[.slice none 0 0, .slice none 0 0, .slice none 0 0, .int .i64 0] 25) = wn := ⟨_, rfl⟩
            rw [hwn]
            have hb : Below wc.heap.size wc wn := (by rw [← hwn]; exact below_alloc (Nat.le_refl _) _)
            have e : Hid (wn.heap[wc.heap.size]? = some (Obj.cells #[.slice none 0 0, .slice none 0 0, .slice none 0 0, .int .i64 0] 25)) := (by rw [← hwn]; exact World.alloc_heap_new _ _)
            have hge : Hid (ws.heap.size ≤ wc.heap.size) := HBc.out.size
            obtain ⟨gE, hgE⟩ : ∃ g, wc.heap.size = g := ⟨_, rfl⟩
            rw [hgE] at e hge ⊢
            clear hwn hgE
            (try replace r8 : Hid (RowIn wn ws.heap.size wn.heap.size v8 B.nv B.V) := (r8.out.grow hb).wider (Nat.le_refl _) hb.size)
            (try replace r2 := Lib.hid ((r2.out.grow hb).wider hb.size))
            replace HBc : Hid (Below ws.heap.size ws wn) := bel HBc.out hb
            clear hb
            have Sn := old_of HBc.out
            refine hK.out _ _ Sn (fun hHeld => ?_)
            clear hK K Sn
            (try simp only [List.getElem_toArray, List.getElem_cons_zero, List.getElem_cons_succ, Act.put, List.setIfInBounds_toArray, List.set_cons_zero, List.set_cons_succ])
            obtain ⟨wc, rfl⟩ : ∃ w' : World, w' = wn := ⟨_, rfl⟩
            refine wpAnyH_ready (rs := [7]) (by kernel_rfl) (by simp) ?_
            refine (AllReadyH.cons rfl (fun K hK => ?_) AllReadyH.nil)
            · rw [if_pos (by rfl)]
              refine wp_clone _ (.tmp 9) (.tmp 11) ?_ ?_ N g9 _ B.nf _ B.F ?_ ?_ (ints_f (HBF.out.go HBc.out).1) h40f ?_
              any_goals (exact rfl)
              intro v12 wn hrow hb
              have r2 : Hid (Two wn ws.heap.size wn.heap.size v8 v12 B) := ⟨_, r8.out.grow hb, hrow⟩
              clear hrow r8
              (try replace e : Hid (wn.heap[gE]? = some (Obj.cells #[.slice none 0 0, .slice none 0 0, .slice none 0 0, .int .i64 0] 25)) := keep_blk hb e.out)
              replace HBc : Hid (Below ws.heap.size ws wn) := bel HBc.out hb
              clear hb
              have Sn := old_of HBc.out
              refine hK.out _ _ Sn (fun hHeld => ?_)
              clear hK K Sn
              (try simp only [List.getElem_toArray, List.getElem_cons_zero, List.getElem_cons_succ, Act.put, List.setIfInBounds_toArray, List.set_cons_zero, List.set_cons_succ])
              obtain ⟨wc, rfl⟩ : ∃ w' : World, w' = wn := ⟨_, rfl⟩
              obtain ⟨g8, p8, rfl⟩ := r2.out.form1
              obtain ⟨g12, p12, rfl⟩ := r2.out.form2
              (refine wpAnyH_take (i := 10) (v := ?_) rfl (by kernel_rfl) (by kernel_rfl) (by kernel_rfl) (fun _ _ _ h => h) (Or.inl ⟨by rfl, ?_⟩) (by assumption) ?_; rotate_left; (focus (intro w hSw; (try dsimp only at hSw); go_simp; (try with_reducible rfl))); (try simp only [List.getElem_toArray, List.getElem_cons_zero, List.getElem_cons_succ, Act.put, List.setIfInBounds_toArray, List.set_cons_zero, List.set_cons_succ]))
              refine wpAnyH_ready (rs := [12]) (by kernel_rfl) (by simp) ?_
              refine AllReadyH.cons rfl (fun K hK => ?_) AllReadyH.nil
              have z0 := cell_blk e.out 0 rfl
              have z1 := cell_blk e.out 1 rfl
              have z2 := cell_blk e.out 2 rfl
              have z3 := cell_blk e.out 3 rfl
              have y := frozen_blk e.out
              go_simp
              have F := store_four e.out (.slice (some ⟨g8, 0, none⟩) B.nv p8) (.slice (some ⟨g12, 0, none⟩) B.nf p12) (.slice none 0 0) (.int .i64 B.wr)
              obtain ⟨wn, hwn⟩ : ∃ wn : World, ((((wc.setCell ⟨gE, 0, none⟩ (.slice (some ⟨g8, 0, none⟩) B.nv p8)).setCell ⟨gE, 1, none⟩ (.slice (some ⟨g12, 0, none⟩) B.nf p12)).setCell ⟨gE, 2, none⟩ (.slice none 0 0)).setCell ⟨gE, 3, none⟩ (.int .i64 B.wr)) = wn := ⟨_, rfl⟩
              rw [hwn] at F ⊢
              obtain ⟨f1, f2, f3⟩ := F
              have HBn : Hid (Below ws.heap.size ws wn) := HBc.out.trans (f2 _ hge.out)
              have Sn := old_of HBn.out
              have r3 : Hid (Two wn ws.heap.size wn.heap.size (.slice (some ⟨g8, 0, none⟩) B.nv p8) (.slice (some ⟨g12, 0, none⟩) B.nf p12) B) := (r2.out.other (fun k cs hg => f3 k cs _ (by decide) hg)).wider (by rw [← hwn]; simp [World.setCell])
              clear hwn f2 f3 r2
              refine hK.out _ _ Sn (fun hHeld => ?_)
              clear hK K Sn
              refine wpAnyH_done (by kernel_rfl) ?_ _
              clear hHeld
              go_wp2_with fail
              go_meet
              exact ⟨gE, _, _, rfl, hge.out, HBn.out, r3.out, f1⟩
        · go_simp
          obtain ⟨wn, hwn⟩ : ∃ wn : World, wc.alloc (Obj.cells #[.slice none 0 0, .slice none 0 0, .slice none 0 0, .int .i64 0] 25) = wn := ⟨_, rfl⟩
          rw [hwn]
          have hb : Below wc.heap.size wc wn := (by rw [← hwn]; exact below_alloc (Nat.le_refl _) _)
          have e : Hid (wn.heap[wc.heap.size]? = some (Obj.cells #[.slice none 0 0, .slice none 0 0, .slice none 0 0, .int .i64 0] 25)) := (by rw [← hwn]; exact World.alloc_heap_new _ _)
          have hge : Hid (ws.heap.size ≤ wc.heap.size) := HBc.out.size
          obtain ⟨gE, hgE⟩ : ∃ g, wc.heap.size = g := ⟨_, rfl⟩
          rw [hgE] at e hge ⊢
          clear hwn hgE
          (try replace r8 : Hid (RowIn wn ws.heap.size wn.heap.size v8 B.nv B.V) := (r8.out.grow hb).wider (Nat.le_refl _) hb.size)
          (try replace r2 := Lib.hid ((r2.out.grow hb).wider hb.size))
          replace HBc : Hid (Below ws.heap.size ws wn) := bel HBc.out hb
          clear hb
          have Sn := old_of HBc.out
          refine hK.out _ _ Sn (fun hHeld => ?_)
          clear hK K Sn
          (try simp only [List.getElem_toArray, List.getElem_cons_zero, List.getElem_cons_succ, Act.put, List.setIfInBounds_toArray, List.set_cons_zero, List.set_cons_succ])
          obtain ⟨wc, rfl⟩ : ∃ w' : World, w' = wn := ⟨_, rfl⟩
          refine wpAnyH_ready (rs := [3]) (by kernel_rfl) (by simp) ?_
          refine (AllReadyH.cons rfl (fun K hK => ?_) AllReadyH.nil)
          · rw [if_pos (by rfl)]
            refine wp_clone _ (.tmp 5) (.tmp 7) ?_ ?_ N g5 _ B.nv _ B.V ?_ ?_ (ints_v (HBF.out.go HBc.out).1) h40v ?_
            any_goals (exact rfl)
            intro v8 wn hrow hb
            have r8 : Hid (RowIn wn ws.heap.size wn.heap.size v8 B.nv B.V) := hrow.wider HBc.out.size (Nat.le_refl _)
            clear hrow
            (try replace e : Hid (wn.heap[gE]? = some (Obj.cells #[.slice none 0 0, .slice none 0 0, .slice none 0 0, .int .i64 0] 25)) := keep_blk hb e.out)
            replace HBc : Hid (Below ws.heap.size ws wn) := bel HBc.out hb
            clear hb
            have Sn := old_of HBc.out
            refine hK.out _ _ Sn (fun hHeld => ?_)
            clear hK K Sn
            (try simp only [List.getElem_toArray, List.getElem_cons_zero, List.getElem_cons_succ, Act.put, List.setIfInBounds_toArray, List.set_cons_zero, List.set_cons_succ])
            obtain ⟨wc, rfl⟩ : ∃ w' : World, w' = wn := ⟨_, rfl⟩
            refine wpAnyH_ready (rs := [7]) (by kernel_rfl) (by simp) ?_
            refine (AllReadyH.cons rfl (fun K hK => ?_) AllReadyH.nil)
            · rw [if_pos (by rfl)]
              refine wp_clone _ (.tmp 9) (.tmp 11) ?_ ?_ N g9 _ B.nf _ B.F ?_ ?_ (ints_f (HBF.out.go HBc.out).1) h40f ?_
              any_goals (exact rfl)
              intro v12 wn hrow hb
              have r2 : Hid (Two wn ws.heap.size wn.heap.size v8 v12 B) := ⟨_, r8.out.grow hb, hrow⟩
              clear hrow r8
              (try replace e : Hid (wn.heap[gE]? = some (Obj.cells #[.slice none 0 0, .slice none 0 0, .slice none 0 0, .int .i64 0] 25)) := keep_blk hb e.out)
              replace HBc : Hid (Below ws.heap.size ws wn) := bel HBc.out hb
              clear hb
              have Sn := old_of HBc.out
              refine hK.out _ _ Sn (fun hHeld => ?_)
              clear hK K Sn
              (try simp only [List.getElem_toArray, List.getElem_cons_zero, List.getElem_cons_succ, Act.put, List.setIfInBounds_toArray, List.set_cons_zero, List.set_cons_succ])
              obtain ⟨wc, rfl⟩ : ∃ w' : World, w' = wn := ⟨_, rfl⟩
              obtain ⟨g8, p8, rfl⟩ := r2.out.form1
              obtain ⟨g12, p12, rfl⟩ := r2.out.form2
              (refine wpAnyH_take (i := 10) (v := ?_) rfl (by kernel_rfl) (by kernel_rfl) (by kernel_rfl) (fun _ _ _ h => h) (Or.inl ⟨by rfl, ?_⟩) (by assumption) ?_; rotate_left; (focus (intro w hSw; (try dsimp only at hSw); go_simp; (try with_reducible rfl))); (try simp only [List.getElem_toArray, List.getElem_cons_zero, List.getElem_cons_succ, Act.put, List.setIfInBounds_toArray, List.set_cons_zero, List.set_cons_succ]))
              refine wpAnyH_ready (rs := [12]) (by kernel_rfl) (by simp) ?_
              refine AllReadyH.cons rfl (fun K hK => ?_) AllReadyH.nil
              have z0 := cell_blk e.out 0 rfl
              have z1 := cell_blk e.out 1 rfl
              have z2 := cell_blk e.out 2 rfl
              have z3 := cell_blk e.out 3 rfl
              have y := frozen_blk e.out
              go_simp
              have F := store_four e.out (.slice (some ⟨g8, 0, none⟩) B.nv p8) (.slice (some ⟨g12, 0, none⟩) B.nf p12) (.slice none 0 0) (.int .i64 B.wr)
              obtain ⟨wn, hwn⟩ : ∃ wn : World, ((((wc.setCell ⟨gE, 0, none⟩ (.slice (some ⟨g8, 0, none⟩) B.nv p8)).setCell ⟨gE, 1, none⟩ (.slice (some ⟨g12, 0, none⟩) B.nf p12)).setCell ⟨gE, 2, none⟩ (.slice none 0 0)).setCell ⟨gE, 3, none⟩ (.int .i64 B.wr)) = wn := ⟨_, rfl⟩
              rw [hwn] at F ⊢
              obtain ⟨f1, f2, f3⟩ := F
              have HBn : Hid (Below ws.heap.size ws wn) := HBc.out.trans (f2 _ hge.out)
              have Sn := old_of HBn.out
              have r3 : Hid (Two wn ws.heap.size wn.heap.size (.slice (some ⟨g8, 0, none⟩) B.nv p8) (.slice (some ⟨g12, 0, none⟩) B.nf p12) B) := (r2.out.other (fun k cs hg => f3 k cs _ (by decide) hg)).wider (by rw [← hwn]; simp [World.setCell])
              clear hwn f2 f3 r2
              refine hK.out _ _ Sn (fun hHeld => ?_)
              clear hK K Sn
              refine wpAnyH_done (by kernel_rfl) ?_ _
              clear hHeld
              go_wp2_with fail
              go_meet
              exact ⟨gE, _, _, rfl, hge.out, HBn.out, r3.out, f1⟩
      · go_simp
        obtain ⟨wn, hwn⟩ : ∃ wn : World, wc.alloc (Obj.cells #[.slice none 0 0, .slice none 0 0, .slice none 0 0, .int .i64 0] 25) = wn := ⟨_, rfl⟩
        rw [hwn]
        have hb : Below wc.heap.size wc wn := (by rw [← hwn]; exact below_alloc (Nat.le_refl _) _)
        have e : Hid (wn.heap[wc.heap.size]? = some (Obj.cells #[.slice none 0 0, .slice none 0 0, .slice none 0 0, .int .i64 0] 25)) := (by rw [← hwn]; exact World.alloc_heap_new _ _)
        have hge : Hid (ws.heap.size ≤ wc.heap.size) := HBc.out.size
        obtain ⟨gE, hgE⟩ : ∃ g, wc.heap.size = g := ⟨_, rfl⟩
        rw [hgE] at e hge ⊢
        clear hwn hgE
        (try replace r8 : Hid (RowIn wn ws.heap.size wn.heap.size v8 B.nv B.V) := (r8.out.grow hb).wider (Nat.le_refl _) hb.size)
        (try replace r2 := Lib.hid ((r2.out.grow hb).wider hb.size))
        replace HBc : Hid (Below ws.heap.size ws wn) := bel HBc.out hb
        clear hb
        have Sn := old_of HBc.out
        refine hK.out _ _ Sn (fun hHeld => ?_)
        clear hK K Sn
        (try simp only [List.getElem_toArray, List.getElem_cons_zero, List.getElem_cons_succ, Act.put, List.setIfInBounds_toArray, List.set_cons_zero, List.set_cons_succ])
        obtain ⟨wc, rfl⟩ : ∃ w' : World, w' = wn := ⟨_, rfl⟩
        refine wpAnyH_ready (rs := [3, 4]) (by kernel_rfl) (by simp) ?_
        refine (AllReadyH.cons rfl (fun K hK => ?_) (AllReadyH.cons rfl (fun K hK => ?_) AllReadyH.nil))
        · rw [if_pos (by rfl)]
          refine wp_clone _ (.tmp 5) (.tmp 7) ?_ ?_ N g5 _ B.nv _ B.V ?_ ?_ (ints_v (HBF.out.go HBc.out).1) h40v ?_
          any_goals (exact rfl)
          intro v8 wn hrow hb
          have r8 : Hid (RowIn wn ws.heap.size wn.heap.size v8 B.nv B.V) := hrow.wider HBc.out.size (Nat.le_refl _)
          clear hrow
          (try replace e : Hid (wn.heap[gE]? = some (Obj.cells #[.slice none 0 0, .slice none 0 0, .slice none 0 0, .int .i64 0] 25)) := keep_blk hb e.out)
          replace HBc : Hid (Below ws.heap.size ws wn) := bel HBc.out hb
          clear hb
          have Sn := old_of HBc.out
          refine hK.out _ _ Sn (fun hHeld => ?_)
          clear hK K Sn
          (try simp only [List.getElem_toArray, List.getElem_cons_zero, List.getElem_cons_succ, Act.put, List.setIfInBounds_toArray, List.set_cons_zero, List.set_cons_succ])
          obtain ⟨wc, rfl⟩ : ∃ w' : World, w' = wn := ⟨_, rfl⟩
          refine wpAnyH_ready (rs := [4]) (by kernel_rfl) (by simp) ?_
          refine (AllReadyH.cons rfl (fun K hK => ?_) AllReadyH.nil)
          · go_simp
            obtain ⟨wn, hwn⟩ : ∃ wn : World, wc.alloc (.cells #[] 3) = wn := ⟨_, rfl⟩
            rw [hwn]
            have hb : Below wc.heap.size wc wn := (by rw [← hwn]; exact below_alloc (Nat.le_refl _) _)
            clear hwn
            obtain ⟨g9, hg⟩ : ∃ g, wc.heap.size = g := ⟨_, rfl⟩
            rw [hg]
            clear hg
            (try replace r8 : Hid (RowIn wn ws.heap.size wn.heap.size v8 B.nv B.V) := (r8.out.grow hb).wider (Nat.le_refl _) hb.size)
            (try replace r2 := Lib.hid ((r2.out.grow hb).wider hb.size))
            (try replace e : Hid (wn.heap[gE]? = some (Obj.cells #[.slice none 0 0, .slice none 0 0, .slice none 0 0, .int .i64 0] 25)) := keep_blk hb e.out)
            replace HBc : Hid (Below ws.heap.size ws wn) := bel HBc.out hb
            clear hb
            have Sn := old_of HBc.out
            refine hK.out _ _ Sn (fun hHeld => ?_)
            clear hK K Sn
            (try simp only [List.getElem_toArray, List.getElem_cons_zero, List.getElem_cons_succ, Act.put, List.setIfInBounds_toArray, List.set_cons_zero, List.set_cons_succ])
            obtain ⟨wc, rfl⟩ : ∃ w' : World, w' = wn := ⟨_, rfl⟩
            refine wpAnyH_ready (rs := [7]) (by kernel_rfl) (by simp) ?_
            refine (AllReadyH.cons rfl (fun K hK => ?_) AllReadyH.nil)
            · rw [if_pos (by rfl)]
              refine wp_clone _ (.tmp 9) (.tmp 11) ?_ ?_ N g9 _ B.nf _ B.F ?_ ?_ (ints_f (HBF.out.go HBc.out).1) h40f ?_
              any_goals (exact rfl)
              intro v12 wn hrow hb
              have r2 : Hid (Two wn ws.heap.size wn.heap.size v8 v12 B) := ⟨_, r8.out.grow hb, hrow⟩
              clear hrow r8
              (try replace e : Hid (wn.heap[gE]? = some (Obj.cells #[.slice none 0 0, .slice none 0 0, .slice none 0 0, .int .i64 0] 25)) := keep_blk hb e.out)
              replace HBc : Hid (Below ws.heap.size ws wn) := bel HBc.out hb
              clear hb
              have Sn := old_of HBc.out
              refine hK.out _ _ Sn (fun hHeld => ?_)
              clear hK K Sn
              (try simp only [List.getElem_toArray, List.getElem_cons_zero, List.getElem_cons_succ, Act.put, List.setIfInBounds_toArray, List.set_cons_zero, List.set_cons_succ])
              obtain ⟨wc, rfl⟩ : ∃ w' : World, w' = wn := ⟨_, rfl⟩
              obtain ⟨g8, p8, rfl⟩ := r2.out.form1
              obtain ⟨g12, p12, rfl⟩ := r2.out.form2
              (refine wpAnyH_take (i := 10) (v := ?_) rfl (by kernel_rfl) (by kernel_rfl) (by kernel_rfl) (fun _ _ _ h => h) (Or.inl ⟨by rfl, ?_⟩) (by assumption) ?_; rotate_left; (focus (intro w hSw; (try dsimp only at hSw); go_simp; (try with_reducible rfl))); (try simp only [List.getElem_toArray, List.getElem_cons_zero, List.getElem_cons_succ, Act.put, List.setIfInBounds_toArray, List.set_cons_zero, List.set_cons_succ]))
              refine wpAnyH_ready (rs := [12]) (by kernel_rfl) (by simp) ?_
              refine AllReadyH.cons rfl (fun K hK => ?_) AllReadyH.nil
              have z0 := cell_blk e.out 0 rfl
              have z1 := cell_blk e.out 1 rfl
              have z2 := cell_blk e.out 2 rfl
              have z3 := cell_blk e.out 3 rfl
              have y := frozen_blk e.out
              go_simp
              have F := store_four e.out (.slice (some ⟨g8, 0, none⟩) B.nv p8) (.slice (some ⟨g12, 0, none⟩) B.nf p12) (.slice none 0 0) (.int .i64 B.wr)
              obtain ⟨wn, hwn⟩ : ∃ wn : World, ((((wc.setCell ⟨gE, 0, none⟩ (.slice (some ⟨g8, 0, none⟩) B.nv p8)).setCell ⟨gE, 1, none⟩ (.slice (some ⟨g12, 0, none⟩) B.nf p12)).setCell ⟨gE, 2, none⟩ (.slice none 0 0)).setCell ⟨gE, 3, none⟩ (.int .i64 B.wr)) = wn := ⟨_, rfl⟩
              rw [hwn] at F ⊢
              obtain ⟨f1, f2, f3⟩ := F
              have HBn : Hid (Below ws.heap.size ws wn) := HBc.out.trans (f2 _ hge.out)
              have Sn := old_of HBn.out
              have r3 : Hid (Two wn ws.heap.size wn.heap.size (.slice (some ⟨g8, 0, none⟩) B.nv p8) (.slice (some ⟨g12, 0, none⟩) B.nf p12) B) := (r2.out.other (fun k cs hg => f3 k cs _ (by decide) hg)).wider (by rw [← hwn]; simp [World.setCell])
              clear hwn f2 f3 r2
              refine hK.out _ _ Sn (fun hHeld => ?_)
              clear hK K Sn
              refine wpAnyH_done (by kernel_rfl) ?_ _
              clear hHeld
              go_wp2_with fail
              go_meet
              exact ⟨gE, _, _, rfl, hge.out, HBn.out, r3.out, f1⟩
        · go_simp
          obtain ⟨wn, hwn⟩ : ∃ wn : World, wc.alloc (.cells #[] 3) = wn := ⟨_, rfl⟩
          rw [hwn]
          have hb : Below wc.heap.size wc wn := (by rw [← hwn]; exact below_alloc (Nat.le_refl _) _)
          clear hwn
          obtain ⟨g9, hg⟩ : ∃ g, wc.heap.size = g := ⟨_, rfl⟩
          rw [hg]
          clear hg
          (try replace r8 : Hid (RowIn wn ws.heap.size wn.heap.size v8 B.nv B.V) := (r8.out.grow hb).wider (Nat.le_refl _) hb.size)
          (try replace r2 := Lib.hid ((r2.out.grow hb).wider hb.size))
          (try replace e : Hid (wn.heap[gE]? = some (Obj.cells #[.slice none 0 0, .slice none 0 0, .slice none 0 0, .int .i64 0] 25)) := keep_blk hb e.out)
          replace HBc : Hid (Below ws.heap.size ws wn) := bel HBc.out hb
          clear hb
          have Sn := old_of HBc.out
          refine hK.out _ _ Sn (fun hHeld => ?_)
          clear hK K Sn
          (try simp only [List.getElem_toArray, List.getElem_cons_zero, List.getElem_cons_succ, Act.put, List.setIfInBounds_toArray, List.set_cons_zero, List.set_cons_succ])
          obtain ⟨wc, rfl⟩ : ∃ w' : World, w' = wn := ⟨_, rfl⟩
          refine wpAnyH_ready (rs := [3]) (by kernel_rfl) (by simp) ?_
          refine (AllReadyH.cons rfl (fun K hK => ?_) AllReadyH.nil)
          · rw [if_pos (by rfl)]
            refine wp_clone _ (.tmp 5) (.tmp 7) ?_ ?_ N g5 _ B.nv _ B.V ?_ ?_ (ints_v (HBF.out.go HBc.out).1) h40v ?_
            any_goals (exact rfl)
            intro v8 wn hrow hb
            have r8 : Hid (RowIn wn ws.heap.size wn.heap.size v8 B.nv B.V) := hrow.wider HBc.out.size (Nat.le_refl _)
            clear hrow
            (try replace e : Hid (wn.heap[gE]? = some (Obj.cells #[.slice none 0 0, .slice none 0 0, .slice none 0 0, .int .i64 0] 25)) := keep_blk hb e.out)
            replace HBc : Hid (Below ws.heap.size ws wn) := bel HBc.out hb
            clear hb
            have Sn := old_of HBc.out
            refine hK.out _ _ Sn (fun hHeld => ?_)
            clear hK K Sn
            (try simp only [List.getElem_toArray, List.getElem_cons_zero, List.getElem_cons_succ, Act.put, List.setIfInBounds_toArray, List.set_cons_zero, List.set_cons_succ])
            obtain ⟨wc, rfl⟩ : ∃ w' : World, w' = wn := ⟨_, rfl⟩
            refine wpAnyH_ready (rs := [7]) (by kernel_rfl) (by simp) ?_
            refine (AllReadyH.cons rfl (fun K hK => ?_) AllReadyH.nil)
            · rw [if_pos (by rfl)]
              refine wp_clone _ (.tmp 9) (.tmp 11) ?_ ?_ N g9 _ B.nf _ B.F ?_ ?_ (ints_f (HBF.out.go HBc.out).1) h40f ?_
              any_goals (exact rfl)
              intro v12 wn hrow hb
              have r2 : Hid (Two wn ws.heap.size wn.heap.size v8 v12 B) := ⟨_, r8.out.grow hb, hrow⟩
              clear hrow r8
              (try replace e : Hid (wn.heap[gE]? = some (Obj.cells #[.slice none 0 0, .slice none 0 0, .slice none 0 0, .int .i64 0] 25)) := keep_blk hb e.out)
              replace HBc : Hid (Below ws.heap.size ws wn) := bel HBc.out hb
              clear hb
              have Sn := old_of HBc.out
              refine hK.out _ _ Sn (fun hHeld => ?_)
              clear hK K Sn
              (try simp only [List.getElem_toArray, List.getElem_cons_zero, List.getElem_cons_succ, Act.put, List.setIfInBounds_toArray, List.set_cons_zero, List.set_cons_succ])
              obtain ⟨wc, rfl⟩ : ∃ w' : World, w' = wn := ⟨_, rfl⟩
              obtain ⟨g8, p8, rfl⟩ := r2.out.form1
              obtain ⟨g12, p12, rfl⟩ := r2.out.form2
              (refine wpAnyH_take (i := 10) (v := ?_) rfl (by kernel_rfl) (by kernel_rfl) (by kernel_rfl) (fun _ _ _ h => h) (Or.inl ⟨by rfl, ?_⟩) (by assumption) ?_; rotate_left; (focus (intro w hSw; (try dsimp only at hSw); go_simp; (try with_reducible rfl))); (try simp only [List.getElem_toArray, List.getElem_cons_zero, List.getElem_cons_succ, Act.put, List.setIfInBounds_toArray, List.set_cons_zero, List.set_cons_succ]))
              refine wpAnyH_ready (rs := [12]) (by kernel_rfl) (by simp) ?_
              refine AllReadyH.cons rfl (fun K hK => ?_) AllReadyH.nil
              have z0 := cell_blk e.out 0 rfl
              have z1 := cell_blk e.out 1 rfl
              have z2 := cell_blk e.out 2 rfl
              have z3 := cell_blk e.out 3 rfl
              have y := frozen_blk e.out
              go_simp
              have F := store_four e.out (.slice (some ⟨g8, 0, none⟩) B.nv p8) (.slice (some ⟨g12, 0, none⟩) B.nf p12) (.slice none 0 0) (.int .i64 B.wr)
              obtain ⟨wn, hwn⟩ : ∃ wn : World, ((((wc.setCell ⟨gE, 0, none⟩ (.slice (some ⟨g8, 0, none⟩) B.nv p8)).setCell ⟨gE, 1, none⟩ (.slice (some ⟨g12, 0, none⟩) B.nf p12)).setCell ⟨gE, 2, none⟩ (.slice none 0 0)).setCell ⟨gE, 3, none⟩ (.int .i64 B.wr)) = wn := ⟨_, rfl⟩
              rw [hwn] at F ⊢
              obtain ⟨f1, f2, f3⟩ := F
              have HBn : Hid (Below ws.heap.size ws wn) := HBc.out.trans (f2 _ hge.out)
              have Sn := old_of HBn.out
              have r3 : Hid (Two wn ws.heap.size wn.heap.size (.slice (some ⟨g8, 0, none⟩) B.nv p8) (.slice (some ⟨g12, 0, none⟩) B.nf p12) B) := (r2.out.other (fun k cs hg => f3 k cs _ (by decide) hg)).wider (by rw [← hwn]; simp [World.setCell])
              clear hwn f2 f3 r2
              refine hK.out _ _ Sn (fun hHeld => ?_)
              clear hK K Sn
              refine wpAnyH_done (by kernel_rfl) ?_ _
              clear hHeld
              go_wp2_with fail
              go_meet
              exact ⟨gE, _, _, rfl, hge.out, HBn.out, r3.out, f1⟩
    · go_simp
      obtain ⟨wn, hwn⟩ : ∃ wn : World, wc.alloc (.cells #[] 3) = wn := ⟨_, rfl⟩
      rw [hwn]
      have hb : Below wc.heap.size wc wn := (by rw [← hwn]; exact below_alloc (Nat.le_refl _) _)
      clear hwn
      obtain ⟨g9, hg⟩ : ∃ g, wc.heap.size = g := ⟨_, rfl⟩
      rw [hg]
      clear hg
      (try replace r8 : Hid (RowIn wn ws.heap.size wn.heap.size v8 B.nv B.V) := (r8.out.grow hb).wider (Nat.le_refl _) hb.size)
      (try replace r2 := Lib.hid ((r2.out.grow hb).wider hb.size))
      (try replace e : Hid (wn.heap[gE]? = some (Obj.cells #[.slice none 0 0, .slice none 0 0, .slice none 0 0, .int .i64 0] 25)) := keep_blk hb e.out)
      replace HBc : Hid (Below ws.heap.size ws wn) := bel HBc.out hb
      clear hb
      have Sn := old_of HBc.out
      refine hK.out _ _ Sn (fun hHeld => ?_)
      clear hK K Sn
      (try simp only [List.getElem_toArray, List.getElem_cons_zero, List.getElem_cons_succ, Act.put, List.setIfInBounds_toArray, List.set_cons_zero, List.set_cons_succ])
      obtain ⟨wc, rfl⟩ : ∃ w' : World, w' = wn := ⟨_, rfl⟩
      refine wpAnyH_ready (rs := [0, 11]) (by kernel_rfl) (by simp) ?_
      refine (AllReadyH.cons rfl (fun K hK => ?_) (AllReadyH.cons rfl (fun K hK => ?_) AllReadyH.nil))
      · go_simp
        obtain ⟨wn, hwn⟩ : ∃ wn : World, wc.alloc (.cells #[] 3) = wn := ⟨_, rfl⟩
        rw [hwn]
        have hb : Below wc.heap.size wc wn := (by rw [← hwn]; exact below_alloc (Nat.le_refl _) _)
        clear hwn
        obtain ⟨g5, hg⟩ : ∃ g, wc.heap.size = g := ⟨_, rfl⟩
        rw [hg]
        clear hg
        (try replace r8 : Hid (RowIn wn ws.heap.size wn.heap.size v8 B.nv B.V) := (r8.out.grow hb).wider (Nat.le_refl _) hb.size)
        (try replace r2 := Lib.hid ((r2.out.grow hb).wider hb.size))
        (try replace e : Hid (wn.heap[gE]? = some (Obj.cells #[.slice none 0 0, .slice none 0 0, .slice none 0 0, .int .i64 0] 25)) := keep_blk hb e.out)
        replace HBc : Hid (Below ws.heap.size ws wn) := bel HBc.out hb
        clear hb
        have Sn := old_of HBc.out
        refine hK.out _ _ Sn (fun hHeld => ?_)
        clear hK K Sn
        (try simp only [List.getElem_toArray, List.getElem_cons_zero, List.getElem_cons_succ, Act.put, List.setIfInBounds_toArray, List.set_cons_zero, List.set_cons_succ])
        obtain ⟨wc, rfl⟩ : ∃ w' : World, w' = wn := ⟨_, rfl⟩
        refine wpAnyH_ready (rs := [3, 11]) (by kernel_rfl) (by simp) ?_
        refine (AllReadyH.cons rfl (fun K hK => ?_) (AllReadyH.cons rfl (fun K hK => ?_) AllReadyH.nil))
        · rw [if_pos (by rfl)]
          refine wp_clone _ (.tmp 5) (.tmp 7) ?_ ?_ N g5 _ B.nv _ B.V ?_ ?_ (ints_v (HBF.out.go HBc.out).1) h40v ?_
          any_goals (exact rfl)
          intro v8 wn hrow hb
          have r8 : Hid (RowIn wn ws.heap.size wn.heap.size v8 B.nv B.V) := hrow.wider HBc.out.size (Nat.le_refl _)
          clear hrow
          (try replace e : Hid (wn.heap[gE]? = some (Obj.cells #[.slice none 0 0, .slice none 0 0, .slice none 0 0, .int .i64 0] 25)) := keep_blk hb e.out)
          replace HBc : Hid (Below ws.heap.size ws wn) := bel HBc.out hb
          clear hb
          have Sn := old_of HBc.out
          refine hK.out _ _ Sn (fun hHeld => ?_)
          clear hK K Sn
          (try simp only [List.getElem_toArray, List.getElem_cons_zero, List.getElem_cons_succ, Act.put, List.setIfInBounds_toArray, List.set_cons_zero, List.set_cons_succ])
          obtain ⟨wc, rfl⟩ : ∃ w' : World, w' = wn := ⟨_, rfl⟩
          refine wpAnyH_ready (rs := [7, 11]) (by kernel_rfl) (by simp) ?_
          refine (AllReadyH.cons rfl (fun K hK => ?_) (AllReadyH.cons rfl (fun K hK => ?_) AllReadyH.nil))
          · rw [if_pos (by rfl)]
            refine wp_clone _ (.tmp 9) (.tmp 11) ?_ ?_ N g9 _ B.nf _ B.F ?_ ?_ (ints_f (HBF.out.go HBc.out).1) h40f ?_
            any_goals (exact rfl)
            intro v12 wn hrow hb
            have r2 : Hid (Two wn ws.heap.size wn.heap.size v8 v12 B) := ⟨_, r8.out.grow hb, hrow⟩
            clear hrow r8
            (try replace e : Hid (wn.heap[gE]? = some (Obj.cells #[.slice none 0 0, .slice none 0 0, .slice none 0 0, .int .i64 0] 25)) := keep_blk hb e.out)
            replace HBc : Hid (Below ws.heap.size ws wn) := bel HBc.out hb
            clear hb
            have Sn := old_of HBc.out
            refine hK.out _ _ Sn (fun hHeld => ?_)
            clear hK K Sn
            (try simp only [List.getElem_toArray, List.getElem_cons_zero, List.getElem_cons_succ, Act.put, List.setIfInBounds_toArray, List.set_cons_zero, List.set_cons_succ])
            obtain ⟨wc, rfl⟩ : ∃ w' : World, w' = wn := ⟨_, rfl⟩
            obtain ⟨g8, p8, rfl⟩ := r2.out.form1
            obtain ⟨g12, p12, rfl⟩ := r2.out.form2
            (refine wpAnyH_take (i := 10) (v := ?_) rfl (by kernel_rfl) (by kernel_rfl) (by kernel_rfl) (fun _ _ _ h => h) (Or.inl ⟨by rfl, ?_⟩) (by assumption) ?_; rotate_left; (focus (intro w hSw; (try dsimp only at hSw); go_simp; (try with_reducible rfl))); (try simp only [List.getElem_toArray, List.getElem_cons_zero, List.getElem_cons_succ, Act.put, List.setIfInBounds_toArray, List.set_cons_zero, List.set_cons_succ]))
            refine wpAnyH_ready (rs := [11]) (by kernel_rfl) (by simp) ?_
            refine (AllReadyH.cons rfl (fun K hK => ?_) AllReadyH.nil)
            · go_simp
              obtain ⟨wn, hwn⟩ : ∃ wn : World, wc.alloc (Obj.cells #[.slice none 0 0, .slice none 0 0, .slice none 0 0, .int .i64 0] 25) = wn := ⟨_, rfl⟩
              rw [hwn]
              have hb : Below wc.heap.size wc wn := (by rw [← hwn]; exact below_alloc (Nat.le_refl _) _)
              have e : Hid (wn.heap[wc.heap.size]? = some (Obj.cells #[.slice none 0 0, .slice none 0 0, .slice none 0 0, .int .i64 0] 25)) := (by rw [← hwn]; exact World.alloc_heap_new _ _)
              have hge : Hid (ws.heap.size ≤ wc.heap.size) := HBc.out.size
              obtain ⟨gE, hgE⟩ : ∃ g, wc.heap.size = g := ⟨_, rfl⟩
              rw [hgE] at e hge ⊢
              clear hwn hgE
              (try replace r8 : Hid (RowIn wn ws.heap.size wn.heap.size v8 B.nv B.V) := (r8.out.grow hb).wider (Nat.le_refl _) hb.size)
              (try replace r2 := Lib.hid ((r2.out.grow hb).wider hb.size))
              replace HBc : Hid (Below ws.heap.size ws wn) := bel HBc.out hb
              clear hb
              have Sn := old_of HBc.out
              refine hK.out _ _ Sn (fun hHeld => ?_)
              clear hK K Sn
              (try simp only [List.getElem_toArray, List.getElem_cons_zero, List.getElem_cons_succ, Act.put, List.setIfInBounds_toArray, List.set_cons_zero, List.set_cons_succ])
              obtain ⟨wc, rfl⟩ : ∃ w' : World, w' = wn := ⟨_, rfl⟩
              refine wpAnyH_ready (rs := [12]) (by kernel_rfl) (by simp) ?_
              refine AllReadyH.cons rfl (fun K hK => ?_) AllReadyH.nil
              have z0 := cell_blk e.out 0 rfl
              have z1 := cell_blk e.out 1 rfl
              have z2 := cell_blk e.out 2 rfl
              have z3 := cell_blk e.out 3 rfl
              have y := frozen_blk e.out
              go_simp
              have F := store_four e.out (.slice (some ⟨g8, 0, none⟩) B.nv p8) (.slice (some ⟨g12, 0, none⟩) B.nf p12) (.slice none 0 0) (.int .i64 B.wr)
              obtain ⟨wn, hwn⟩ : ∃ wn : World, ((((wc.setCell ⟨gE, 0, none⟩ (.slice (some ⟨g8, 0, none⟩) B.nv p8)).setCell ⟨gE, 1, none⟩ (.slice (some ⟨g12, 0, none⟩) B.nf p12)).setCell ⟨gE, 2, none⟩ (.slice none 0 0)).setCell ⟨gE, 3, none⟩ (.int .i64 B.wr)) = wn := ⟨_, rfl⟩
              rw [hwn] at F ⊢
              obtain ⟨f1, f2, f3⟩ := F
              have HBn : Hid (Below ws.heap.size ws wn) := HBc.out.trans (f2 _ hge.out)
              have Sn := old_of HBn.out
              have r3 : Hid (Two wn ws.heap.size wn.heap.size (.slice (some ⟨g8, 0, none⟩) B.nv p8) (.slice (some ⟨g12, 0, none⟩) B.nf p12) B) := (r2.out.other (fun k cs hg => f3 k cs _ (by decide) hg)).wider (by rw [← hwn]; simp [World.setCell])
              clear hwn f2 f3 r2
              refine hK.out _ _ Sn (fun hHeld => ?_)
              clear hK K Sn
              refine wpAnyH_done (by kernel_rfl) ?_ _
              clear hHeld
              go_wp2_with fail
              go_meet
              exact ⟨gE, _, _, rfl, hge.out, HBn.out, r3.out, f1⟩
          · go_simp
            obtain ⟨wn, hwn⟩ : ∃ wn : World, wc.alloc (Obj.cells #[.slice none 0 0, .slice none 0 0, .slice none 0 0, .int .i64 0] 25) = wn := ⟨_, rfl⟩
            rw [hwn]
            have hb : Below wc.heap.size wc wn := (by rw [← hwn]; exact below_alloc (Nat.le_refl _) _)
            have e : Hid (wn.heap[wc.heap.size]? = some (Obj.cells #[.slice none 0 0, .slice none 0 0, .slice none 0 0, .int .i64 0] 25)) := (by rw [← hwn]; exact World.alloc_heap_new _ _)
            have hge : Hid (ws.heap.size ≤ wc.heap.size) := HBc.out.size
            obtain ⟨gE, hgE⟩ : ∃ g, wc.heap.size = g := ⟨_, rfl⟩
            rw [hgE] at e hge ⊢
            clear hwn hgE
            (try replace r8 : Hid (RowIn wn ws.heap.size wn.heap.size v8 B.nv B.V) := (r8.out.grow hb).wider (Nat.le_refl _) hb.size)
            (try replace r2 := Lib.hid ((r2.out.grow hb).wider hb.size))
            replace HBc : Hid (Below ws.heap.size ws wn) := bel HBc.out hb
            clear hb
            have Sn := old_of HBc.out
            refine hK.out _ _ Sn (fun hHeld => ?_)
            clear hK K Sn
            (try simp only [List.getElem_toArray, List.getElem_cons_zero, List.getElem_cons_succ, Act.put, List.setIfInBounds_toArray, List.set_cons_zero, List.set_cons_succ])
            obtain ⟨wc, rfl⟩ : ∃ w' : World, w' = wn := ⟨_, rfl⟩
            refine wpAnyH_ready (rs := [7]) (by kernel_rfl) (by simp) ?_
            refine (AllReadyH.cons rfl (fun K hK => ?_) AllReadyH.nil)
            · rw [if_pos (by rfl)]
              refine wp_clone _ (.tmp 9) (.tmp 11) ?_ ?_ N g9 _ B.nf _ B.F ?_ ?_ (ints_f (HBF.out.go HBc.out).1) h40f ?_
              any_goals (exact rfl)
              intro v12 wn hrow hb
              have r2 : Hid (Two wn ws.heap.size wn.heap.size v8 v12 B) := ⟨_, r8.out.grow hb, hrow⟩
              clear hrow r8
              (try replace e : Hid (wn.heap[gE]? = some (Obj.cells #[.slice none 0 0, .slice none 0 0, .slice none 0 0, .int .i64 0] 25)) := keep_blk hb e.out)
              replace HBc : Hid (Below ws.heap.size ws wn) := bel HBc.out hb
              clear hb
              have Sn := old_of HBc.out
              refine hK.out _ _ Sn (fun hHeld => ?_)
              clear hK K Sn
              (try simp only [List.getElem_toArray, List.getElem_cons_zero, List.getElem_cons_succ, Act.put, List.setIfInBounds_toArray, List.set_cons_zero, List.set_cons_succ])
              obtain ⟨wc, rfl⟩ : ∃ w' : World, w' = wn := ⟨_, rfl⟩
              obtain ⟨g8, p8, rfl⟩ := r2.out.form1
              obtain ⟨g12, p12, rfl⟩ := r2.out.form2
              (refine wpAnyH_take (i := 10) (v := ?_) rfl (by kernel_rfl) (by kernel_rfl) (by kernel_rfl) (fun _ _ _ h => h) (Or.inl ⟨by rfl, ?_⟩) (by assumption) ?_; rotate_left; (focus (intro w hSw; (try dsimp only at hSw); go_simp; (try with_reducible rfl))); (try simp only [List.getElem_toArray, List.getElem_cons_zero, List.getElem_cons_succ, Act.put, List.setIfInBounds_toArray, List.set_cons_zero, List.set_cons_succ]))
              refine wpAnyH_ready (rs := [12]) (by kernel_rfl) (by simp) ?_
              refine AllReadyH.cons rfl (fun K hK => ?_) AllReadyH.nil
              have z0 := cell_blk e.out 0 rfl
              have z1 := cell_blk e.out 1 rfl
              have z2 := cell_blk e.out 2 rfl
              have z3 := cell_blk e.out 3 rfl
              have y := frozen_blk e.out
              go_simp
              have F := store_four e.out (.slice (some ⟨g8, 0, none⟩) B.nv p8) (.slice (some ⟨g12, 0, none⟩) B.nf p12) (.slice none 0 0) (.int .i64 B.wr)
              obtain ⟨wn, hwn⟩ : ∃ wn : World, ((((wc.setCell ⟨gE, 0, none⟩ (.slice (some ⟨g8, 0, none⟩) B.nv p8)).setCell ⟨gE, 1, none⟩ (.slice (some ⟨g12, 0, none⟩) B.nf p12)).setCell ⟨gE, 2, none⟩ (.slice none 0 0)).setCell ⟨gE, 3, none⟩ (.int .i64 B.wr)) = wn := ⟨_, rfl⟩
              rw [hwn] at F ⊢
              obtain ⟨f1, f2, f3⟩ := F
              have HBn : Hid (Below ws.heap.size ws wn) := HBc.out.trans (f2 _ hge.out)
              have Sn := old_of HBn.out
              have r3 : Hid (Two wn ws.heap.size wn.heap.size (.slice (some ⟨g8, 0, none⟩) B.nv p8) (.slice (some ⟨g12, 0, none⟩) B.nf p12) B) := (r2.out.other (fun k cs hg => f3 k cs _ (by decide) hg)).wider (by rw [← hwn]; simp [World.setCell])
              clear hwn f2 f3 r2
              refine hK.out _ _ Sn (fun hHeld => ?_)
              clear hK K Sn
              refine wpAnyH_done (by kernel_rfl) ?_ _
              clear hHeld
              go_wp2_with fail
              go_meet
              exact ⟨gE, _, _, rfl, hge.out, HBn.out, r3.out, f1⟩
        · go_simp
          obtain ⟨wn, hwn⟩ : ∃ wn : World, wc.alloc (Obj.cells #[.slice none 0 0, .slice none 0 0, .slice none 0 0, .int .i64 0] 25) = wn := ⟨_, rfl⟩
          rw [hwn]
          have hb : Below wc.heap.size wc wn := (by rw [← hwn]; exact below_alloc (Nat.le_refl _) _)
          have e : Hid (wn.heap[wc.heap.size]? = some (Obj.cells #[.slice none 0 0, .slice none 0 0, .slice none 0 0, .int .i64 0] 25)) := (by rw [← hwn]; exact World.alloc_heap_new _ _)
          have hge : Hid (ws.heap.size ≤ wc.heap.size) := HBc.out.size
          obtain ⟨gE, hgE⟩ : ∃ g, wc.heap.size = g := ⟨_, rfl⟩
          rw [hgE] at e hge ⊢
          clear hwn hgE
          (try replace r8 : Hid (RowIn wn ws.heap.size wn.heap.size v8 B.nv B.V) := (r8.out.grow hb).wider (Nat.le_refl _) hb.size)
          (try replace r2 := Lib.hid ((r2.out.grow hb).wider hb.size))
          replace HBc : Hid (Below ws.heap.size ws wn) := bel HBc.out hb
          clear hb
          have Sn := old_of HBc.out
          refine hK.out _ _ Sn (fun hHeld => ?_)
          clear hK K Sn
          (try simp only [List.getElem_toArray, List.getElem_cons_zero, List.getElem_cons_succ, Act.put, List.setIfInBounds_toArray, List.set_cons_zero, List.set_cons_succ])
          obtain ⟨wc, rfl⟩ : ∃ w' : World, w' = wn := ⟨_, rfl⟩
          refine wpAnyH_ready (rs := [3]) (by kernel_rfl) (by simp) ?_
          refine (AllReadyH.cons rfl (fun K hK => ?_) AllReadyH.nil)
          · rw [if_pos (by rfl)]
            refine wp_clone _ (.tmp 5) (.tmp 7) ?_ ?_ N g5 _ B.nv _ B.V ?_ ?_ (ints_v (HBF.out.go HBc.out).1) h40v ?_
            any_goals (exact rfl)
            intro v8 wn hrow hb
            have r8 : Hid (RowIn wn ws.heap.size wn.heap.size v8 B.nv B.V) := hrow.wider HBc.out.size (Nat.le_refl _)
            clear hrow
            (try replace e : Hid (wn.heap[gE]? = some (Obj.cells #[.slice none 0 0, .slice none 0 0, .slice none 0 0, .int .i64 0] 25)) := keep_blk hb e.out)
            replace HBc : Hid (Below ws.heap.size ws wn) := bel HBc.out hb
            clear hb
            have Sn := old_of HBc.out
            refine hK.out _ _ Sn (fun hHeld => ?_)
            clear hK K Sn
            (try simp only [List.getElem_toArray, List.getElem_cons_zero, List.getElem_cons_succ, Act.put, List.setIfInBounds_toArray, List.set_cons_zero, List.set_cons_succ])
            obtain ⟨wc, rfl⟩ : ∃ w' : World, w' = wn := ⟨_, rfl⟩
            refine wpAnyH_ready (rs := [7]) (by kernel_rfl) (by simp) ?_
            refine (AllReadyH.cons rfl (fun K hK => ?_) AllReadyH.nil)
            · rw [if_pos (by rfl)]
              refine wp_clone _ (.tmp 9) (.tmp 11) ?_ ?_ N g9 _ B.nf _ B.F ?_ ?_ (ints_f (HBF.out.go HBc.out).1) h40f ?_
              any_goals (exact rfl)
              intro v12 wn hrow hb
              have r2 : Hid (Two wn ws.heap.size wn.heap.size v8 v12 B) := ⟨_, r8.out.grow hb, hrow⟩
              clear hrow r8
              (try replace e : Hid (wn.heap[gE]? = some (Obj.cells #[.slice none 0 0, .slice none 0 0, .slice none 0 0, .int .i64 0] 25)) := keep_blk hb e.out)
              replace HBc : Hid (Below ws.heap.size ws wn) := bel HBc.out hb
              clear hb
              have Sn := old_of HBc.out
              refine hK.out _ _ Sn (fun hHeld => ?_)
              clear hK K Sn
              (try simp only [List.getElem_toArray, List.getElem_cons_zero, List.getElem_cons_succ, Act.put, List.setIfInBounds_toArray, List.set_cons_zero, List.set_cons_succ])
              obtain ⟨wc, rfl⟩ : ∃ w' : World, w' = wn := ⟨_, rfl⟩
              obtain ⟨g8, p8, rfl⟩ := r2.out.form1
              obtain ⟨g12, p12, rfl⟩ := r2.out.form2
              (refine wpAnyH_take (i := 10) (v := ?_) rfl (by kernel_rfl) (by kernel_rfl) (by kernel_rfl) (fun _ _ _ h => h) (Or.inl ⟨by rfl, ?_⟩) (by assumption) ?_; rotate_left; (focus (intro w hSw; (try dsimp only at hSw); go_simp; (try with_reducible rfl))); (try simp only [List.getElem_toArray, List.getElem_cons_zero, List.getElem_cons_succ, Act.put, List.setIfInBounds_toArray, List.set_cons_zero, List.set_cons_succ]))
              refine wpAnyH_ready (rs := [12]) (by kernel_rfl) (by simp) ?_
              refine AllReadyH.cons rfl (fun K hK => ?_) AllReadyH.nil
              have z0 := cell_blk e.out 0 rfl
              have z1 := cell_blk e.out 1 rfl
              have z2 := cell_blk e.out 2 rfl
              have z3 := cell_blk e.out 3 rfl
              have y := frozen_blk e.out
              go_simp
              have F := store_four e.out (.slice (some ⟨g8, 0, none⟩) B.nv p8) (.slice (some ⟨g12, 0, none⟩) B.nf p12) (.slice none 0 0) (.int .i64 B.wr)
              obtain ⟨wn, hwn⟩ : ∃ wn : World, ((((wc.setCell ⟨gE, 0, none⟩ (.slice (some ⟨g8, 0, none⟩) B.nv p8)).setCell ⟨gE, 1, none⟩ (.slice (some ⟨g12, 0, none⟩) B.nf p12)).setCell ⟨gE, 2, none⟩ (.slice none 0 0)).setCell ⟨gE, 3, none⟩ (.int .i64 B.wr)) = wn := ⟨_, rfl⟩
              rw [hwn] at F ⊢
              obtain ⟨f1, f2, f3⟩ := F
              have HBn : Hid (Below ws.heap.size ws wn) := HBc.out.trans (f2 _ hge.out)
              have Sn := old_of HBn.out
              have r3 : Hid (Two wn ws.heap.size wn.heap.size (.slice (some ⟨g8, 0, none⟩) B.nv p8) (.slice (some ⟨g12, 0, none⟩) B.nf p12) B) := (r2.out.other (fun k cs hg => f3 k cs _ (by decide) hg)).wider (by rw [← hwn]; simp [World.setCell])
              clear hwn f2 f3 r2
              refine hK.out _ _ Sn (fun hHeld => ?_)
              clear hK K Sn
              refine wpAnyH_done (by kernel_rfl) ?_ _
              clear hHeld
              go_wp2_with fail
              go_meet
              exact ⟨gE, _, _, rfl, hge.out, HBn.out, r3.out, f1⟩
      · go_simp
        obtain ⟨wn, hwn⟩ : ∃ wn : World, wc.alloc (Obj.cells #[.slice none 0 0, .slice none 0 0, .slice none 0 0, .int .i64 0] 25) = wn := ⟨_, rfl⟩
        rw [hwn]
        have hb : Below wc.heap.size wc wn := (by rw [← hwn]; exact below_alloc (Nat.le_refl _) _)
        have e : Hid (wn.heap[wc.heap.size]? = some (Obj.cells #[.slice none 0 0, .slice none 0 0, .slice none 0 0, .int .i64 0] 25)) := (by rw [← hwn]; exact World.alloc_heap_new _ _)
        have hge : Hid (ws.heap.size ≤ wc.heap.size) := HBc.out.size
        obtain ⟨gE, hgE⟩ : ∃ g, wc.heap.size = g := ⟨_, rfl⟩
        rw [hgE] at e hge ⊢
        clear hwn hgE
        (try replace r8 : Hid (RowIn wn ws.heap.size wn.heap.size v8 B.nv B.V) := (r8.out.grow hb).wider (Nat.le_refl _) hb.size)
        (try replace r2 := Lib.hid ((r2.out.grow hb).wider hb.size))
        replace HBc : Hid (Below ws.heap.size ws wn) := bel HBc.out hb
        clear hb
        have Sn := old_of HBc.out
        refine hK.out _ _ Sn (fun hHeld => ?_)
        clear hK K Sn
        (try simp only [List.getElem_toArray, List.getElem_cons_zero, List.getElem_cons_succ, Act.put, List.setIfInBounds_toArray, List.set_cons_zero, List.set_cons_succ])
        obtain ⟨wc, rfl⟩ : ∃ w' : World, w' = wn := ⟨_, rfl⟩
        refine wpAnyH_ready (rs := [0]) (by kernel_rfl) (by simp) ?_
        refine (AllReadyH.cons rfl (fun K hK => ?_) AllReadyH.nil)
        · go_simp
          obtain ⟨wn, hwn⟩ : ∃ wn : World, wc.alloc (.cells #[] 3) = wn := ⟨_, rfl⟩
          rw [hwn]
          have hb : Below wc.heap.size wc wn := (by rw [← hwn]; exact below_alloc (Nat.le_refl _) _)
          clear hwn
          obtain ⟨g5, hg⟩ : ∃ g, wc.heap.size = g := ⟨_, rfl⟩
          rw [hg]
          clear hg
          (try replace r8 : Hid (RowIn wn ws.heap.size wn.heap.size v8 B.nv B.V) := (r8.out.grow hb).wider (Nat.le_refl _) hb.size)
          (try replace r2 := Lib.hid ((r2.out.grow hb).wider hb.size))
          (try replace e : Hid (wn.heap[gE]? = some (Obj.cells #[.slice none 0 0, .slice none 0 0, .slice none 0 0, .int .i64 0] 25)) := keep_blk hb e.out)
          replace HBc : Hid (Below ws.heap.size ws wn) := bel HBc.out hb
          clear hb
          have Sn := old_of HBc.out
          refine hK.out _ _ Sn (fun hHeld => ?_)
          clear hK K Sn
          (try simp only [List.getElem_toArray, List.getElem_cons_zero, List.getElem_cons_succ, Act.put, List.setIfInBounds_toArray, List.set_cons_zero, List.set_cons_succ])
          obtain ⟨wc, rfl⟩ : ∃ w' : World, w' = wn := ⟨_, rfl⟩
          refine wpAnyH_ready (rs := [3]) (by kernel_rfl) (by simp) ?_
          refine (AllReadyH.cons rfl (fun K hK => ?_) AllReadyH.nil)
          · rw [if_pos (by rfl)]
            refine wp_clone _ (.tmp 5) (.tmp 7) ?_ ?_ N g5 _ B.nv _ B.V ?_ ?_ (ints_v (HBF.out.go HBc.out).1) h40v ?_
            any_goals (exact rfl)
            intro v8 wn hrow hb
            have r8 : Hid (RowIn wn ws.heap.size wn.heap.size v8 B.nv B.V) := hrow.wider HBc.out.size (Nat.le_refl _)
            clear hrow
            (try replace e : Hid (wn.heap[gE]? = some (Obj.cells #[.slice none 0 0, .slice none 0 0, .slice none 0 0, .int .i64 0] 25)) := keep_blk hb e.out)
            replace HBc : Hid (Below ws.heap.size ws wn) := bel HBc.out hb
            clear hb
            have Sn := old_of HBc.out
            refine hK.out _ _ Sn (fun hHeld => ?_)
            clear hK K Sn
            (try simp only [List.getElem_toArray, List.getElem_cons_zero, List.getElem_cons_succ, Act.put, List.setIfInBounds_toArray, List.set_cons_zero, List.set_cons_succ])
            obtain ⟨wc, rfl⟩ : ∃ w' : World, w' = wn := ⟨_, rfl⟩
            refine wpAnyH_ready (rs := [7]) (by kernel_rfl) (by simp) ?_
            refine (AllReadyH.cons rfl (fun K hK => ?_) AllReadyH.nil)
            · rw [if_pos (by rfl)]
              refine wp_clone _ (.tmp 9) (.tmp 11) ?_ ?_ N g9 _ B.nf _ B.F ?_ ?_ (ints_f (HBF.out.go HBc.out).1) h40f ?_
              any_goals (exact rfl)
              intro v12 wn hrow hb
              have r2 : Hid (Two wn ws.heap.size wn.heap.size v8 v12 B) := ⟨_, r8.out.grow hb, hrow⟩
              clear hrow r8
              (try replace e : Hid (wn.heap[gE]? = some (Obj.cells #[.slice none 0 0, .slice none 0 0, .slice none 0 0, .int .i64 0] 25)) := keep_blk hb e.out)
              replace HBc : Hid (Below ws.heap.size ws wn) := bel HBc.out hb
              clear hb
              have Sn := old_of HBc.out
              refine hK.out _ _ Sn (fun hHeld => ?_)
              clear hK K Sn
              (try simp only [List.getElem_toArray, List.getElem_cons_zero, List.getElem_cons_succ, Act.put, List.setIfInBounds_toArray, List.set_cons_zero, List.set_cons_succ])
              obtain ⟨wc, rfl⟩ : ∃ w' : World, w' = wn := ⟨_, rfl⟩
              obtain ⟨g8, p8, rfl⟩ := r2.out.form1
              obtain ⟨g12, p12, rfl⟩ := r2.out.form2
              (refine wpAnyH_take (i := 10) (v := ?_) rfl (by kernel_rfl) (by kernel_rfl) (by kernel_rfl) (fun _ _ _ h => h) (Or.inl ⟨by rfl, ?_⟩) (by assumption) ?_; rotate_left; (focus (intro w hSw; (try dsimp only at hSw); go_simp; (try with_reducible rfl))); (try simp only [List.getElem_toArray, List.getElem_cons_zero, List.getElem_cons_succ, Act.put, List.setIfInBounds_toArray, List.set_cons_zero, List.set_cons_succ]))
              refine wpAnyH_ready (rs := [12]) (by kernel_rfl) (by simp) ?_
              refine AllReadyH.cons rfl (fun K hK => ?_) AllReadyH.nil
              have z0 := cell_blk e.out 0 rfl
              have z1 := cell_blk e.out 1 rfl
              have z2 := cell_blk e.out 2 rfl
              have z3 := cell_blk e.out 3 rfl
              have y := frozen_blk e.out
              go_simp
              have F := store_four e.out (.slice (some ⟨g8, 0, none⟩) B.nv p8) (.slice (some ⟨g12, 0, none⟩) B.nf p12) (.slice none 0 0) (.int .i64 B.wr)
              obtain ⟨wn, hwn⟩ : ∃ wn : World, ((((wc.setCell ⟨gE, 0, none⟩ (.slice (some ⟨g8, 0, none⟩) B.nv p8)).setCell ⟨gE, 1, none⟩ (.slice (some ⟨g12, 0, none⟩) B.nf p12)).setCell ⟨gE, 2, none⟩ (.slice none 0 0)).setCell ⟨gE, 3, none⟩ (.int .i64 B.wr)) = wn := ⟨_, rfl⟩
              rw [hwn] at F ⊢
              obtain ⟨f1, f2, f3⟩ := F
              have HBn : Hid (Below ws.heap.size ws wn) := HBc.out.trans (f2 _ hge.out)
              have Sn := old_of HBn.out
              have r3 : Hid (Two wn ws.heap.size wn.heap.size (.slice (some ⟨g8, 0, none⟩) B.nv p8) (.slice (some ⟨g12, 0, none⟩) B.nf p12) B) := (r2.out.other (fun k cs hg => f3 k cs _ (by decide) hg)).wider (by rw [← hwn]; simp [World.setCell])
              clear hwn f2 f3 r2
              refine hK.out _ _ Sn (fun hHeld => ?_)
              clear hK K Sn
              refine wpAnyH_done (by kernel_rfl) ?_ _
              clear hHeld
              go_wp2_with fail
              go_meet
              exact ⟨gE, _, _, rfl, hge.out, HBn.out, r3.out, f1⟩
    · go_simp
      obtain ⟨wn, hwn⟩ : ∃ wn : World, wc.alloc (Obj.cells #[.slice none 0 0, .slice none 0 0, .slice none 0 0, .int .i64 0] 25) = wn := ⟨_, rfl⟩
      rw [hwn]
      have hb : Below wc.heap.size wc wn := (by rw [← hwn]; exact below_alloc (Nat.le_refl _) _)
      have e : Hid (wn.heap[wc.heap.size]? = some (Obj.cells #[.slice none 0 0, .slice none 0 0, .slice none 0 0, .int .i64 0] 25)) := (by rw [← hwn]; exact World.alloc_heap_new _ _)
      have hge : Hid (ws.heap.size ≤ wc.heap.size) := HBc.out.size
      obtain ⟨gE, hgE⟩ : ∃ g, wc.heap.size = g := ⟨_, rfl⟩
      rw [hgE] at e hge ⊢
      clear hwn hgE
      (try replace r8 : Hid (RowIn wn ws.heap.size wn.heap.size v8 B.nv B.V) := (r8.out.grow hb).wider (Nat.le_refl _) hb.size)
      (try replace r2 := Lib.hid ((r2.out.grow hb).wider hb.size))
      replace HBc : Hid (Below ws.heap.size ws wn) := bel HBc.out hb
      clear hb
      have Sn := old_of HBc.out
      refine hK.out _ _ Sn (fun hHeld => ?_)
      clear hK K Sn
      (try simp only [List.getElem_toArray, List.getElem_cons_zero, List.getElem_cons_succ, Act.put, List.setIfInBounds_toArray, List.set_cons_zero, List.set_cons_succ])
      obtain ⟨wc, rfl⟩ : ∃ w' : World, w' = wn := ⟨_, rfl⟩
      refine wpAnyH_ready (rs := [0, 4]) (by kernel_rfl) (by simp) ?_
      refine (AllReadyH.cons rfl (fun K hK => ?_) (AllReadyH.cons rfl (fun K hK => ?_) AllReadyH.nil))
      · go_simp
        obtain ⟨wn, hwn⟩ : ∃ wn : World, wc.alloc (.cells #[] 3) = wn := ⟨_, rfl⟩
        rw [hwn]
        have hb : Below wc.heap.size wc wn := (by rw [← hwn]; exact below_alloc (Nat.le_refl _) _)
        clear hwn
        obtain ⟨g5, hg⟩ : ∃ g, wc.heap.size = g := ⟨_, rfl⟩
        rw [hg]
        clear hg
        (try replace r8 : Hid (RowIn wn ws.heap.size wn.heap.size v8 B.nv B.V) := (r8.out.grow hb).wider (Nat.le_refl _) hb.size)
        (try replace r2 := Lib.hid ((r2.out.grow hb).wider hb.size))
        (try replace e : Hid (wn.heap[gE]? = some (Obj.cells #[.slice none 0 0, .slice none 0 0, .slice none 0 0, .int .i64 0] 25)) := keep_blk hb e.out)
        replace HBc : Hid (Below ws.heap.size ws wn) := bel HBc.out hb
        clear hb
        have Sn := old_of HBc.out
        refine hK.out _ _ Sn (fun hHeld => ?_)
        clear hK K Sn
        (try simp only [List.getElem_toArray, List.getElem_cons_zero, List.getElem_cons_succ, Act.put, List.setIfInBounds_toArray, List.set_cons_zero, List.set_cons_succ])
        obtain ⟨wc, rfl⟩ : ∃ w' : World, w' = wn := ⟨_, rfl⟩
        refine wpAnyH_ready (rs := [3, 4]) (by kernel_rfl) (by simp) ?_
        refine (AllReadyH.cons rfl (fun K hK => ?_) (AllReadyH.cons rfl (fun K hK => ?_) AllReadyH.nil))
        · rw [if_pos (by rfl)]
          refine wp_clone _ (.tmp 5) (.tmp 7) ?_ ?_ N g5 _ B.nv _ B.V ?_ ?_ (ints_v (HBF.out.go HBc.out).1) h40v ?_
          any_goals (exact rfl)
          intro v8 wn hrow hb
          have r8 : Hid (RowIn wn ws.heap.size wn.heap.size v8 B.nv B.V) := hrow.wider HBc.out.size (Nat.le_refl _)
          clear hrow
          (try replace e : Hid (wn.heap[gE]? = some (Obj.cells #[.slice none 0 0, .slice none 0 0, .slice none 0 0, .int .i64 0] 25)) := keep_blk hb e.out)
          replace HBc : Hid (Below ws.heap.size ws wn) := bel HBc.out hb
          clear hb
          have Sn := old_of HBc.out
          refine hK.out _ _ Sn (fun hHeld => ?_)
          clear hK K Sn
          (try simp only [List.getElem_toArray, List.getElem_cons_zero, List.getElem_cons_succ, Act.put, List.setIfInBounds_toArray, List.set_cons_zero, List.set_cons_succ])
          obtain ⟨wc, rfl⟩ : ∃ w' : World, w' = wn := ⟨_, rfl⟩
          refine wpAnyH_ready (rs := [4]) (by kernel_rfl) (by simp) ?_
          refine (AllReadyH.cons rfl (fun K hK => ?_) AllReadyH.nil)
          · go_simp
            obtain ⟨wn, hwn⟩ : ∃ wn : World, wc.alloc (.cells #[] 3) = wn := ⟨_, rfl⟩
            rw [hwn]
            have hb : Below wc.heap.size wc wn := (by rw [← hwn]; exact below_alloc (Nat.le_refl _) _)
            clear hwn
            obtain ⟨g9, hg⟩ : ∃ g, wc.heap.size = g := ⟨_, rfl⟩
            rw [hg]
            clear hg
            (try replace r8 : Hid (RowIn wn ws.heap.size wn.heap.size v8 B.nv B.V) := (r8.out.grow hb).wider (Nat.le_refl _) hb.size)
            (try replace r2 := Lib.hid ((r2.out.grow hb).wider hb.size))
            (try replace e : Hid (wn.heap[gE]? = some (Obj.cells #[.slice none 0 0, .slice none 0 0, .slice none 0 0, .int .i64 0] 25)) := keep_blk hb e.out)
            replace HBc : Hid (Below ws.heap.size ws wn) := bel HBc.out hb
            clear hb
            have Sn := old_of HBc.out
            refine hK.out _ _ Sn (fun hHeld => ?_)
            clear hK K Sn
            (try simp only [List.getElem_toArray, List.getElem_cons_zero, List.getElem_cons_succ, Act.put, List.setIfInBounds_toArray, List.set_cons_zero, List.set_cons_succ])
            obtain ⟨wc, rfl⟩ : ∃ w' : World, w' = wn := ⟨_, rfl⟩
            refine wpAnyH_ready (rs := [7]) (by kernel_rfl) (by simp) ?_
            refine (AllReadyH.cons rfl (fun K hK => ?_) AllReadyH.nil)
            · rw [if_pos (by rfl)]
              refine wp_clone _ (.tmp 9) (.tmp 11) ?_ ?_ N g9 _ B.nf _ B.F ?_ ?_ (ints_f (HBF.out.go HBc.out).1) h40f ?_
              any_goals (exact rfl)
              intro v12 wn hrow hb
              have r2 : Hid (Two wn ws.heap.size wn.heap.size v8 v12 B) := ⟨_, r8.out.grow hb, hrow⟩
              clear hrow r8
              (try replace e : Hid (wn.heap[gE]? = some (Obj.cells #[.slice none 0 0, .slice none 0 0, .slice none 0 0, .int .i64 0] 25)) := keep_blk hb e.out)
              replace HBc : Hid (Below ws.heap.size ws wn) := bel HBc.out hb
              clear hb
              have Sn := old_of HBc.out
              refine hK.out _ _ Sn (fun hHeld => ?_)
              clear hK K Sn
              (try simp only [List.getElem_toArray, List.getElem_cons_zero, List.getElem_cons_succ, Act.put, List.setIfInBounds_toArray, List.set_cons_zero, List.set_cons_succ])
              obtain ⟨wc, rfl⟩ : ∃ w' : World, w' = wn := ⟨_, rfl⟩
              obtain ⟨g8, p8, rfl⟩ := r2.out.form1
              obtain ⟨g12, p12, rfl⟩ := r2.out.form2
              (refine wpAnyH_take (i := 10) (v := ?_) rfl (by kernel_rfl) (by kernel_rfl) (by kernel_rfl) (fun _ _ _ h => h) (Or.inl ⟨by rfl, ?_⟩) (by assumption) ?_; rotate_left; (focus (intro w hSw; (try dsimp only at hSw); go_simp; (try with_reducible rfl))); (try simp only [List.getElem_toArray, List.getElem_cons_zero, List.getElem_cons_succ, Act.put, List.setIfInBounds_toArray, List.set_cons_zero, List.set_cons_succ]))
              refine wpAnyH_ready (rs := [12]) (by kernel_rfl) (by simp) ?_
              refine AllReadyH.cons rfl (fun K hK => ?_) AllReadyH.nil
              have z0 := cell_blk e.out 0 rfl
              have z1 := cell_blk e.out 1 rfl
              have z2 := cell_blk e.out 2 rfl
              have z3 := cell_blk e.out 3 rfl
              have y := frozen_blk e.out
              go_simp
              have F := store_four e.out (.slice (some ⟨g8, 0, none⟩) B.nv p8) (.slice (some ⟨g12, 0, none⟩) B.nf p12) (.slice none 0 0) (.int .i64 B.wr)
              obtain ⟨wn, hwn⟩ : ∃ wn : World, ((((wc.setCell ⟨gE, 0, none⟩ (.slice (some ⟨g8, 0, none⟩) B.nv p8)).setCell ⟨gE, 1, none⟩ (.slice (some ⟨g12, 0, none⟩) B.nf p12)).setCell ⟨gE, 2, none⟩ (.slice none 0 0)).setCell ⟨gE, 3, none⟩ (.int .i64 B.wr)) = wn := ⟨_, rfl⟩
              rw [hwn] at F ⊢
              obtain ⟨f1, f2, f3⟩ := F
              have HBn : Hid (Below ws.heap.size ws wn) := HBc.out.trans (f2 _ hge.out)
              have Sn := old_of HBn.out
              have r3 : Hid (Two wn ws.heap.size wn.heap.size (.slice (some ⟨g8, 0, none⟩) B.nv p8) (.slice (some ⟨g12, 0, none⟩) B.nf p12) B) := (r2.out.other (fun k cs hg => f3 k cs _ (by decide) hg)).wider (by rw [← hwn]; simp [World.setCell])
              clear hwn f2 f3 r2
              refine hK.out _ _ Sn (fun hHeld => ?_)
              clear hK K Sn
              refine wpAnyH_done (by kernel_rfl) ?_ _
              clear hHeld
              go_wp2_with fail
              go_meet
              exact ⟨gE, _, _, rfl, hge.out, HBn.out, r3.out, f1⟩
        · go_simp
          obtain ⟨wn, hwn⟩ : ∃ wn : World, wc.alloc (.cells #[] 3) = wn := ⟨_, rfl⟩
          rw [hwn]
          have hb : Below wc.heap.size wc wn := (by rw [← hwn]; exact below_alloc (Nat.le_refl _) _)
          clear hwn
          obtain ⟨g9, hg⟩ : ∃ g, wc.heap.size = g := ⟨_, rfl⟩
          rw [hg]
          clear hg
          (try replace r8 : Hid (RowIn wn ws.heap.size wn.heap.size v8 B.nv B.V) := (r8.out.grow hb).wider (Nat.le_refl _) hb.size)
          (try replace r2 := Lib.hid ((r2.out.grow hb).wider hb.size))
          (try replace e : Hid (wn.heap[gE]? = some (Obj.cells #[.slice none 0 0, .slice none 0 0, .slice none 0 0, .int .i64 0] 25)) := keep_blk hb e.out)
          replace HBc : Hid (Below ws.heap.size ws wn) := bel HBc.out hb
          clear hb
          have Sn := old_of HBc.out
          refine hK.out _ _ Sn (fun hHeld => ?_)
          clear hK K Sn
          (try simp only [List.getElem_toArray, List.getElem_cons_zero, List.getElem_cons_succ, Act.put, List.setIfInBounds_toArray, List.set_cons_zero, List.set_cons_succ])
          obtain ⟨wc, rfl⟩ : ∃ w' : World, w' = wn := ⟨_, rfl⟩
          refine wpAnyH_ready (rs := [3]) (by kernel_rfl) (by simp) ?_
          refine (AllReadyH.cons rfl (fun K hK => ?_) AllReadyH.nil)
          · rw [if_pos (by rfl)]
            refine wp_clone _ (.tmp 5) (.tmp 7) ?_ ?_ N g5 _ B.nv _ B.V ?_ ?_ (ints_v (HBF.out.go HBc.out).1) h40v ?_
            any_goals (exact rfl)
            intro v8 wn hrow hb
            have r8 : Hid (RowIn wn ws.heap.size wn.heap.size v8 B.nv B.V) := hrow.wider HBc.out.size (Nat.le_refl _)
            clear hrow
            (try replace e : Hid (wn.heap[gE]? = some (Obj.cells #[.slice none 0 0, .slice none 0 0, .slice none 0 0, .int .i64 0] 25)) := keep_blk hb e.out)
            replace HBc : Hid (Below ws.heap.size ws wn) := bel HBc.out hb
            clear hb
            have Sn := old_of HBc.out
            refine hK.out _ _ Sn (fun hHeld => ?_)
            clear hK K Sn
            (try simp only [List.getElem_toArray, List.getElem_cons_zero, List.getElem_cons_succ, Act.put, List.setIfInBounds_toArray, List.set_cons_zero, List.set_cons_succ])
            obtain ⟨wc, rfl⟩ : ∃ w' : World, w' = wn := ⟨_, rfl⟩
            refine wpAnyH_ready (rs := [7]) (by kernel_rfl) (by simp) ?_
            refine (AllReadyH.cons rfl (fun K hK => ?_) AllReadyH.nil)
            · rw [if_pos (by rfl)]
              refine wp_clone _ (.tmp 9) (.tmp 11) ?_ ?_ N g9 _ B.nf _ B.F ?_ ?_ (ints_f (HBF.out.go HBc.out).1) h40f ?_
              any_goals (exact rfl)
              intro v12 wn hrow hb
              have r2 : Hid (Two wn ws.heap.size wn.heap.size v8 v12 B) := ⟨_, r8.out.grow hb, hrow⟩
              clear hrow r8
              (try replace e : Hid (wn.heap[gE]? = some (Obj.cells #[.slice none 0 0, .slice none 0 0, .slice none 0 0, .int .i64 0] 25)) := keep_blk hb e.out)
              replace HBc : Hid (Below ws.heap.size ws wn) := bel HBc.out hb
              clear hb
              have Sn := old_of HBc.out
              refine hK.out _ _ Sn (fun hHeld => ?_)
              clear hK K Sn
              (try simp only [List.getElem_toArray, List.getElem_cons_zero, List.getElem_cons_succ, Act.put, List.setIfInBounds_toArray, List.set_cons_zero, List.set_cons_succ])
              obtain ⟨wc, rfl⟩ : ∃ w' : World, w' = wn := ⟨_, rfl⟩
              obtain ⟨g8, p8, rfl⟩ := r2.out.form1
              obtain ⟨g12, p12, rfl⟩ := r2.out.form2
              (refine wpAnyH_take (i := 10) (v := ?_) rfl (by kernel_rfl) (by kernel_rfl) (by kernel_rfl) (fun _ _ _ h => h) (Or.inl ⟨by rfl, ?_⟩) (by assumption) ?_; rotate_left; (focus (intro w hSw; (try dsimp only at hSw); go_simp; (try with_reducible rfl))); (try simp only [List.getElem_toArray, List.getElem_cons_zero, List.getElem_cons_succ, Act.put, List.setIfInBounds_toArray, List.set_cons_zero, List.set_cons_succ]))
              refine wpAnyH_ready (rs := [12]) (by kernel_rfl) (by simp) ?_
              refine AllReadyH.cons rfl (fun K hK => ?_) AllReadyH.nil
              have z0 := cell_blk e.out 0 rfl
              have z1 := cell_blk e.out 1 rfl
              have z2 := cell_blk e.out 2 rfl
              have z3 := cell_blk e.out 3 rfl
              have y := frozen_blk e.out
              go_simp
              have F := store_four e.out (.slice (some ⟨g8, 0, none⟩) B.nv p8) (.slice (some ⟨g12, 0, none⟩) B.nf p12) (.slice none 0 0) (.int .i64 B.wr)
              obtain ⟨wn, hwn⟩ : ∃ wn : World, ((((wc.setCell ⟨gE, 0, none⟩ (.slice (some ⟨g8, 0, none⟩) B.nv p8)).setCell ⟨gE, 1, none⟩ (.slice (some ⟨g12, 0, none⟩) B.nf p12)).setCell ⟨gE, 2, none⟩ (.slice none 0 0)).setCell ⟨gE, 3, none⟩ (.int .i64 B.wr)) = wn := ⟨_, rfl⟩
              rw [hwn] at F ⊢
              obtain ⟨f1, f2, f3⟩ := F
              have HBn : Hid (Below ws.heap.size ws wn) := HBc.out.trans (f2 _ hge.out)
              have Sn := old_of HBn.out
              have r3 : Hid (Two wn ws.heap.size wn.heap.size (.slice (some ⟨g8, 0, none⟩) B.nv p8) (.slice (some ⟨g12, 0, none⟩) B.nf p12) B) := (r2.out.other (fun k cs hg => f3 k cs _ (by decide) hg)).wider (by rw [← hwn]; simp [World.setCell])
              clear hwn f2 f3 r2
              refine hK.out _ _ Sn (fun hHeld => ?_)
              clear hK K Sn
              refine wpAnyH_done (by kernel_rfl) ?_ _
              clear hHeld
              go_wp2_with fail
              go_meet
              exact ⟨gE, _, _, rfl, hge.out, HBn.out, r3.out, f1⟩
      · go_simp
        obtain ⟨wn, hwn⟩ : ∃ wn : World, wc.alloc (.cells #[] 3) = wn := ⟨_, rfl⟩
        rw [hwn]
        have hb : Below wc.heap.size wc wn := (by rw [← hwn]; exact below_alloc (Nat.le_refl _) _)
        clear hwn
        obtain ⟨g9, hg⟩ : ∃ g, wc.heap.size = g := ⟨_, rfl⟩
        rw [hg]
        clear hg
        (try replace r8 : Hid (RowIn wn ws.heap.size wn.heap.size v8 B.nv B.V) := (r8.out.grow hb).wider (Nat.le_refl _) hb.size)
        (try replace r2 := Lib.hid ((r2.out.grow hb).wider hb.size))
        (try replace e : Hid (wn.heap[gE]? = some (Obj.cells #[.slice none 0 0, .slice none 0 0, .slice none 0 0, .int .i64 0] 25)) := keep_blk hb e.out)
        replace HBc : Hid (Below ws.heap.size ws wn) := bel HBc.out hb
        clear hb
        have Sn := old_of HBc.out
        refine hK.out _ _ Sn (fun hHeld => ?_)
        clear hK K Sn
        (try simp only [List.getElem_toArray, List.getElem_cons_zero, List.getElem_cons_succ, Act.put, List.setIfInBounds_toArray, List.set_cons_zero, List.set_cons_succ])
        obtain ⟨wc, rfl⟩ : ∃ w' : World, w' = wn := ⟨_, rfl⟩
        refine wpAnyH_ready (rs := [0]) (by kernel_rfl) (by simp) ?_
        refine (AllReadyH.cons rfl (fun K hK => ?_) AllReadyH.nil)
        · go_simp
          obtain ⟨wn, hwn⟩ : ∃ wn : World, wc.alloc (.cells #[] 3) = wn := ⟨_, rfl⟩
          rw [hwn]
          have hb : Below wc.heap.size wc wn := (by rw [← hwn]; exact below_alloc (Nat.le_refl _) _)
          clear hwn
          obtain ⟨g5, hg⟩ : ∃ g, wc.heap.size = g := ⟨_, rfl⟩
          rw [hg]
          clear hg
          (try replace r8 : Hid (RowIn wn ws.heap.size wn.heap.size v8 B.nv B.V) := (r8.out.grow hb).wider (Nat.le_refl _) hb.size)
          (try replace r2 := Lib.hid ((r2.out.grow hb).wider hb.size))
          (try replace e : Hid (wn.heap[gE]? = some (Obj.cells #[.slice none 0 0, .slice none 0 0, .slice none 0 0, .int .i64 0] 25)) := keep_blk hb e.out)
          replace HBc : Hid (Below ws.heap.size ws wn) := bel HBc.out hb
          clear hb
          have Sn := old_of HBc.out
          refine hK.out _ _ Sn (fun hHeld => ?_)
          clear hK K Sn
          (try simp only [List.getElem_toArray, List.getElem_cons_zero, List.getElem_cons_succ, Act.put, List.setIfInBounds_toArray, List.set_cons_zero, List.set_cons_succ])
          obtain ⟨wc, rfl⟩ : ∃ w' : World, w' = wn := ⟨_, rfl⟩
          refine wpAnyH_ready (rs := [3]) (by kernel_rfl) (by simp) ?_
          refine (AllReadyH.cons rfl (fun K hK => ?_) AllReadyH.nil)
          · rw [if_pos (by rfl)]
            refine wp_clone _ (.tmp 5) (.tmp 7) ?_ ?_ N g5 _ B.nv _ B.V ?_ ?_ (ints_v (HBF.out.go HBc.out).1) h40v ?_
            any_goals (exact rfl)
            intro v8 wn hrow hb
            have r8 : Hid (RowIn wn ws.heap.size wn.heap.size v8 B.nv B.V) := hrow.wider HBc.out.size (Nat.le_refl _)
            clear hrow
            (try replace e : Hid (wn.heap[gE]? = some (Obj.cells #[.slice none 0 0, .slice none 0 0, .slice none 0 0, .int .i64 0] 25)) := keep_blk hb e.out)
            replace HBc : Hid (Below ws.heap.size ws wn) := bel HBc.out hb
            clear hb
            have Sn := old_of HBc.out
            refine hK.out _ _ Sn (fun hHeld => ?_)
            clear hK K Sn
            (try simp only [List.getElem_toArray, List.getElem_cons_zero, List.getElem_cons_succ, Act.put, List.setIfInBounds_toArray, List.set_cons_zero, List.set_cons_succ])
            obtain ⟨wc, rfl⟩ : ∃ w' : World, w' = wn := ⟨_, rfl⟩
            refine wpAnyH_ready (rs := [7]) (by kernel_rfl) (by simp) ?_
            refine (AllReadyH.cons rfl (fun K hK => ?_) AllReadyH.nil)
            · rw [if_pos (by rfl)]
              refine wp_clone _ (.tmp 9) (.tmp 11) ?_ ?_ N g9 _ B.nf _ B.F ?_ ?_ (ints_f (HBF.out.go HBc.out).1) h40f ?_
              any_goals (exact rfl)
              intro v12 wn hrow hb
              have r2 : Hid (Two wn ws.heap.size wn.heap.size v8 v12 B) := ⟨_, r8.out.grow hb, hrow⟩
              clear hrow r8
              (try replace e : Hid (wn.heap[gE]? = some (Obj.cells #[.slice none 0 0, .slice none 0 0, .slice none 0 0, .int .i64 0] 25)) := keep_blk hb e.out)
              replace HBc : Hid (Below ws.heap.size ws wn) := bel HBc.out hb
              clear hb
              have Sn := old_of HBc.out
              refine hK.out _ _ Sn (fun hHeld => ?_)
              clear hK K Sn
              (try simp only [List.getElem_toArray, List.getElem_cons_zero, List.getElem_cons_succ, Act.put, List.setIfInBounds_toArray, List.set_cons_zero, List.set_cons_succ])
              obtain ⟨wc, rfl⟩ : ∃ w' : World, w' = wn := ⟨_, rfl⟩
              obtain ⟨g8, p8, rfl⟩ := r2.out.form1
              obtain ⟨g12, p12, rfl⟩ := r2.out.form2
              (refine wpAnyH_take (i := 10) (v := ?_) rfl (by kernel_rfl) (by kernel_rfl) (by kernel_rfl) (fun _ _ _ h => h) (Or.inl ⟨by rfl, ?_⟩) (by assumption) ?_; rotate_left; (focus (intro w hSw; (try dsimp only at hSw); go_simp; (try with_reducible rfl))); (try simp only [List.getElem_toArray, List.getElem_cons_zero, List.getElem_cons_succ, Act.put, List.setIfInBounds_toArray, List.set_cons_zero, List.set_cons_succ]))
              refine wpAnyH_ready (rs := [12]) (by kernel_rfl) (by simp) ?_
              refine AllReadyH.cons rfl (fun K hK => ?_) AllReadyH.nil
              have z0 := cell_blk e.out 0 rfl
              have z1 := cell_blk e.out 1 rfl
              have z2 := cell_blk e.out 2 rfl
              have z3 := cell_blk e.out 3 rfl
              have y := frozen_blk e.out
              go_simp
              have F := store_four e.out (.slice (some ⟨g8, 0, none⟩) B.nv p8) (.slice (some ⟨g12, 0, none⟩) B.nf p12) (.slice none 0 0) (.int .i64 B.wr)
              obtain ⟨wn, hwn⟩ : ∃ wn : World, ((((wc.setCell ⟨gE, 0, none⟩ (.slice (some ⟨g8, 0, none⟩) B.nv p8)).setCell ⟨gE, 1, none⟩ (.slice (some ⟨g12, 0, none⟩) B.nf p12)).setCell ⟨gE, 2, none⟩ (.slice none 0 0)).setCell ⟨gE, 3, none⟩ (.int .i64 B.wr)) = wn := ⟨_, rfl⟩
              rw [hwn] at F ⊢
              obtain ⟨f1, f2, f3⟩ := F
              have HBn : Hid (Below ws.heap.size ws wn) := HBc.out.trans (f2 _ hge.out)
              have Sn := old_of HBn.out
              have r3 : Hid (Two wn ws.heap.size wn.heap.size (.slice (some ⟨g8, 0, none⟩) B.nv p8) (.slice (some ⟨g12, 0, none⟩) B.nf p12) B) := (r2.out.other (fun k cs hg => f3 k cs _ (by decide) hg)).wider (by rw [← hwn]; simp [World.setCell])
              clear hwn f2 f3 r2
              refine hK.out _ _ Sn (fun hHeld => ?_)
              clear hK K Sn
              refine wpAnyH_done (by kernel_rfl) ?_ _
              clear hHeld
              go_wp2_with fail
              go_meet
              exact ⟨gE, _, _, rfl, hge.out, HBn.out, r3.out, f1⟩
  case rest =>
    obtain ⟨gE, v8, v12, rfl, hcut⟩ := hcut
    obtain ⟨i1, hi, hz0, hz1, hz2⟩ := info_parts Try.infoSort
    obtain ⟨mS, hmS⟩ : ∃ m, wc.heap.size = m := ⟨_, rfl⟩
    have HX : Hid (CopyRun wc ws mS gE v8 v12 (.slice none 0 0) 0 B) := by
      obtain ⟨h1, h2, h3, h4⟩ := hcut
      subst hmS
      exact ⟨h1, (Array.getElem?_eq_some_iff.1 h4).1, h2, h3, h4, Nat.le_refl _, SortsIn.nil _ _ (Nat.le_refl _)⟩
    clear hcut hmS S0d HB0d
    go_wp2
    go_loopw [4] (fun i wr => ∃ k : Nat, k ≤ B.ns ∧ i = .int .i64 k ∧ ∃ vS, Hid (CopyRun wr ws mS gE v8 v12 vS k B)) (fun i _ => B.ns - (intOf i).toNat)
    case atStart => exact ⟨0, Nat.zero_le _, rfl, _, HX.out⟩
    case round =>
      obtain ⟨k, hk, rfl, vS, hrun⟩ := hrel
      have hB := hrun.out.2.2.1
      have cr := (old_of hB).1
      have hszr := Nat.lt_of_lt_of_le hsz hB.size
      by_cases hkn : k < B.ns
      · obtain ⟨b3, o3, ao, cap, rfl, hb3, hq3, HRk⟩ := sort_at HBF.out.1 hkn
        have hnsv := hns.out
        have hb3s : b3 < ws.heap.size := Nat.lt_of_lt_of_le hb3 HN.out
        have hkni : (k : Int) < (B.ns : Int) := by omega
        obtain ⟨hg1, hg2, _, HT0, hE0, hM0, hS0⟩ := hrun.out
        have HBc : Hid (Below ws.heap.size ws wr.drew) := hB.drew
        have HT : Hid (Two wr.drew ws.heap.size mS v8 v12 B) := HT0
        have HEc : Hid (wr.drew.heap[gE]? = some (Obj.cells #[v8, v12, vS, .int .i64 B.wr] 25)) := hE0
        have hgE : Hid (ws.heap.size ≤ gE ∧ gE < mS) := ⟨hg1, hg2⟩
        have HM : Hid (mS ≤ wr.drew.heap.size) := hM0
        have HmS : Hid (ws.heap.size ≤ mS) := Nat.le_of_lt (Nat.lt_of_le_of_lt hg1 hg2)
        obtain ⟨av, cv, rfl⟩ := hS0.form
        obtain ⟨rows, M, ho, _, hlen, h0, hM, hm, hr⟩ := hS0
        have HO : Hid (wr.drew.ownsRow mS 73 1 (.slice av k cv) k rows) := ho
        have HR : Hid (∀ j, j < k → ∃ r, rows[j]? = some r ∧ RowsIn wr.drew (M j) (M (j + 1)) r (B.nc j) (B.ncc j) (B.can j)) := hr
        have HH : Hid (rows.length = k ∧ mS ≤ M 0 ∧ M k ≤ wr.drew.heap.size ∧ ∀ j, j < k → M j ≤ M (j + 1)) := ⟨hlen, h0, hM, hm⟩
        clear hg1 hg2 HT0 hE0 hM0 ho hlen h0 hM hm hr hrun hB
        go_wp2
        clear cr hszr
        refine wp_region_held_drew (S := fun _ => True) (by kernel_rfl) trivial (fun hHeld => ?_)
        obtain ⟨wc, hwc⟩ : ∃ w' : World, wr.drew = w' := ⟨_, rfl⟩
        rw [hwc] at HBc HT HEc HM HO HR HH ⊢
        clear hwc
        (refine wpAnyH_take (i := 0) (v := ?_) rfl (by kernel_rfl) (by kernel_rfl) (by kernel_rfl) (fun _ _ _ h => h) (Or.inl ⟨by rfl, ?_⟩) (by assumption) ?_; rotate_left; (focus (intro w hSw; (try dsimp only at hSw); go_simp; (try with_reducible rfl))); (try simp only [List.getElem_toArray, List.getElem_cons_zero, List.getElem_cons_succ, Act.put, List.setIfInBounds_toArray, List.set_cons_zero, List.set_cons_succ]))
        (refine wpAnyH_take (i := 2) (v := ?_) rfl (by kernel_rfl) (by kernel_rfl) (by kernel_rfl) (fun _ _ _ h => h) (Or.inl ⟨by rfl, ?_⟩) (by assumption) ?_; rotate_left; (focus (intro w hSw; (try dsimp only at hSw); go_simp; (try with_reducible rfl))); (try simp only [List.getElem_toArray, List.getElem_cons_zero, List.getElem_cons_succ, Act.put, List.setIfInBounds_toArray, List.set_cons_zero, List.set_cons_succ]))
        (refine wpAnyH_take (i := 4) (v := ?_) rfl (by kernel_rfl) (by kernel_rfl) (by kernel_rfl) (fun _ _ _ h => h) (Or.inl ⟨by rfl, ?_⟩) (by assumption) ?_; rotate_left; (focus (intro w hSw; (try dsimp only at hSw); go_simp; (try with_reducible rfl))); (try simp only [List.getElem_toArray, List.getElem_cons_zero, List.getElem_cons_succ, Act.put, List.setIfInBounds_toArray, List.set_cons_zero, List.set_cons_succ]))
        obtain ⟨vS, hvS⟩ : ∃ vS : Value, .slice av k cv = vS := ⟨_, rfl⟩
        rw [hvS] at HEc HO
        clear hvS
        refine wpAnyH_ready (rs := [1, 3]) (by kernel_rfl) (by simp) ?_
        refine (AllReadyH.cons rfl (fun K hK => ?_) (AllReadyH.cons rfl (fun K hK => ?_) AllReadyH.nil))
        · have x2 := cell_blk HEc.out 2 rfl
          go_simp
          refine hK.out _ _ trivial (fun hHeld => ?_)
          clear hK K
          (try simp only [List.getElem_toArray, List.getElem_cons_zero, List.getElem_cons_succ, Act.put, List.setIfInBounds_toArray, List.set_cons_zero, List.set_cons_succ])
          clear x2
          refine wpAnyH_ready (rs := [3]) (by kernel_rfl) (by simp) ?_
          refine (AllReadyH.cons rfl (fun K hK => ?_) AllReadyH.nil)
          · have y2 := (HBc.out.cell (p := ⟨w.heap.size, 2, none⟩) hsz).trans q2
            go_simp
            refine hK.out _ _ trivial (fun hHeld => ?_)
            clear hK K
            (try simp only [List.getElem_toArray, List.getElem_cons_zero, List.getElem_cons_succ, Act.put, List.setIfInBounds_toArray, List.set_cons_zero, List.set_cons_succ])
            clear y2
            (refine wpAnyH_take (i := 5) (v := ?_) rfl (by kernel_rfl) (by kernel_rfl) (by kernel_rfl) (fun _ _ _ h => h) (Or.inl ⟨by rfl, ?_⟩) (by assumption) ?_; rotate_left; (focus (intro w hSw; (try dsimp only at hSw); go_simp; (try with_reducible rfl))); (try simp only [List.getElem_toArray, List.getElem_cons_zero, List.getElem_cons_succ, Act.put, List.setIfInBounds_toArray, List.set_cons_zero, List.set_cons_succ]))
            (refine wpAnyH_take (i := 6) (v := ?_) rfl (by kernel_rfl) (by kernel_rfl) (by kernel_rfl) (fun _ _ _ h => h) (Or.inl ⟨by rfl, ?_⟩) (by assumption) ?_; rotate_left; (focus (intro w hSw; (try dsimp only at hSw); go_simp; (try with_reducible rfl))); (try simp only [List.getElem_toArray, List.getElem_cons_zero, List.getElem_cons_succ, Act.put, List.setIfInBounds_toArray, List.set_cons_zero, List.set_cons_succ]))
            refine wpAnyH_ready (rs := [7]) (by kernel_rfl) (by simp) ?_
            refine (AllReadyH.cons rfl (fun K hK => ?_) AllReadyH.nil)
            · have y3 := (HBc.out.cell (p := ⟨b3, o3 + k, none⟩) hb3s).trans hq3
              go_simp
              refine hK.out _ _ trivial (fun hHeld => ?_)
              clear hK K
              (try simp only [List.getElem_toArray, List.getElem_cons_zero, List.getElem_cons_succ, Act.put, List.setIfInBounds_toArray, List.set_cons_zero, List.set_cons_succ])
              clear y3
              refine wpAnyH_ready (rs := [8]) (by kernel_rfl) (by simp) ?_
              refine (AllReadyH.cons rfl (fun K hK => ?_) AllReadyH.nil)
              · rw [if_pos (by rfl)]
                go_simp
                go_at_call 17
                refine (copyFruits_any N _ ⟨B.nc k, B.ncc k, B.can k⟩ _ (HRk.out.mono (HBc.out.mono HN.out) (Nat.le_refl _)) (Nat.le_trans HN.out HBc.out.size) (hlim.out k hkn).1 (hlim.out k hkn).2).mono ?_
                rintro e w1 ⟨r1, rfl, hrows, hb⟩
                obtain ⟨ar1, cr1, rfl⟩ := hrows.form
                have HR1 := Lib.hid hrows
                have HB1 := Lib.hid hb
                replace HBc : Hid (Below ws.heap.size ws w1) := bel HBc.out hb
                replace HEc := Lib.hid (keep_blk hb HEc.out)
                have hown1 := Lib.hid (own_below HO.out hb)
                clear hrows hb
                refine hK.out _ _ trivial (fun hHeld => ?_)
                clear hK K
                (try simp only [List.getElem_toArray, List.getElem_cons_zero, List.getElem_cons_succ, Act.put, List.setIfInBounds_toArray, List.set_cons_zero, List.set_cons_succ])
                (refine wpAnyH_take (i := 9) (v := ?_) rfl (by kernel_rfl) (by kernel_rfl) (by kernel_rfl) (fun _ _ _ h => h) (Or.inl ⟨by rfl, ?_⟩) (by assumption) ?_; rotate_left; (focus (intro w hSw; (try dsimp only at hSw); go_simp; (try with_reducible rfl))); (try simp only [List.getElem_toArray, List.getElem_cons_zero, List.getElem_cons_succ, Act.put, List.setIfInBounds_toArray, List.set_cons_zero, List.set_cons_succ]))
                refine wpAnyH_ready (rs := [10]) (by kernel_rfl) (by simp) ?_
                refine (AllReadyH.cons rfl (fun K hK => ?_) AllReadyH.nil)
                · go_simp
                  obtain ⟨w2, hw2⟩ : ∃ w2 : World, w1.alloc (.cells #[.slice ar1 (B.nc k) cr1] 73) = w2 := ⟨_, rfl⟩
                  rw [hw2]
                  have hb : Below w1.heap.size w1 w2 := (by rw [← hw2]; exact below_alloc (Nat.le_refl _) _)
                  have HC2 : Hid (w2.heap[w1.heap.size]? = some (Obj.cells #[.slice ar1 (B.nc k) cr1] 73)) := (by rw [← hw2]; exact World.alloc_heap_new _ _)
                  replace HBc : Hid (Below ws.heap.size ws w2) := bel HBc.out hb
                  replace HEc := Lib.hid (keep_blk hb HEc.out)
                  have hown2 := Lib.hid (own_below hown1.out hb)
                  have HB2 := Lib.hid hb
                  clear hb hw2 hown1
                  refine hK.out _ _ trivial (fun hHeld => ?_)
                  clear hK K
                  (try simp only [List.getElem_toArray, List.getElem_cons_zero, List.getElem_cons_succ, Act.put, List.setIfInBounds_toArray, List.set_cons_zero, List.set_cons_succ])
                  refine wpAnyH_ready (rs := [11]) (by kernel_rfl) (by simp) ?_
                  refine (AllReadyH.cons rfl (fun K hK => ?_) AllReadyH.nil)
                  · rw [if_pos (by rfl)]
                    refine wp_append_own _ (.tmp 24) (.tmp 33) 23 ?_ mS 73 i1 (.agg #[.slice none 0 0]) 1 24 Try.underlying23 hi hz0 hz1 hz2 rfl (by decide) _ _ _ ?_ hown2.out ⟨w1.heap.size, 0, none⟩ 1 1 [.slice ar1 (B.nc k) cr1] ?_ rfl (fun j u hj => by rw [addr_add, Nat.zero_add]; exact cell_blk HC2.out j (by simpa using hj)) (by simp [Value.oneCell']) (by have := hns.out; unfold maxLen; omega) (by have := hns.out; omega) (by have := HM.out; have := HB1.out.size; have := HB2.out.size; omega) ?_
                    any_goals (exact rfl)
                    intro v' w3 hown3 hgrow _
                    obtain ⟨av', cv', rfl⟩ := own_form hown3
                    have HO3 := Lib.hid hown3
                    have HG3 := Lib.hid hgrow
                    have HBd : Hid (Below ws.heap.size ws w3) := HBc.out.grown hgrow HBc.out.size (fun j e => by have := (hown2.out.lt j e).1; have := HM.out; have := HmS.out; omega)
                    have HE3 : Hid (w3.heap[gE]? = some (Obj.cells #[v8, v12, vS, .int .i64 B.wr] 25)) := (hgrow.block gE (Array.getElem?_eq_some_iff.1 HEc.out).1 (own_apart hown2.out HEc.out (by decide))).trans HEc.out
                    clear hown3 hgrow
                    refine hK.out _ _ trivial (fun hHeld => ?_)
                    clear hK K
                    (try simp only [List.getElem_toArray, List.getElem_cons_zero, List.getElem_cons_succ, Act.put, List.setIfInBounds_toArray, List.set_cons_zero, List.set_cons_succ])
                    (refine wpAnyH_take (i := 12) (v := ?_) rfl (by kernel_rfl) (by kernel_rfl) (by kernel_rfl) (fun _ _ _ h => h) (Or.inl ⟨by rfl, ?_⟩) (by assumption) ?_; rotate_left; (focus (intro w hSw; (try dsimp only at hSw); go_simp; (try with_reducible rfl))); (try simp only [List.getElem_toArray, List.getElem_cons_zero, List.getElem_cons_succ, Act.put, List.setIfInBounds_toArray, List.set_cons_zero, List.set_cons_succ]))
                    refine wpAnyH_ready (rs := [13]) (by kernel_rfl) (by simp) ?_
                    refine (AllReadyH.cons rfl (fun K hK => ?_) AllReadyH.nil)
                    · have z2 := cell_blk HE3.out 2 rfl
                      have y := frozen_blk HE3.out
                      go_simp
                      clear z2 y
                      obtain ⟨w4, hw4⟩ : ∃ w4 : World, w3.setCell ⟨gE, 2, none⟩ (.slice av' (k + 1) cv') = w4 := ⟨_, rfl⟩
                      rw [hw4]
                      have HF := Lib.hid (store_one HE3.out 2 (.slice av' (k + 1) cv'))
                      rw [hw4] at HF
                      have HZ : Hid (w4.heap.size = w3.heap.size) := Lib.hid (by rw [← hw4]; simp [World.setCell])
                      clear hw4
                      refine hK.out _ _ trivial (fun hHeld => ?_)
                      clear hK K
                      (try simp only [List.getElem_toArray, List.getElem_cons_zero, List.getElem_cons_succ, Act.put, List.setIfInBounds_toArray, List.set_cons_zero, List.set_cons_succ])
                      refine wpAnyH_done (by kernel_rfl) ?_ _
                      clear hHeld
                      go_wp2
                      go_roundw
                      case rel =>
                        refine ⟨k + 1, by omega, by go_num, .slice av' (k + 1) cv', ?_⟩
                        obtain ⟨f1, f2, f3⟩ := HF.out
                        obtain ⟨hlen, h0, hM, hm⟩ := HH.out
                        have hs1 := HB1.out.size
                        have hs2 := HB2.out.size
                        have hs3 := HG3.out.size
                        refine ⟨hgE.out.1, hgE.out.2, HBd.out.trans (f2 _ hgE.out.1), ?_, f1, by have := HM.out; rw [HZ.out]; omega, ?_⟩
                        · refine (((HT.out.grow HB1.out).grow HB2.out).other fun j cs hg => ?_).other fun j cs hg => f3 j cs _ (by decide) hg
                          exact HG3.out.block j (Array.getElem?_eq_some_iff.1 hg).1 (own_apart hown2.out hg (by decide))
                        · rw [HZ.out]
                          have hst := sortsIn_step (w2 := w4) hlen h0 hM hm HR.out HB1.out HR1.out (own_keep HO3.out fun g cur hg => f3 g cur _ (by decide) hg) (fun g cs t ht hg => ?_) (by rw [HZ.out]; omega)
                          · rw [HZ.out] at hst; exact hst
                          · have e2 : w2.heap[g]? = w1.heap[g]? := HB2.out.block g (Array.getElem?_eq_some_iff.1 hg).1
                            have e3 : w3.heap[g]? = w2.heap[g]? := HG3.out.block g (Array.getElem?_eq_some_iff.1 (e2.trans hg)).1 (own_apart hown2.out (e2.trans hg) (by rcases ht with rfl | rfl <;> decide))
                            rw [f3 g cs t (by rcases ht with rfl | rfl <;> decide) ((e3.trans e2).trans hg), e3, e2]
                      case measure => simp [intOf]; omega
        · have y2 := (HBc.out.cell (p := ⟨w.heap.size, 2, none⟩) hsz).trans q2
          go_simp
          refine hK.out _ _ trivial (fun hHeld => ?_)
          clear hK K
          (try simp only [List.getElem_toArray, List.getElem_cons_zero, List.getElem_cons_succ, Act.put, List.setIfInBounds_toArray, List.set_cons_zero, List.set_cons_succ])
          clear y2
          (refine wpAnyH_take (i := 5) (v := ?_) rfl (by kernel_rfl) (by kernel_rfl) (by kernel_rfl) (fun _ _ _ h => h) (Or.inl ⟨by rfl, ?_⟩) (by assumption) ?_; rotate_left; (focus (intro w hSw; (try dsimp only at hSw); go_simp; (try with_reducible rfl))); (try simp only [List.getElem_toArray, List.getElem_cons_zero, List.getElem_cons_succ, Act.put, List.setIfInBounds_toArray, List.set_cons_zero, List.set_cons_succ]))
          (refine wpAnyH_take (i := 6) (v := ?_) rfl (by kernel_rfl) (by kernel_rfl) (by kernel_rfl) (fun _ _ _ h => h) (Or.inl ⟨by rfl, ?_⟩) (by assumption) ?_; rotate_left; (focus (intro w hSw; (try dsimp only at hSw); go_simp; (try with_reducible rfl))); (try simp only [List.getElem_toArray, List.getElem_cons_zero, List.getElem_cons_succ, Act.put, List.setIfInBounds_toArray, List.set_cons_zero, List.set_cons_succ]))
          refine wpAnyH_ready (rs := [1, 7]) (by kernel_rfl) (by simp) ?_
          refine (AllReadyH.cons rfl (fun K hK => ?_) (AllReadyH.cons rfl (fun K hK => ?_) AllReadyH.nil))
          · have x2 := cell_blk HEc.out 2 rfl
            go_simp
            refine hK.out _ _ trivial (fun hHeld => ?_)
            clear hK K
            (try simp only [List.getElem_toArray, List.getElem_cons_zero, List.getElem_cons_succ, Act.put, List.setIfInBounds_toArray, List.set_cons_zero, List.set_cons_succ])
            clear x2
            refine wpAnyH_ready (rs := [7]) (by kernel_rfl) (by simp) ?_
            refine (AllReadyH.cons rfl (fun K hK => ?_) AllReadyH.nil)
            · have y3 := (HBc.out.cell (p := ⟨b3, o3 + k, none⟩) hb3s).trans hq3
              go_simp
              refine hK.out _ _ trivial (fun hHeld => ?_)
              clear hK K
              (try simp only [List.getElem_toArray, List.getElem_cons_zero, List.getElem_cons_succ, Act.put, List.setIfInBounds_toArray, List.set_cons_zero, List.set_cons_succ])
              clear y3
              refine wpAnyH_ready (rs := [8]) (by kernel_rfl) (by simp) ?_
              refine (AllReadyH.cons rfl (fun K hK => ?_) AllReadyH.nil)
              · rw [if_pos (by rfl)]
                go_simp
                go_at_call 17
                refine (copyFruits_any N _ ⟨B.nc k, B.ncc k, B.can k⟩ _ (HRk.out.mono (HBc.out.mono HN.out) (Nat.le_refl _)) (Nat.le_trans HN.out HBc.out.size) (hlim.out k hkn).1 (hlim.out k hkn).2).mono ?_
                rintro e w1 ⟨r1, rfl, hrows, hb⟩
                obtain ⟨ar1, cr1, rfl⟩ := hrows.form
                have HR1 := Lib.hid hrows
                have HB1 := Lib.hid hb
                replace HBc : Hid (Below ws.heap.size ws w1) := bel HBc.out hb
                replace HEc := Lib.hid (keep_blk hb HEc.out)
                have hown1 := Lib.hid (own_below HO.out hb)
                clear hrows hb
                refine hK.out _ _ trivial (fun hHeld => ?_)
                clear hK K
                (try simp only [List.getElem_toArray, List.getElem_cons_zero, List.getElem_cons_succ, Act.put, List.setIfInBounds_toArray, List.set_cons_zero, List.set_cons_succ])
                (refine wpAnyH_take (i := 9) (v := ?_) rfl (by kernel_rfl) (by kernel_rfl) (by kernel_rfl) (fun _ _ _ h => h) (Or.inl ⟨by rfl, ?_⟩) (by assumption) ?_; rotate_left; (focus (intro w hSw; (try dsimp only at hSw); go_simp; (try with_reducible rfl))); (try simp only [List.getElem_toArray, List.getElem_cons_zero, List.getElem_cons_succ, Act.put, List.setIfInBounds_toArray, List.set_cons_zero, List.set_cons_succ]))
                refine wpAnyH_ready (rs := [10]) (by kernel_rfl) (by simp) ?_
                refine (AllReadyH.cons rfl (fun K hK => ?_) AllReadyH.nil)
                · go_simp
                  obtain ⟨w2, hw2⟩ : ∃ w2 : World, w1.alloc (.cells #[.slice ar1 (B.nc k) cr1] 73) = w2 := ⟨_, rfl⟩
                  rw [hw2]
                  have hb : Below w1.heap.size w1 w2 := (by rw [← hw2]; exact below_alloc (Nat.le_refl _) _)
                  have HC2 : Hid (w2.heap[w1.heap.size]? = some (Obj.cells #[.slice ar1 (B.nc k) cr1] 73)) := (by rw [← hw2]; exact World.alloc_heap_new _ _)
                  replace HBc : Hid (Below ws.heap.size ws w2) := bel HBc.out hb
                  replace HEc := Lib.hid (keep_blk hb HEc.out)
                  have hown2 := Lib.hid (own_below hown1.out hb)
                  have HB2 := Lib.hid hb
                  clear hb hw2 hown1
                  refine hK.out _ _ trivial (fun hHeld => ?_)
                  clear hK K
                  (try simp only [List.getElem_toArray, List.getElem_cons_zero, List.getElem_cons_succ, Act.put, List.setIfInBounds_toArray, List.set_cons_zero, List.set_cons_succ])
                  refine wpAnyH_ready (rs := [11]) (by kernel_rfl) (by simp) ?_
                  refine (AllReadyH.cons rfl (fun K hK => ?_) AllReadyH.nil)
                  · rw [if_pos (by rfl)]
                    refine wp_append_own _ (.tmp 24) (.tmp 33) 23 ?_ mS 73 i1 (.agg #[.slice none 0 0]) 1 24 Try.underlying23 hi hz0 hz1 hz2 rfl (by decide) _ _ _ ?_ hown2.out ⟨w1.heap.size, 0, none⟩ 1 1 [.slice ar1 (B.nc k) cr1] ?_ rfl (fun j u hj => by rw [addr_add, Nat.zero_add]; exact cell_blk HC2.out j (by simpa using hj)) (by simp [Value.oneCell']) (by have := hns.out; unfold maxLen; omega) (by have := hns.out; omega) (by have := HM.out; have := HB1.out.size; have := HB2.out.size; omega) ?_
                    any_goals (exact rfl)
                    intro v' w3 hown3 hgrow _
                    obtain ⟨av', cv', rfl⟩ := own_form hown3
                    have HO3 := Lib.hid hown3
                    have HG3 := Lib.hid hgrow
                    have HBd : Hid (Below ws.heap.size ws w3) := HBc.out.grown hgrow HBc.out.size (fun j e => by have := (hown2.out.lt j e).1; have := HM.out; have := HmS.out; omega)
                    have HE3 : Hid (w3.heap[gE]? = some (Obj.cells #[v8, v12, vS, .int .i64 B.wr] 25)) := (hgrow.block gE (Array.getElem?_eq_some_iff.1 HEc.out).1 (own_apart hown2.out HEc.out (by decide))).trans HEc.out
                    clear hown3 hgrow
                    refine hK.out _ _ trivial (fun hHeld => ?_)
                    clear hK K
                    (try simp only [List.getElem_toArray, List.getElem_cons_zero, List.getElem_cons_succ, Act.put, List.setIfInBounds_toArray, List.set_cons_zero, List.set_cons_succ])
                    (refine wpAnyH_take (i := 12) (v := ?_) rfl (by kernel_rfl) (by kernel_rfl) (by kernel_rfl) (fun _ _ _ h => h) (Or.inl ⟨by rfl, ?_⟩) (by assumption) ?_; rotate_left; (focus (intro w hSw; (try dsimp only at hSw); go_simp; (try with_reducible rfl))); (try simp only [List.getElem_toArray, List.getElem_cons_zero, List.getElem_cons_succ, Act.put, List.setIfInBounds_toArray, List.set_cons_zero, List.set_cons_succ]))
                    refine wpAnyH_ready (rs := [13]) (by kernel_rfl) (by simp) ?_
                    refine (AllReadyH.cons rfl (fun K hK => ?_) AllReadyH.nil)
                    · have z2 := cell_blk HE3.out 2 rfl
                      have y := frozen_blk HE3.out
                      go_simp
                      clear z2 y
                      obtain ⟨w4, hw4⟩ : ∃ w4 : World, w3.setCell ⟨gE, 2, none⟩ (.slice av' (k + 1) cv') = w4 := ⟨_, rfl⟩
                      rw [hw4]
                      have HF := Lib.hid (store_one HE3.out 2 (.slice av' (k + 1) cv'))
                      rw [hw4] at HF
                      have HZ : Hid (w4.heap.size = w3.heap.size) := Lib.hid (by rw [← hw4]; simp [World.setCell])
                      clear hw4
                      refine hK.out _ _ trivial (fun hHeld => ?_)
                      clear hK K
                      (try simp only [List.getElem_toArray, List.getElem_cons_zero, List.getElem_cons_succ, Act.put, List.setIfInBounds_toArray, List.set_cons_zero, List.set_cons_succ])
                      refine wpAnyH_done (by kernel_rfl) ?_ _
                      clear hHeld
                      go_wp2
                      go_roundw
                      case rel =>
                        refine ⟨k + 1, by omega, by go_num, .slice av' (k + 1) cv', ?_⟩
                        obtain ⟨f1, f2, f3⟩ := HF.out
                        obtain ⟨hlen, h0, hM, hm⟩ := HH.out
                        have hs1 := HB1.out.size
                        have hs2 := HB2.out.size
                        have hs3 := HG3.out.size
                        refine ⟨hgE.out.1, hgE.out.2, HBd.out.trans (f2 _ hgE.out.1), ?_, f1, by have := HM.out; rw [HZ.out]; omega, ?_⟩
                        · refine (((HT.out.grow HB1.out).grow HB2.out).other fun j cs hg => ?_).other fun j cs hg => f3 j cs _ (by decide) hg
                          exact HG3.out.block j (Array.getElem?_eq_some_iff.1 hg).1 (own_apart hown2.out hg (by decide))
                        · rw [HZ.out]
                          have hst := sortsIn_step (w2 := w4) hlen h0 hM hm HR.out HB1.out HR1.out (own_keep HO3.out fun g cur hg => f3 g cur _ (by decide) hg) (fun g cs t ht hg => ?_) (by rw [HZ.out]; omega)
                          · rw [HZ.out] at hst; exact hst
                          · have e2 : w2.heap[g]? = w1.heap[g]? := HB2.out.block g (Array.getElem?_eq_some_iff.1 hg).1
                            have e3 : w3.heap[g]? = w2.heap[g]? := HG3.out.block g (Array.getElem?_eq_some_iff.1 (e2.trans hg)).1 (own_apart hown2.out (e2.trans hg) (by rcases ht with rfl | rfl <;> decide))
                            rw [f3 g cs t (by rcases ht with rfl | rfl <;> decide) ((e3.trans e2).trans hg), e3, e2]
                      case measure => simp [intOf]; omega
          · have y3 := (HBc.out.cell (p := ⟨b3, o3 + k, none⟩) hb3s).trans hq3
            go_simp
            refine hK.out _ _ trivial (fun hHeld => ?_)
            clear hK K
            (try simp only [List.getElem_toArray, List.getElem_cons_zero, List.getElem_cons_succ, Act.put, List.setIfInBounds_toArray, List.set_cons_zero, List.set_cons_succ])
            clear y3
            refine wpAnyH_ready (rs := [1, 8]) (by kernel_rfl) (by simp) ?_
            refine (AllReadyH.cons rfl (fun K hK => ?_) (AllReadyH.cons rfl (fun K hK => ?_) AllReadyH.nil))
            · have x2 := cell_blk HEc.out 2 rfl
              go_simp
              refine hK.out _ _ trivial (fun hHeld => ?_)
              clear hK K
              (try simp only [List.getElem_toArray, List.getElem_cons_zero, List.getElem_cons_succ, Act.put, List.setIfInBounds_toArray, List.set_cons_zero, List.set_cons_succ])
              clear x2
              refine wpAnyH_ready (rs := [8]) (by kernel_rfl) (by simp) ?_
              refine (AllReadyH.cons rfl (fun K hK => ?_) AllReadyH.nil)
              · rw [if_pos (by rfl)]
                go_simp
                go_at_call 17
                refine (copyFruits_any N _ ⟨B.nc k, B.ncc k, B.can k⟩ _ (HRk.out.mono (HBc.out.mono HN.out) (Nat.le_refl _)) (Nat.le_trans HN.out HBc.out.size) (hlim.out k hkn).1 (hlim.out k hkn).2).mono ?_
                rintro e w1 ⟨r1, rfl, hrows, hb⟩
                obtain ⟨ar1, cr1, rfl⟩ := hrows.form
                have HR1 := Lib.hid hrows
                have HB1 := Lib.hid hb
                replace HBc : Hid (Below ws.heap.size ws w1) := bel HBc.out hb
                replace HEc := Lib.hid (keep_blk hb HEc.out)
                have hown1 := Lib.hid (own_below HO.out hb)
                clear hrows hb
                refine hK.out _ _ trivial (fun hHeld => ?_)
                clear hK K
                (try simp only [List.getElem_toArray, List.getElem_cons_zero, List.getElem_cons_succ, Act.put, List.setIfInBounds_toArray, List.set_cons_zero, List.set_cons_succ])
                (refine wpAnyH_take (i := 9) (v := ?_) rfl (by kernel_rfl) (by kernel_rfl) (by kernel_rfl) (fun _ _ _ h => h) (Or.inl ⟨by rfl, ?_⟩) (by assumption) ?_; rotate_left; (focus (intro w hSw; (try dsimp only at hSw); go_simp; (try with_reducible rfl))); (try simp only [List.getElem_toArray, List.getElem_cons_zero, List.getElem_cons_succ, Act.put, List.setIfInBounds_toArray, List.set_cons_zero, List.set_cons_succ]))
                refine wpAnyH_ready (rs := [10]) (by kernel_rfl) (by simp) ?_
                refine (AllReadyH.cons rfl (fun K hK => ?_) AllReadyH.nil)
                · go_simp
                  obtain ⟨w2, hw2⟩ : ∃ w2 : World, w1.alloc (.cells #[.slice ar1 (B.nc k) cr1] 73) = w2 := ⟨_, rfl⟩
                  rw [hw2]
                  have hb : Below w1.heap.size w1 w2 := (by rw [← hw2]; exact below_alloc (Nat.le_refl _) _)
                  have HC2 : Hid (w2.heap[w1.heap.size]? = some (Obj.cells #[.slice ar1 (B.nc k) cr1] 73)) := (by rw [← hw2]; exact World.alloc_heap_new _ _)
                  replace HBc : Hid (Below ws.heap.size ws w2) := bel HBc.out hb
                  replace HEc := Lib.hid (keep_blk hb HEc.out)
                  have hown2 := Lib.hid (own_below hown1.out hb)
                  have HB2 := Lib.hid hb
                  clear hb hw2 hown1
                  refine hK.out _ _ trivial (fun hHeld => ?_)
                  clear hK K
                  (try simp only [List.getElem_toArray, List.getElem_cons_zero, List.getElem_cons_succ, Act.put, List.setIfInBounds_toArray, List.set_cons_zero, List.set_cons_succ])
                  refine wpAnyH_ready (rs := [11]) (by kernel_rfl) (by simp) ?_
                  refine (AllReadyH.cons rfl (fun K hK => ?_) AllReadyH.nil)
                  · rw [if_pos (by rfl)]
                    refine wp_append_own _ (.tmp 24) (.tmp 33) 23 ?_ mS 73 i1 (.agg #[.slice none 0 0]) 1 24 Try.underlying23 hi hz0 hz1 hz2 rfl (by decide) _ _ _ ?_ hown2.out ⟨w1.heap.size, 0, none⟩ 1 1 [.slice ar1 (B.nc k) cr1] ?_ rfl (fun j u hj => by rw [addr_add, Nat.zero_add]; exact cell_blk HC2.out j (by simpa using hj)) (by simp [Value.oneCell']) (by have := hns.out; unfold maxLen; omega) (by have := hns.out; omega) (by have := HM.out; have := HB1.out.size; have := HB2.out.size; omega) ?_
                    any_goals (exact rfl)
                    intro v' w3 hown3 hgrow _
                    obtain ⟨av', cv', rfl⟩ := own_form hown3
                    have HO3 := Lib.hid hown3
                    have HG3 := Lib.hid hgrow
                    have HBd : Hid (Below ws.heap.size ws w3) := HBc.out.grown hgrow HBc.out.size (fun j e => by have := (hown2.out.lt j e).1; have := HM.out; have := HmS.out; omega)
                    have HE3 : Hid (w3.heap[gE]? = some (Obj.cells #[v8, v12, vS, .int .i64 B.wr] 25)) := (hgrow.block gE (Array.getElem?_eq_some_iff.1 HEc.out).1 (own_apart hown2.out HEc.out (by decide))).trans HEc.out
                    clear hown3 hgrow
                    refine hK.out _ _ trivial (fun hHeld => ?_)
                    clear hK K
                    (try simp only [List.getElem_toArray, List.getElem_cons_zero, List.getElem_cons_succ, Act.put, List.setIfInBounds_toArray, List.set_cons_zero, List.set_cons_succ])
                    (refine wpAnyH_take (i := 12) (v := ?_) rfl (by kernel_rfl) (by kernel_rfl) (by kernel_rfl) (fun _ _ _ h => h) (Or.inl ⟨by rfl, ?_⟩) (by assumption) ?_; rotate_left; (focus (intro w hSw; (try dsimp only at hSw); go_simp; (try with_reducible rfl))); (try simp only [List.getElem_toArray, List.getElem_cons_zero, List.getElem_cons_succ, Act.put, List.setIfInBounds_toArray, List.set_cons_zero, List.set_cons_succ]))
                    refine wpAnyH_ready (rs := [13]) (by kernel_rfl) (by simp) ?_
                    refine (AllReadyH.cons rfl (fun K hK => ?_) AllReadyH.nil)
                    · have z2 := cell_blk HE3.out 2 rfl
                      have y := frozen_blk HE3.out
                      go_simp
                      clear z2 y
                      obtain ⟨w4, hw4⟩ : ∃ w4 : World, w3.setCell ⟨gE, 2, none⟩ (.slice av' (k + 1) cv') = w4 := ⟨_, rfl⟩
                      rw [hw4]
                      have HF := Lib.hid (store_one HE3.out 2 (.slice av' (k + 1) cv'))
                      rw [hw4] at HF
                      have HZ : Hid (w4.heap.size = w3.heap.size) := Lib.hid (by rw [← hw4]; simp [World.setCell])
                      clear hw4
                      refine hK.out _ _ trivial (fun hHeld => ?_)
                      clear hK K
                      (try simp only [List.getElem_toArray, List.getElem_cons_zero, List.getElem_cons_succ, Act.put, List.setIfInBounds_toArray, List.set_cons_zero, List.set_cons_succ])
                      refine wpAnyH_done (by kernel_rfl) ?_ _
                      clear hHeld
                      go_wp2
                      go_roundw
                      case rel =>
                        refine ⟨k + 1, by omega, by go_num, .slice av' (k + 1) cv', ?_⟩
                        obtain ⟨f1, f2, f3⟩ := HF.out
                        obtain ⟨hlen, h0, hM, hm⟩ := HH.out
                        have hs1 := HB1.out.size
                        have hs2 := HB2.out.size
                        have hs3 := HG3.out.size
                        refine ⟨hgE.out.1, hgE.out.2, HBd.out.trans (f2 _ hgE.out.1), ?_, f1, by have := HM.out; rw [HZ.out]; omega, ?_⟩
                        · refine (((HT.out.grow HB1.out).grow HB2.out).other fun j cs hg => ?_).other fun j cs hg => f3 j cs _ (by decide) hg
                          exact HG3.out.block j (Array.getElem?_eq_some_iff.1 hg).1 (own_apart hown2.out hg (by decide))
                        · rw [HZ.out]
                          have hst := sortsIn_step (w2 := w4) hlen h0 hM hm HR.out HB1.out HR1.out (own_keep HO3.out fun g cur hg => f3 g cur _ (by decide) hg) (fun g cs t ht hg => ?_) (by rw [HZ.out]; omega)
                          · rw [HZ.out] at hst; exact hst
                          · have e2 : w2.heap[g]? = w1.heap[g]? := HB2.out.block g (Array.getElem?_eq_some_iff.1 hg).1
                            have e3 : w3.heap[g]? = w2.heap[g]? := HG3.out.block g (Array.getElem?_eq_some_iff.1 (e2.trans hg)).1 (own_apart hown2.out (e2.trans hg) (by rcases ht with rfl | rfl <;> decide))
                            rw [f3 g cs t (by rcases ht with rfl | rfl <;> decide) ((e3.trans e2).trans hg), e3, e2]
                      case measure => simp [intOf]; omega
            · rw [if_pos (by rfl)]
              go_simp
              go_at_call 17
              refine (copyFruits_any N _ ⟨B.nc k, B.ncc k, B.can k⟩ _ (HRk.out.mono (HBc.out.mono HN.out) (Nat.le_refl _)) (Nat.le_trans HN.out HBc.out.size) (hlim.out k hkn).1 (hlim.out k hkn).2).mono ?_
              rintro e w1 ⟨r1, rfl, hrows, hb⟩
              obtain ⟨ar1, cr1, rfl⟩ := hrows.form
              have HR1 := Lib.hid hrows
              have HB1 := Lib.hid hb
              replace HBc : Hid (Below ws.heap.size ws w1) := bel HBc.out hb
              replace HEc := Lib.hid (keep_blk hb HEc.out)
              have hown1 := Lib.hid (own_below HO.out hb)
              clear hrows hb
              refine hK.out _ _ trivial (fun hHeld => ?_)
              clear hK K
              (try simp only [List.getElem_toArray, List.getElem_cons_zero, List.getElem_cons_succ, Act.put, List.setIfInBounds_toArray, List.set_cons_zero, List.set_cons_succ])
              (refine wpAnyH_take (i := 9) (v := ?_) rfl (by kernel_rfl) (by kernel_rfl) (by kernel_rfl) (fun _ _ _ h => h) (Or.inl ⟨by rfl, ?_⟩) (by assumption) ?_; rotate_left; (focus (intro w hSw; (try dsimp only at hSw); go_simp; (try with_reducible rfl))); (try simp only [List.getElem_toArray, List.getElem_cons_zero, List.getElem_cons_succ, Act.put, List.setIfInBounds_toArray, List.set_cons_zero, List.set_cons_succ]))
              refine wpAnyH_ready (rs := [1, 10]) (by kernel_rfl) (by simp) ?_
              refine (AllReadyH.cons rfl (fun K hK => ?_) (AllReadyH.cons rfl (fun K hK => ?_) AllReadyH.nil))
              · have x2 := cell_blk HEc.out 2 rfl
                go_simp
                refine hK.out _ _ trivial (fun hHeld => ?_)
                clear hK K
                (try simp only [List.getElem_toArray, List.getElem_cons_zero, List.getElem_cons_succ, Act.put, List.setIfInBounds_toArray, List.set_cons_zero, List.set_cons_succ])
                clear x2
                refine wpAnyH_ready (rs := [10]) (by kernel_rfl) (by simp) ?_
                refine (AllReadyH.cons rfl (fun K hK => ?_) AllReadyH.nil)
                · go_simp
                  obtain ⟨w2, hw2⟩ : ∃ w2 : World, w1.alloc (.cells #[.slice ar1 (B.nc k) cr1] 73) = w2 := ⟨_, rfl⟩
                  rw [hw2]
                  have hb : Below w1.heap.size w1 w2 := (by rw [← hw2]; exact below_alloc (Nat.le_refl _) _)
                  have HC2 : Hid (w2.heap[w1.heap.size]? = some (Obj.cells #[.slice ar1 (B.nc k) cr1] 73)) := (by rw [← hw2]; exact World.alloc_heap_new _ _)
                  replace HBc : Hid (Below ws.heap.size ws w2) := bel HBc.out hb
                  replace HEc := Lib.hid (keep_blk hb HEc.out)
                  have hown2 := Lib.hid (own_below hown1.out hb)
                  have HB2 := Lib.hid hb
                  clear hb hw2 hown1
                  refine hK.out _ _ trivial (fun hHeld => ?_)
                  clear hK K
                  (try simp only [List.getElem_toArray, List.getElem_cons_zero, List.getElem_cons_succ, Act.put, List.setIfInBounds_toArray, List.set_cons_zero, List.set_cons_succ])
                  refine wpAnyH_ready (rs := [11]) (by kernel_rfl) (by simp) ?_
                  refine (AllReadyH.cons rfl (fun K hK => ?_) AllReadyH.nil)
                  · rw [if_pos (by rfl)]
                    refine wp_append_own _ (.tmp 24) (.tmp 33) 23 ?_ mS 73 i1 (.agg #[.slice none 0 0]) 1 24 Try.underlying23 hi hz0 hz1 hz2 rfl (by decide) _ _ _ ?_ hown2.out ⟨w1.heap.size, 0, none⟩ 1 1 [.slice ar1 (B.nc k) cr1] ?_ rfl (fun j u hj => by rw [addr_add, Nat.zero_add]; exact cell_blk HC2.out j (by simpa using hj)) (by simp [Value.oneCell']) (by have := hns.out; unfold maxLen; omega) (by have := hns.out; omega) (by have := HM.out; have := HB1.out.size; have := HB2.out.size; omega) ?_
                    any_goals (exact rfl)
                    intro v' w3 hown3 hgrow _
                    obtain ⟨av', cv', rfl⟩ := own_form hown3
                    have HO3 := Lib.hid hown3
                    have HG3 := Lib.hid hgrow
                    have HBd : Hid (Below ws.heap.size ws w3) := HBc.out.grown hgrow HBc.out.size (fun j e => by have := (hown2.out.lt j e).1; have := HM.out; have := HmS.out; omega)
                    have HE3 : Hid (w3.heap[gE]? = some (Obj.cells #[v8, v12, vS, .int .i64 B.wr] 25)) := (hgrow.block gE (Array.getElem?_eq_some_iff.1 HEc.out).1 (own_apart hown2.out HEc.out (by decide))).trans HEc.out
                    clear hown3 hgrow
                    refine hK.out _ _ trivial (fun hHeld => ?_)
                    clear hK K
                    (try simp only [List.getElem_toArray, List.getElem_cons_zero, List.getElem_cons_succ, Act.put, List.setIfInBounds_toArray, List.set_cons_zero, List.set_cons_succ])
                    (refine wpAnyH_take (i := 12) (v := ?_) rfl (by kernel_rfl) (by kernel_rfl) (by kernel_rfl) (fun _ _ _ h => h) (Or.inl ⟨by rfl, ?_⟩) (by assumption) ?_; rotate_left; (focus (intro w hSw; (try dsimp only at hSw); go_simp; (try with_reducible rfl))); (try simp only [List.getElem_toArray, List.getElem_cons_zero, List.getElem_cons_succ, Act.put, List.setIfInBounds_toArray, List.set_cons_zero, List.set_cons_succ]))
                    refine wpAnyH_ready (rs := [13]) (by kernel_rfl) (by simp) ?_
                    refine (AllReadyH.cons rfl (fun K hK => ?_) AllReadyH.nil)
                    · have z2 := cell_blk HE3.out 2 rfl
                      have y := frozen_blk HE3.out
                      go_simp
                      clear z2 y
                      obtain ⟨w4, hw4⟩ : ∃ w4 : World, w3.setCell ⟨gE, 2, none⟩ (.slice av' (k + 1) cv') = w4 := ⟨_, rfl⟩
                      rw [hw4]
                      have HF := Lib.hid (store_one HE3.out 2 (.slice av' (k + 1) cv'))
                      rw [hw4] at HF
                      have HZ : Hid (w4.heap.size = w3.heap.size) := Lib.hid (by rw [← hw4]; simp [World.setCell])
                      clear hw4
                      refine hK.out _ _ trivial (fun hHeld => ?_)
                      clear hK K
                      (try simp only [List.getElem_toArray, List.getElem_cons_zero, List.getElem_cons_succ, Act.put, List.setIfInBounds_toArray, List.set_cons_zero, List.set_cons_succ])
                      refine wpAnyH_done (by kernel_rfl) ?_ _
                      clear hHeld
                      go_wp2
                      go_roundw
                      case rel =>
                        refine ⟨k + 1, by omega, by go_num, .slice av' (k + 1) cv', ?_⟩
                        obtain ⟨f1, f2, f3⟩ := HF.out
                        obtain ⟨hlen, h0, hM, hm⟩ := HH.out
                        have hs1 := HB1.out.size
                        have hs2 := HB2.out.size
                        have hs3 := HG3.out.size
                        refine ⟨hgE.out.1, hgE.out.2, HBd.out.trans (f2 _ hgE.out.1), ?_, f1, by have := HM.out; rw [HZ.out]; omega, ?_⟩
                        · refine (((HT.out.grow HB1.out).grow HB2.out).other fun j cs hg => ?_).other fun j cs hg => f3 j cs _ (by decide) hg
                          exact HG3.out.block j (Array.getElem?_eq_some_iff.1 hg).1 (own_apart hown2.out hg (by decide))
                        · rw [HZ.out]
                          have hst := sortsIn_step (w2 := w4) hlen h0 hM hm HR.out HB1.out HR1.out (own_keep HO3.out fun g cur hg => f3 g cur _ (by decide) hg) (fun g cs t ht hg => ?_) (by rw [HZ.out]; omega)
                          · rw [HZ.out] at hst; exact hst
                          · have e2 : w2.heap[g]? = w1.heap[g]? := HB2.out.block g (Array.getElem?_eq_some_iff.1 hg).1
                            have e3 : w3.heap[g]? = w2.heap[g]? := HG3.out.block g (Array.getElem?_eq_some_iff.1 (e2.trans hg)).1 (own_apart hown2.out (e2.trans hg) (by rcases ht with rfl | rfl <;> decide))
                            rw [f3 g cs t (by rcases ht with rfl | rfl <;> decide) ((e3.trans e2).trans hg), e3, e2]
                      case measure => simp [intOf]; omega
              · go_simp
                obtain ⟨w2, hw2⟩ : ∃ w2 : World, w1.alloc (.cells #[.slice ar1 (B.nc k) cr1] 73) = w2 := ⟨_, rfl⟩
                rw [hw2]
                have hb : Below w1.heap.size w1 w2 := (by rw [← hw2]; exact below_alloc (Nat.le_refl _) _)
                have HC2 : Hid (w2.heap[w1.heap.size]? = some (Obj.cells #[.slice ar1 (B.nc k) cr1] 73)) := (by rw [← hw2]; exact World.alloc_heap_new _ _)
                replace HBc : Hid (Below ws.heap.size ws w2) := bel HBc.out hb
                replace HEc := Lib.hid (keep_blk hb HEc.out)
                have hown2 := Lib.hid (own_below hown1.out hb)
                have HB2 := Lib.hid hb
                clear hb hw2 hown1
                refine hK.out _ _ trivial (fun hHeld => ?_)
                clear hK K
                (try simp only [List.getElem_toArray, List.getElem_cons_zero, List.getElem_cons_succ, Act.put, List.setIfInBounds_toArray, List.set_cons_zero, List.set_cons_succ])
                refine wpAnyH_ready (rs := [1]) (by kernel_rfl) (by simp) ?_
                refine (AllReadyH.cons rfl (fun K hK => ?_) AllReadyH.nil)
                · have x2 := cell_blk HEc.out 2 rfl
                  go_simp
                  refine hK.out _ _ trivial (fun hHeld => ?_)
                  clear hK K
                  (try simp only [List.getElem_toArray, List.getElem_cons_zero, List.getElem_cons_succ, Act.put, List.setIfInBounds_toArray, List.set_cons_zero, List.set_cons_succ])
                  clear x2
                  refine wpAnyH_ready (rs := [11]) (by kernel_rfl) (by simp) ?_
                  refine (AllReadyH.cons rfl (fun K hK => ?_) AllReadyH.nil)
                  · rw [if_pos (by rfl)]
                    refine wp_append_own _ (.tmp 24) (.tmp 33) 23 ?_ mS 73 i1 (.agg #[.slice none 0 0]) 1 24 Try.underlying23 hi hz0 hz1 hz2 rfl (by decide) _ _ _ ?_ hown2.out ⟨w1.heap.size, 0, none⟩ 1 1 [.slice ar1 (B.nc k) cr1] ?_ rfl (fun j u hj => by rw [addr_add, Nat.zero_add]; exact cell_blk HC2.out j (by simpa using hj)) (by simp [Value.oneCell']) (by have := hns.out; unfold maxLen; omega) (by have := hns.out; omega) (by have := HM.out; have := HB1.out.size; have := HB2.out.size; omega) ?_
                    any_goals (exact rfl)
                    intro v' w3 hown3 hgrow _
                    obtain ⟨av', cv', rfl⟩ := own_form hown3
                    have HO3 := Lib.hid hown3
                    have HG3 := Lib.hid hgrow
                    have HBd : Hid (Below ws.heap.size ws w3) := HBc.out.grown hgrow HBc.out.size (fun j e => by have := (hown2.out.lt j e).1; have := HM.out; have := HmS.out; omega)
                    have HE3 : Hid (w3.heap[gE]? = some (Obj.cells #[v8, v12, vS, .int .i64 B.wr] 25)) := (hgrow.block gE (Array.getElem?_eq_some_iff.1 HEc.out).1 (own_apart hown2.out HEc.out (by decide))).trans HEc.out
                    clear hown3 hgrow
                    refine hK.out _ _ trivial (fun hHeld => ?_)
                    clear hK K
                    (try simp only [List.getElem_toArray, List.getElem_cons_zero, List.getElem_cons_succ, Act.put, List.setIfInBounds_toArray, List.set_cons_zero, List.set_cons_succ])
                    (refine wpAnyH_take (i := 12) (v := ?_) rfl (by kernel_rfl) (by kernel_rfl) (by kernel_rfl) (fun _ _ _ h => h) (Or.inl ⟨by rfl, ?_⟩) (by assumption) ?_; rotate_left; (focus (intro w hSw; (try dsimp only at hSw); go_simp; (try with_reducible rfl))); (try simp only [List.getElem_toArray, List.getElem_cons_zero, List.getElem_cons_succ, Act.put, List.setIfInBounds_toArray, List.set_cons_zero, List.set_cons_succ]))
                    refine wpAnyH_ready (rs := [13]) (by kernel_rfl) (by simp) ?_
                    refine (AllReadyH.cons rfl (fun K hK => ?_) AllReadyH.nil)
                    · have z2 := cell_blk HE3.out 2 rfl
                      have y := frozen_blk HE3.out
                      go_simp
                      clear z2 y
                      obtain ⟨w4, hw4⟩ : ∃ w4 : World, w3.setCell ⟨gE, 2, none⟩ (.slice av' (k + 1) cv') = w4 := ⟨_, rfl⟩
                      rw [hw4]
                      have HF := Lib.hid (store_one HE3.out 2 (.slice av' (k + 1) cv'))
                      rw [hw4] at HF
                      have HZ : Hid (w4.heap.size = w3.heap.size) := Lib.hid (by rw [← hw4]; simp [World.setCell])
                      clear hw4
                      refine hK.out _ _ trivial (fun hHeld => ?_)
                      clear hK K
                      (try simp only [List.getElem_toArray, List.getElem_cons_zero, List.getElem_cons_succ, Act.put, List.setIfInBounds_toArray, List.set_cons_zero, List.set_cons_succ])
                      refine wpAnyH_done (by kernel_rfl) ?_ _
                      clear hHeld
                      go_wp2
                      go_roundw
                      case rel =>
                        refine ⟨k + 1, by omega, by go_num, .slice av' (k + 1) cv', ?_⟩
                        obtain ⟨f1, f2, f3⟩ := HF.out
                        obtain ⟨hlen, h0, hM, hm⟩ := HH.out
                        have hs1 := HB1.out.size
                        have hs2 := HB2.out.size
                        have hs3 := HG3.out.size
                        refine ⟨hgE.out.1, hgE.out.2, HBd.out.trans (f2 _ hgE.out.1), ?_, f1, by have := HM.out; rw [HZ.out]; omega, ?_⟩
                        · refine (((HT.out.grow HB1.out).grow HB2.out).other fun j cs hg => ?_).other fun j cs hg => f3 j cs _ (by decide) hg
                          exact HG3.out.block j (Array.getElem?_eq_some_iff.1 hg).1 (own_apart hown2.out hg (by decide))
                        · rw [HZ.out]
                          have hst := sortsIn_step (w2 := w4) hlen h0 hM hm HR.out HB1.out HR1.out (own_keep HO3.out fun g cur hg => f3 g cur _ (by decide) hg) (fun g cs t ht hg => ?_) (by rw [HZ.out]; omega)
                          · rw [HZ.out] at hst; exact hst
                          · have e2 : w2.heap[g]? = w1.heap[g]? := HB2.out.block g (Array.getElem?_eq_some_iff.1 hg).1
                            have e3 : w3.heap[g]? = w2.heap[g]? := HG3.out.block g (Array.getElem?_eq_some_iff.1 (e2.trans hg)).1 (own_apart hown2.out (e2.trans hg) (by rcases ht with rfl | rfl <;> decide))
                            rw [f3 g cs t (by rcases ht with rfl | rfl <;> decide) ((e3.trans e2).trans hg), e3, e2]
                      case measure => simp [intOf]; omega
      · obtain rfl : k = B.ns := by omega
        obtain ⟨hg1, hg2, _, HT0, hE0, hM0, hS0⟩ := hrun.out
        obtain ⟨g8, p8, rfl⟩ := HT0.form1
        obtain ⟨g12, p12, rfl⟩ := HT0.form2
        obtain ⟨av, cv, rfl⟩ := hS0.form
        obtain ⟨gR, hgR⟩ : ∃ g, w.heap.size + 1 = g := ⟨_, rfl⟩
        have hR0 : wr.heap[w.heap.size + 1]? = some (Obj.cells #[.slice none 0 0, .slice none 0 0, .slice none 0 0, .int .i64 0] 25) := (hB.block _ hsz1).trans HR1.out
        have hR := hR0
        rw [hgR] at hR ⊢
        have HGR := Lib.hid hgR
        have z0 := cell_blk hE0 0 rfl
        have z1 := cell_blk hE0 1 rfl
        have z2 := cell_blk hE0 2 rfl
        have z3 := cell_blk hE0 3 rfl
        have y0 := cell_blk hR 0 rfl
        have y1 := cell_blk hR 1 rfl
        have y2 := cell_blk hR 2 rfl
        have y3 := cell_blk hR 3 rfl
        have yf := frozen_blk hR
        have HF := Lib.hid (store_four hR (.slice (some ⟨g8, 0, none⟩) B.nv p8) (.slice (some ⟨g12, 0, none⟩) B.nf p12) (.slice av B.ns cv) (.int .i64 B.wr))
        have HRUN := Lib.hid hrun.out
        have HB1 := Lib.hid hB
        clear hR hR0 hgR hE0 hg1 hg2 HT0 hM0 hS0 hrun hB
        go_wp2
        obtain ⟨f1, f2, f3⟩ := HF.out
        obtain ⟨w5, hw5⟩ : ∃ w5 : World, ((((wr.setCell ⟨gR, 0, none⟩ (.slice (some ⟨g8, 0, none⟩) B.nv p8)).setCell ⟨gR, 1, none⟩ (.slice (some ⟨g12, 0, none⟩) B.nf p12)).setCell ⟨gR, 2, none⟩ (.slice av B.ns cv)).setCell ⟨gR, 3, none⟩ (.int .i64 B.wr)) = w5 := ⟨_, rfl⟩
        have hsz5 : w5.heap.size = wr.heap.size := by rw [← hw5]; simp [World.setCell]
        rw [hw5] at f1 f2 f3 ⊢
        have x0 := cell_blk f1 0 rfl
        have x1 := cell_blk f1 1 rfl
        have x2 := cell_blk f1 2 rfl
        have x3 := cell_blk f1 3 rfl
        obtain ⟨hg1, hg2, hB, HT, _, hM, hS⟩ := HRUN.out
        refine bodyPost_ret (v := .agg #[.slice (some ⟨g8, 0, none⟩) B.nv p8, .slice (some ⟨g12, 0, none⟩) B.nf p12, .slice av B.ns cv, .int .i64 B.wr]) (by simp [results, Try.results16, go_sem, x0, x1, x2, x3]) rfl ⟨_, rfl, ⟨_, _, _, mS, rfl, ?_, ?_⟩, ?_⟩
        · exact (HT.other fun j cs hg => f3 j cs _ (by decide) hg).lower HB.out.size
        · rw [hsz5]
          exact hS.keep fun j cs t _ _ ht hg => f3 j cs t (by rcases ht with rfl | rfl | rfl <;> decide) hg
        · exact (fin HB.out hB).trans (f2 _ (by have := HGR.out; omega))

end Go.Proofs.Ytopajgnemeodeaa
