/-
  Mk2: place of the maker, for every set; the node of a small set; how many nodes come.
-/
import Derived.Test.YtghimbggbgcgkaaMk1
namespace Go.Proofs.Ytghimbggbgcgkaa
open Go.RowKit Go.Maps

theorem place_says (B : KB) (bk b pb Mb N base f : Nat) (hN : SaysN B bk b pb Mb N base f) : SaysP B bk b pb Mb N base f := by
  intro s n w v l rows ss hs hsf h h40 hn
  obtain ⟨D, d1, d2, d3⟩ := h.rest.places
  cases hh : has D (setKey s) with
  | true =>
    obtain ⟨i, h1, h2⟩ := d2 s hs.lt hh
    refine (place_hit B bk b pb Mb N base s n w v l rows ss hs h D d1 i hh h1 h2).mono ?_
    rintro e w' ⟨rfl, rfl⟩
    refine ⟨i, n, v, [], [], [], rfl, ?_⟩
    exact {
      st := by simpa using h
      cnt := by simp
      newer := Newer.refl _ _
      here := by simpa using h1
      few := by simp
      fresh := fun r g hr => by cases hr
      frame := Frm.refl _ _ _ _ _
      top := fun e => by rw [e] at h1; cases h1 }
  | false => exact place_miss B bk b pb Mb N base f hN s n w v l rows ss hs hsf h h40 hn D d1 hh

theorem node_result (tmps : Array Value) (W : World) (rc : Nat) (x y z : Value) (ht : tmps[4]? = some (.pointer (some ⟨rc, 0, none⟩))) (h0 : W.cell? ⟨rc, 0, none⟩ = some x) (h1 : W.cell? ⟨rc, 1, none⟩ = some y) (h2 : W.cell? ⟨rc, 2, none⟩ = some z) : (results Try.f145 tmps).run Try.prog W = .ok (.agg #[x, y, z]) W := by
  simp [results, Try.results145, go_sem, ht, h0, h1, h2]

set_option maxRecDepth 100000 in
set_option maxHeartbeats 3200000 in
theorem node_small (B : KB) (bk b pb Mb N base s n : Nat) (w : World) (v : Value) (l : List NR) (rows : List Value) (ss : List Nat) (hs : SetOk B s) (h1 : (mems s).length ≤ 1) (h : St B bk b pb Mb N base n w v l rows ss) :
    Calls Try.prog 145 #[.pointer (some ⟨Mb, 0, none⟩), .int .u64 s] w fun e w' => ∃ (r : NR) (row : Value) (n' : Nat) (v' : Value) (l' : List NR) (rows' : List Value) (ss' : List Nat), e = .returned (.agg #[.int .i64 r.ma, .int .i64 r.so, row]) ∧ AftN B bk b pb Mb N base s n w w' v l rows ss r row n' v' l' rows' ss' := by
  have HD := Lib.hid (done_any s hs.lt)
  have hdd : decide ((mems s).length ≤ 1) = true := decide_eq_true h1
  have HE := Lib.hid (endOfK_any s hs.lt)
  have HST := Lib.hid h
  have H1 := Lib.hid h1
  have m1 : w.cell? ⟨Mb, 1, none⟩ = some (.func (.func 119) #[] #[]) := cell_blk h.box 1 rfl
  have hMb : Mb < w.heap.size := heap_lt h.box
  obtain ⟨ws, hws, HB, hsz, hblk⟩ := box1 w (.cells #[.int .i64 0, .int .i64 0, .slice none 0 0] 41)
  have m1s := (HB.out.cell (p := ⟨Mb, 1, none⟩) hMb).trans m1
  have HK := Lib.hid hblk
  have HWS := Lib.hid hws
  clear h h1 hws hblk m1s
  go_enter Try.func145, Try.ntmps145
  go_wp2_with (first
    | (go_at_call 119; (try rw [HWS.out]); refine (HD.out _).mono ?_; rw [hdd]; rintro e wq ⟨rfl, hwq⟩; rw [hwq]; clear hwq wq)
    | (go_at_call 158; (try rw [HWS.out]); refine (HE.out _).mono ?_; rintro e w2 ⟨rfl, hb2⟩; have HB2 := Lib.hid hb2; have hk2 := (hb2.block w.heap.size hsz).trans HK.out; have d0 := cell_blk hk2 0 rfl; have d1 := cell_blk hk2 1 rfl; have d2 := cell_blk hk2 2 rfl; have fd := frozen_blk hk2; have HK2 := Lib.hid hk2; clear hk2 hb2))
  have hh := three_st (x := .int .i64 (-1)) (y := .int .i64 (endSort s)) (z := .slice none 0 0) HK2.out
  have hbw : Below w.heap.size w (((w2.setCell ⟨w.heap.size, 0, none⟩ (.int .i64 (-1))).setCell ⟨w.heap.size, 1, none⟩ (.int .i64 (endSort s))).setCell ⟨w.heap.size, 2, none⟩ (.slice none 0 0)) :=
    (((fin HB.out HB2.out).setCell (p := ⟨w.heap.size, 0, none⟩) (Nat.le_refl _) _).setCell (p := ⟨w.heap.size, 1, none⟩) (Nat.le_refl _) _).setCell (p := ⟨w.heap.size, 2, none⟩) (Nat.le_refl _) _
  refine bodyPost_ret (node_result _ _ w.heap.size _ _ _ rfl (cell_blk hh 0 rfl) (cell_blk hh 1 rfl) (cell_blk hh 2 rfl)) rfl ⟨⟨-1, endSort s, []⟩, .slice none 0 0, n, v, [], [], [], rfl, ?_⟩
  exact {
    st := by simpa using HST.out.below hbw
    cnt := by simp
    newer := Newer.refl _ _
    few := by unfold cB; simp only [List.length_nil]; split <;> omega
    fresh := fun r g hr => by cases hr
    frame := Frm.of_below hbw
    own := own_nil _ _
    alone := fun u g hu => by cases hu
    ok := .inl ⟨H1.out, rfl, rfl, rfl⟩ }

/-- so many nodes come for the first y parts -/
def sumB (B : KB) (s m : Nat) : Nat → Nat
  | 0 => 0
  | y + 1 => sumB B s m y + cB (mems (partF B s m y)).length
theorem sumB_mono (B : KB) (s m : Nat) {a c : Nat} (h : a ≤ c) : sumB B s m a ≤ sumB B s m c := by
  induction c with
  | zero => have : a = 0 := by omega
            subst this; exact Nat.le_refl _
  | succ c ih =>
    by_cases e : a = c + 1
    · subst e; exact Nat.le_refl _
    · exact Nat.le_trans (ih (by omega)) (by simp only [sumB]; omega)
theorem hav2 {B : KB} {m : Nat} : ∀ (g : List Nat), (∀ i, i ∈ g → 0 ≤ B.X i m ∧ B.X i m < 2) → (havL B g m 0).length + (havL B g m 1).length = g.length := by
  intro g
  induction g with
  | nil => intro _; rfl
  | cons a g ih =>
    intro h
    have h1 := ih fun i hi => h i (by simp [hi])
    have h2 := h a (by simp)
    unfold havL at h1 ⊢
    have : B.X a m = 0 ∨ B.X a m = 1 := by omega
    rcases this with e | e <;> simp [e] <;> omega
theorem hav3 {B : KB} {m : Nat} : ∀ (g : List Nat), (∀ i, i ∈ g → 0 ≤ B.X i m ∧ B.X i m < 3) → (havL B g m 0).length + (havL B g m 1).length + (havL B g m 2).length = g.length := by
  intro g
  induction g with
  | nil => intro _; rfl
  | cons a g ih =>
    intro h
    have h1 := ih fun i hi => h i (by simp [hi])
    have h2 := h a (by simp)
    unfold havL at h1 ⊢
    have : B.X a m = 0 ∨ B.X a m = 1 ∨ B.X a m = 2 := by omega
    rcases this with e | e | e <;> simp [e] <;> omega
theorem sumB_le {B : KB} (hG : GoodB B) {s m : Nat} (hs : SetOk B s) (hm : m < B.nv) (h1 : ¬ (mems s).length ≤ 1) (hsp : splitL B (mems s) m = true) : sumB B s m (B.V m).toNat + 1 ≤ cB (mems s).length := by
  have hV := hG.V m hm
  have hX : ∀ i, i ∈ mems s → 0 ≤ B.X i m ∧ B.X i m < B.V m := fun i hi => (hG.X i (hs.mem i hi)).x m hm
  have hne : mems s ≠ [] := by intro e; rw [e] at h1; simp at h1
  have e2 : (B.V m).toNat = 2 ∨ (B.V m).toNat = 3 := by omega
  rcases e2 with e | e
  · have h2 := hav2 (B := B) (m := m) (mems s) (fun i hi => by have := hX i hi; omega)
    have a0 := havL_lt hne hsp 0
    have a1 := havL_lt hne hsp 1
    have e3 : sumB B s m 2 = 0 + cB (mems (partF B s m 0)).length + cB (mems (partF B s m 1)).length := rfl
    rw [e, e3, mems_part, mems_part]
    unfold cB
    split <;> split <;> split <;> omega
  · have h2 := hav3 (B := B) (m := m) (mems s) (fun i hi => by have := hX i hi; omega)
    have a0 := havL_lt hne hsp 0
    have a1 := havL_lt hne hsp 1
    have a2 := havL_lt hne hsp 2
    have e3 : sumB B s m 3 = 0 + cB (mems (partF B s m 0)).length + cB (mems (partF B s m 1)).length + cB (mems (partF B s m 2)).length := rfl
    rw [e, e3, mems_part, mems_part, mems_part]
    unfold cB
    split <;> split <;> split <;> split <;> omega

end Go.Proofs.Ytghimbggbgcgkaa
