/-
  RGifts: all gifts that fit, as the reference lists them.
-/
import Derived.Test.YtnnngbnimmcjiaaCopy
namespace Go.Proofs.Ytnnngbnimmcjiaa
open Go.RowKit

def numsV (g : List Nat) : List Value := g.map fun i => Value.int .i64 (i : Nat)

theorem wp_cloneU (w : World) {o : Oper} {a : Act} {K : Act → World → Prop} {Q : Exit → Act → World → Prop} (s x : Operand)
    (ho : o.op = .call { callee := .builtin .append, args := #[s, x], argTypes := #[22, 22] }) (hty : o.type = 22)
    (base g0 lo : Nat) (u : Value) (g : List Nat) (hs : a.eval s = .slice (some ⟨g0, 0, none⟩) 0 0) (hown : w.ownsRow base 3 1 (.slice (some ⟨g0, 0, none⟩) 0 0) 0 []) (hx : a.eval x = u) (hb : base ≤ w.heap.size)
    (hu : GU lo w u g) (h40 : g.length ≤ 1000)
    (h : ∀ v' w', w'.ownsRow base 3 1 v' g.length (numsV g) → Below w.heap.size w w' → K (a.put o.dst v') w') : o.wp Try.prog a w K Q := by
  obtain ⟨i0, hi0, hz0, hz1, hz2⟩ := info_parts Try.infoInt
  rcases hu with ⟨rfl, rfl⟩ | ⟨h0, b, cap, cur, rfl, h2, h3, h4, h5⟩
  · have hz := append_zero (ty := 22) w Try.underlying22 hi0 ⟨g0, 0, none⟩ none 0
    unfold Oper.wp
    simp [execOp, ho, resolve, invoke, builtin, hs, hx, hty, hz, Result.andThen]
    exact h _ _ hown (Below.refl _ _)
  · refine wp_append_grows w s x 22 ho 3 i0 (.int .i64 0) 1 8 Try.underlying22 hi0 hz0 hz1 hz2 rfl (by decide) ⟨g0, 0, none⟩ 0 0 [] hs rfl (fun j u hj => by simp at hj) ⟨b, 0, none⟩ g.length cap (numsV g) hx (by simp [numsV]) (fun j u hj => ?_) (fun u hu => ?_) ?_ (by unfold maxLen; omega) (by omega) fun v' w' r1 r2 => h v' w' ?_ ?_
    · have hj2 : j < g.length := by
        have := (List.getElem?_eq_some_iff.1 hj).1
        simpa [numsV] using this
      have e : (⟨b, 0, none⟩ : Addr).add j = ⟨b, 0 + j, none⟩ := by unfold Addr.add; split <;> simp_all
      rw [e, Nat.zero_add]
      have h6 := cell_blk h4 j (h5 j hj2)
      rw [h6]
      unfold numsV at hj
      rw [List.getElem?_map, List.getElem?_eq_getElem hj2] at hj
      simp [List.getD, List.getElem?_eq_getElem hj2]
      simpa using hj
    · obtain ⟨y, _, rfl⟩ := List.mem_map.1 hu; rfl
    · have : 0 < g.length := List.length_pos_iff.2 h0
      omega
    · rw [Nat.zero_add, List.nil_append] at r1
      exact own_mono r1 hb
    · exact (Below.refl _ _).grown r2 (Nat.le_refl _) (fun k e => by cases e)

theorem wpList_cloneU (w : World) {ops : Array Oper} {rest : List Oper} {o : Oper} {a : Act} {Q : Exit → Act → World → Prop} (hgd : o.guard = none) (s x : Operand)
    (ho : o.op = .call { callee := .builtin .append, args := #[s, x], argTypes := #[22, 22] }) (hty : o.type = 22)
    (base g0 lo : Nat) (u : Value) (g : List Nat) (hs : a.eval s = .slice (some ⟨g0, 0, none⟩) 0 0) (hown : w.ownsRow base 3 1 (.slice (some ⟨g0, 0, none⟩) 0 0) 0 []) (hx : a.eval x = u) (hb : base ≤ w.heap.size)
    (hu : GU lo w u g) (h40 : g.length ≤ 1000)
    (h : ∀ v' w', w'.ownsRow base 3 1 v' g.length (numsV g) → Below w.heap.size w w' → wpList Try.prog ops Q rest (a.put o.dst v') w') : wpList Try.prog ops Q (o :: rest) a w :=
  wpList_plain hgd fun K hK => wp_cloneU w s x ho hty base g0 lo u g hs hown hx hb hu h40 fun v' w' r1 r2 => hK _ _ (h v' w' r1 r2)

/-- v lists gifts: a row of the call's own, each element the list of one -/
def RL (lo : Nat) (W : World) (v : Value) (gs : List (List Nat)) : Prop :=
  ∃ rows : List Value, W.ownsRow lo 22 1 v gs.length rows ∧ rows.length = gs.length ∧ (∀ u, u ∈ rows → u.oneCell' = true) ∧ ∀ (i : Nat) (g : List Nat), gs[i]? = some g → ∃ r, rows[i]? = some r ∧ GU 0 W r g
theorem GU.turn {lo : Nat} {W W' : World} {u : Value} {g : List Nat} (h : GU lo W u g) (hk : ∀ (b : Nat) (cur : Array Value), W.heap[b]? = some (Obj.cells cur 3) → W'.heap[b]? = W.heap[b]?) : GU lo W' u g := by
  rcases h with h | ⟨h0, b, cap, cur, h1, h2, h3, h4, h5⟩
  · exact .inl h
  · exact .inr ⟨h0, b, cap, cur, h1, h2, h3, (hk b cur h4).trans h4, h5⟩
theorem GU.one {lo : Nat} {W : World} {u : Value} {g : List Nat} (h : GU lo W u g) : u.oneCell' = true := by
  rcases h with ⟨_, rfl⟩ | ⟨_, _, _, _, rfl, _⟩ <;> rfl
theorem RL.below {lo : Nat} {W W' : World} {v : Value} {gs : List (List Nat)} (h : RL lo W v gs) (hk : Below W.heap.size W W') : RL lo W' v gs := by
  obtain ⟨rows, h1, h2, h3, h4⟩ := h
  exact ⟨rows, own_below h1 hk, h2, h3, fun i g hi => by obtain ⟨r, k1, k2⟩ := h4 i g hi; exact ⟨r, k1, k2.below hk⟩⟩
theorem RL.lower {lo lo' : Nat} {W : World} {v : Value} {gs : List (List Nat)} (h : RL lo W v gs) (hl : lo' ≤ lo) : RL lo' W v gs := by
  obtain ⟨rows, h1, h2⟩ := h
  exact ⟨rows, own_mono h1 hl, h2⟩
theorem own_apart {w : World} {lo : Nat} {e : TypeId} {size : Nat} {v : Value} {n : Nat} {xs : List Value} (h : w.ownsRow lo e size v n xs) {g : Nat} {cur : Array Value} {t : TypeId} (hg : w.heap[g]? = some (Obj.cells cur t)) (hne : e ≠ t) : some g ≠ v.ownBlock := by
  intro he
  obtain ⟨_, ⟨rfl, _⟩ | ⟨g', cap, cur', rfl, _, hh, _⟩⟩ := h
  · cases he
  · obtain rfl : g = g' := by simpa [Value.ownBlock] using he
    rw [hh] at hg
    injection hg with hg
    injection hg with _ ht
    exact hne ht
theorem RL.app {lo : Nat} {W W' : World} {v v' : Value} {gs hs : List (List Nat)} {rows rows2 : List Value} (h1 : W.ownsRow lo 22 1 v gs.length rows) (h2 : rows.length = gs.length) (h3 : ∀ u, u ∈ rows → u.oneCell' = true)
    (h4 : ∀ (i : Nat) (g : List Nat), gs[i]? = some g → ∃ r, rows[i]? = some r ∧ GU 0 W r g)
    (k2 : rows2.length = hs.length) (k3 : ∀ u, u ∈ rows2 → u.oneCell' = true) (k4 : ∀ (i : Nat) (g : List Nat), hs[i]? = some g → ∃ r, rows2[i]? = some r ∧ GU 0 W r g)
    (ho : W'.ownsRow lo 22 1 v' (gs.length + hs.length) (rows ++ rows2)) (hg : W.grownBy W' v.ownBlock) : RL lo W' v' (gs ++ hs) := by
  have hk : ∀ (b : Nat) (cur : Array Value), W.heap[b]? = some (Obj.cells cur 3) → W'.heap[b]? = W.heap[b]? := fun b cur hb => hg.block b (heap_lt hb) (own_apart h1 hb (by decide))
  refine ⟨rows ++ rows2, by rw [List.length_append]; exact ho, by simp [h2, k2], fun u hu => ?_, fun i g hi => ?_⟩
  · rcases List.mem_append.1 hu with h | h
    · exact h3 u h
    · exact k3 u h
  · by_cases hl : i < gs.length
    · rw [List.getElem?_append_left hl] at hi
      obtain ⟨r, e1, e2⟩ := h4 i g hi
      exact ⟨r, by rw [List.getElem?_append_left (by omega)]; exact e1, e2.turn hk⟩
    · rw [List.getElem?_append_right (by omega)] at hi
      obtain ⟨r, e1, e2⟩ := k4 _ g hi
      exact ⟨r, by rw [List.getElem?_append_right (by omega), h2]; exact e1, e2.turn hk⟩
theorem tailG_len (B : SB) : ∀ (f : Nat) (b : List Nat), (tailG B f b).length + 1 ≤ 2 ^ f := by
  intro f
  induction f with
  | zero => intro b; simp [tailG]
  | succ f ih =>
    intro b
    have h1 := ih b
    unfold tailG
    rw [List.length_append, Nat.pow_succ]
    split
    · have h2 := ih (b ++ [B.nw - (f + 1)])
      rw [List.length_cons]
      omega
    · simp; omega
theorem tailG_len12 (B : SB) {f : Nat} (hf : f ≤ 12) (b : List Nat) : (tailG B f b).length + 1 ≤ 4096 := by
  have h := tailG_len B f b
  have : 2 ^ f ≤ 2 ^ 12 := Nat.pow_le_pow_right (by omega) hf
  omega
theorem natL_nums (g : List Nat) : natL g.length (fun i => ((g.getD i 0 : Nat) : Int)) = g := by
  refine List.ext_getElem? fun i => ?_
  unfold natL
  rw [List.getElem?_map]
  by_cases h : i < g.length
  · simp [h]
  · rw [List.getElem?_eq_none (by simp; omega), List.getElem?_eq_none (by omega)]; rfl

theorem rl_one {lo g : Nat} {W : World} {u : Value} {b : List Nat} (h : W.heap[g]? = some (.cells #[u] 22)) (hl : lo ≤ g) (hu : GU 0 W u b) : RL lo W (.slice (some ⟨g, 0, none⟩) 1 1) [b] :=
  ⟨[u], ⟨rfl, .inr ⟨g, 1, #[u], rfl, hl, h, Nat.le_refl _, by unfold maxLen; omega, rfl, rfl⟩⟩, rfl, fun x hx => by obtain rfl := List.mem_singleton.1 hx; exact hu.one, fun i g hi => by
    rcases i with _ | i
    · simp at hi; subst hi; exact ⟨u, rfl, hu⟩
    · simp at hi⟩
theorem RL.open {lo : Nat} {W : World} {v : Value} {gs : List (List Nat)} (h : RL lo W v gs) (h0 : 0 < gs.length) : ∃ g c rows, v = .slice (some ⟨g, 0, none⟩) gs.length c ∧ W.ownsRow lo 22 1 (.slice (some ⟨g, 0, none⟩) gs.length c) gs.length rows ∧ rows.length = gs.length ∧ (∀ u, u ∈ rows → u.oneCell' = true) ∧ (∀ (i : Nat) (b : List Nat), gs[i]? = some b → ∃ r, rows[i]? = some r ∧ GU 0 W r b) ∧
    ∀ (j : Nat) (u : Value), rows[j]? = some u → W.cell? ((⟨g, 0, none⟩ : Addr).add j) = some u := by
  obtain ⟨rows, h1, h2, h3, h4⟩ := h
  obtain ⟨k1, ⟨rfl, k2⟩ | ⟨g, cap, cur, rfl, k3⟩⟩ := id h1
  · omega
  · exact ⟨g, cap, rows, rfl, h1, h2, h3, h4, fun j u hj => h1.cells rfl j u hj⟩

set_option maxHeartbeats 3200000 in
set_option maxRecDepth 100000 in
theorem gifts_ref (N : Nat) (v : Value) (B : SB) (p : Nat) (hGp : GoodL B p) : ∀ (f : Nat) (b : List Nat) (u : Value) (z : Int) (w : World) (_ : BookAt N w v B) (_ : z = ((B.nw - f : Nat) : Int)) (_ : f ≤ B.nw) (_ : GU 0 w u b) (_ : GOK B b) (_ : nxG b ≤ B.nw - f),
    Calls Try.prog 69 #[v, u, .int .i64 z] w fun e w' => ∃ v', e = .returned v' ∧ RL w.heap.size w' v' (b :: tailG B f b) ∧ Below w.heap.size w w' := by
  intro f
  induction f using Nat.strongRecOn with
  | _ f ih =>
  intro b u z w h hk0 hf hu hb hbk
  obtain ⟨i0, hi0, hz0, hz1, hz2⟩ := info_parts Try.infoInt
  obtain ⟨i1, hi1, hy0, hy1, hy2⟩ := info_parts Try.infoInts
  have HIH := Lib.hid ih
  obtain ⟨k0, hk⟩ : ∃ k0, B.nw - f = k0 := ⟨_, rfl⟩
  rw [hk] at hk0 hbk
  subst hk0
  have HK0 : Hid (f = B.nw - k0) := by unfold Hid; omega
  have hk0n : k0 ≤ B.nw := by omega
  clear ih hk
  obtain ⟨au, cu, rfl⟩ := hu.form
  have h' := h
  obtain ⟨_, a1, z1, a2, z2, a3, z3, rfl, _⟩ := h'
  obtain ⟨ws, hws, HB, hsz, hblk⟩ := box1 w (.cells #[.slice a1 B.ns z1, .slice a2 B.ng z2, .slice a3 B.nw z3] 26)
  have q0 := cell_blk hblk 0 rfl
  have q1 := cell_blk hblk 1 rfl
  have q2 := cell_blk hblk 2 rfl
  have HBK := Lib.hid (h.go HB.out)
  have HB0 : Hid (Below ws.heap.size ws ws) := Below.refl _ _
  have HNS : Hid (N ≤ ws.heap.size) := HBK.out.1
  have hlens := h.lens
  obtain ⟨hlv, hls, hln⟩ := hlens
  clear hblk h
  have HU := Lib.hid (hu.below HB.out)
  have HGp := Lib.hid hGp
  have HBB := Lib.hid hb
  have hnw := hGp.nw
  have hbl : b.length ≤ 12 := by have := hb.len; have := hb.top; omega
  have HBL := Lib.hid hbl
  have HTL := Lib.hid (tailG_len12 B (show f ≤ 12 by omega) b)
  obtain ⟨wb, hwb, HBb, hszb, hblkb⟩ := box1 ws (.cells #[.slice au b.length cu] 22)
  have HRL0 := Lib.hid (rl_one hblkb (Nat.le_refl _) (HU.out.below HBb.out))
  clear hu hb hblkb
  go_enter Try.func69, Try.ntmps69
  go_wp2
  clear hws hwb
  go_loopw [7, 8] (fun ov i wr => ∃ (k : Nat) (D : List (List Nat)), k0 ≤ k ∧ k ≤ B.nw ∧ i = .int .i64 k ∧ Hid (b :: tailG B f b = D ++ tailG B (B.nw - k) b) ∧ Hid (RL ws.heap.size wr ov D) ∧ Hid (Below ws.heap.size ws wr)) (fun _ i _ => B.nw - (intOf i).toNat)
  case atStart => exact ⟨k0, [b], Nat.le_refl _, hk0n, rfl, by unfold Hid; rw [← HK0.out]; rfl, HRL0, HBb⟩
  case round =>
    obtain ⟨k, D, hkk, hk, rfl, HD, HRL, HBr⟩ := hrel
    have r2 := (HBr.out.cell (p := ⟨w.heap.size, 2, none⟩) hsz).trans q2
    have r0 := (HBr.out.cell (p := ⟨w.heap.size, 0, none⟩) hsz).trans q0
    have r1 := (HBr.out.cell (p := ⟨w.heap.size, 1, none⟩) hsz).trans q1
    obtain ⟨dv, cv, rfl⟩ : ∃ a c, u7 = .slice a D.length c := by
      obtain ⟨_, hh, _⟩ := HRL.out
      obtain ⟨_, ⟨rfl, h2⟩ | ⟨g, cap, cur, rfl, _⟩⟩ := hh
      · exact ⟨none, 0, by rw [h2]⟩
      · exact ⟨_, _, rfl⟩
    by_cases hkn : k < B.nw
    · have hki : (k : Int) < (B.nw : Int) := by omega
      have HE6 : Hid ((b ++ [k]).length = b.length + 1) := by unfold Hid; simp
      have HFIT : Hid (fitL B (natL (b.length + 1) (fun i => (((b ++ [k]).getD i 0 : Nat) : Int))) = addOK B b k) := by unfold Hid; rw [← HE6.out, natL_nums, fitL_snoc, HBB.out.fit, Bool.true_and]
      have HXL : Hid (∀ i, i < b.length + 1 → (0 : Int) ≤ (((b ++ [k]).getD i 0 : Nat) : Int) ∧ (((b ++ [k]).getD i 0 : Nat) : Int) < B.nw) := fun i hi => by
        rw [← HE6.out] at hi
        have hm : (b ++ [k]).getD i 0 ∈ b ++ [k] := by rw [List.getD_eq_getElem?_getD, List.getElem?_eq_getElem hi]; exact List.getElem_mem hi
        rcases List.mem_append.1 hm with h | h
        · have h1 := HBB.out.lt _ h; have h2 := HBB.out.top; omega
        · have := List.mem_singleton.1 h; omega
      have HBL2 : Hid ((b ++ [k]).length ≤ 1000) := by unfold Hid; simp; omega
      have HST := Lib.hid (tailG_step B b hkn)
      cases hadd : addOK B b k with
      | false =>
        have HADD := Lib.hid hadd
        rw [hadd] at HST
        clear hadd
        go_wp2_with (first
          | (at_builtin; refine wpList_append_own _ rfl _ _ 22 rfl wr.heap.size 3 i0 (.int .i64 0) 1 8 Try.underlying22 hi0 hz0 hz1 hz2 rfl (by decide) _ _ _ rfl (HO5.out.alloc _) ⟨w5.heap.size, 0, none⟩ 1 1 [.int .i64 k] rfl rfl (cell_one_new _ _ _) (by simp [Value.oneCell']) (by unfold maxLen; omega) (by omega) (by have := HB5.out.size; simp; omega) ?_; intro v6 w6 hown6 hgrow6 _; have HB6 : Hid (Below wr.heap.size wr w6) := (HB5.out.alloc HB5.out.size _).grown hgrow6 (by have := HB5.out.size; simp; omega) (fun j e => (HO5.out.lt j e).1); have HG6 := Lib.hid (show GU 0 w6 v6 (b ++ [k]) from GU.made hown6 (Nat.zero_le _)); clear hown6 hgrow6; obtain ⟨a6, c6, hv6⟩ := HG6.out.form; rw [HE6.out] at hv6; subst hv6; have hi6 := HG6.out.ints HBL2.out; rw [HE6.out] at hi6; have HI6 := Lib.hid hi6; clear hi6; have HBw6 : Hid (Below ws.heap.size ws w6) := bel HBr.out HB6.out; have r0 := (HBw6.out.cell (p := ⟨w.heap.size, 0, none⟩) hsz).trans q0; have r1 := (HBw6.out.cell (p := ⟨w.heap.size, 1, none⟩) hsz).trans q1; have r2 := (HBw6.out.cell (p := ⟨w.heap.size, 2, none⟩) hsz).trans q2)
          | (at_builtin; refine wpList_cloneU _ rfl _ _ rfl rfl wr.heap.size wr.heap.size 0 _ b rfl (World.ownsRow_made wr #[] 0 (Nat.le_refl _) (Nat.zero_le _) rfl) rfl (by simp) ((HU.out.below HBr.out).below (below_alloc (Nat.le_refl _) _)) (by omega) ?_; intro v5 w5 hown5 hb5; have HO5 := Lib.hid hown5; have HB5 : Hid (Below wr.heap.size wr w5) := (below_alloc (Nat.le_refl _) _).trans (hb5.mono (by simp)); clear hown5 hb5)
          | (go_at_call 45; refine (isFit_any N w6.heap.size _ _ B p (b.length + 1) (fun i => (((b ++ [k]).getD i 0 : Nat) : Int)) _ (HBK.out.go HBw6.out) HGp.out HI6.out (Nat.le_refl _) HXL.out (by omega)).mono ?_; rw [HFIT.out, HADD.out]; rintro e w7 ⟨rfl, hb7⟩; have HB7 : Hid (Below wr.heap.size wr w7) := bel HB6.out hb7; clear hb7))
        go_roundw
        case rel => exact ⟨k + 1, D, by omega, by omega, by go_num, by rw [HST.out] at HD; exact HD, HRL.out.below HB7.out, bel HBr.out HB7.out⟩
        case measure => simp [intOf]; omega
      | true =>
        have HADD := Lib.hid hadd
        rw [hadd] at HST
        have HTL2 := Lib.hid (tailG_len12 B (show B.nw - (k + 1) ≤ 12 by omega) (b ++ [k]))
        obtain ⟨T, hT⟩ : ∃ T, (b ++ [k]) :: tailG B (B.nw - (k + 1)) (b ++ [k]) = T := ⟨_, rfl⟩
        obtain ⟨m8, hm8⟩ : ∃ m, T.length = m := ⟨_, rfl⟩
        have hm8p : 0 < m8 := by rw [← hm8, ← hT]; simp
        have hm8l : m8 ≤ 4096 := by have := HTL2.out; rw [← hm8, ← hT]; simpa using this
        have HT := Lib.hid hT
        have HM8 := Lib.hid hm8
        clear hT hm8
        have HSN := Lib.hid (HBB.out.snoc (show nxG b ≤ k by omega) hkn hadd)
        have HDL : Hid (D.length ≤ 4096) := by
          have h1 := congrArg List.length HD.out
          have h2 := HTL.out
          rw [List.length_append, List.length_cons] at h1
          unfold Hid; omega
        clear hadd
        go_wp2_with (first
          | (at_builtin; refine wpList_append_own _ rfl _ _ 92 rfl ws.heap.size 22 i1 (.slice none 0 0) 1 24 Try.underlying92 hi1 hy0 hy1 hy2 rfl (by decide) _ _ _ rfl HO1.out ⟨g8, 0, none⟩ _ c8 rows8 rfl (by rw [HL8.out.1, HM8.out]; exact (Nat.mul_one _).symm) HL8.out.2.2.2 HL8.out.2.1 (by have := HDL.out; unfold maxLen; omega) (by have := HDL.out; omega) HB8.out.size ?_; intro v9 w9 hown9 hgrow9 _; have HR9 := Lib.hid (RL.app HO1.out HL1.out.1 HL1.out.2.1 HL1.out.2.2 HL8.out.1 HL8.out.2.1 HL8.out.2.2.1 (by rw [HM8.out]; exact hown9) hgrow9); have HB9 : Hid (Below ws.heap.size ws w9) := HB8.out.grown hgrow9 HB8.out.size (fun j e => (HO1.out.lt j e).1); clear hown9 hgrow9)
          | (at_builtin; refine wpList_append_own _ rfl _ _ 22 rfl wr.heap.size 3 i0 (.int .i64 0) 1 8 Try.underlying22 hi0 hz0 hz1 hz2 rfl (by decide) _ _ _ rfl (HO5.out.alloc _) ⟨w5.heap.size, 0, none⟩ 1 1 [.int .i64 k] rfl rfl (cell_one_new _ _ _) (by simp [Value.oneCell']) (by unfold maxLen; omega) (by omega) (by have := HB5.out.size; simp; omega) ?_; intro v6 w6 hown6 hgrow6 _; have HB6 : Hid (Below wr.heap.size wr w6) := (HB5.out.alloc HB5.out.size _).grown hgrow6 (by have := HB5.out.size; simp; omega) (fun j e => (HO5.out.lt j e).1); have HG6 := Lib.hid (show GU 0 w6 v6 (b ++ [k]) from GU.made hown6 (Nat.zero_le _)); clear hown6 hgrow6; obtain ⟨a6, c6, hv6⟩ := HG6.out.form; rw [HE6.out] at hv6; subst hv6; have hi6 := HG6.out.ints HBL2.out; rw [HE6.out] at hi6; have HI6 := Lib.hid hi6; clear hi6; have HBw6 : Hid (Below ws.heap.size ws w6) := bel HBr.out HB6.out; have r0 := (HBw6.out.cell (p := ⟨w.heap.size, 0, none⟩) hsz).trans q0; have r1 := (HBw6.out.cell (p := ⟨w.heap.size, 1, none⟩) hsz).trans q1; have r2 := (HBw6.out.cell (p := ⟨w.heap.size, 2, none⟩) hsz).trans q2)
          | (at_builtin; refine wpList_cloneU _ rfl _ _ rfl rfl wr.heap.size wr.heap.size 0 _ b rfl (World.ownsRow_made wr #[] 0 (Nat.le_refl _) (Nat.zero_le _) rfl) rfl (by simp) ((HU.out.below HBr.out).below (below_alloc (Nat.le_refl _) _)) (by omega) ?_; intro v5 w5 hown5 hb5; have HO5 := Lib.hid hown5; have HB5 : Hid (Below wr.heap.size wr w5) := (below_alloc (Nat.le_refl _) _).trans (hb5.mono (by simp)); clear hown5 hb5)
          | (go_at_call 45; refine (isFit_any N w6.heap.size _ _ B p (b.length + 1) (fun i => (((b ++ [k]).getD i 0 : Nat) : Int)) _ (HBK.out.go HBw6.out) HGp.out HI6.out (Nat.le_refl _) HXL.out (by omega)).mono ?_; rw [HFIT.out, HADD.out]; rintro e w7 ⟨rfl, hb7⟩; have HB7 : Hid (Below wr.heap.size wr w7) := bel HB6.out hb7; have HG7 := Lib.hid (HG6.out.below hb7); have HBw7 : Hid (Below ws.heap.size ws w7) := bel HBr.out HB7.out; have r0 := (HBw7.out.cell (p := ⟨w.heap.size, 0, none⟩) hsz).trans q0; have r1 := (HBw7.out.cell (p := ⟨w.heap.size, 1, none⟩) hsz).trans q1; have r2 := (HBw7.out.cell (p := ⟨w.heap.size, 2, none⟩) hsz).trans q2; clear hb7)
          | (go_at_call 69; refine (HIH.out (B.nw - (k + 1)) (by have := HK0.out; omega) (b ++ [k]) _ _ _ (HBK.out.go HBw7.out) (by omega) (by omega) HG7.out HSN.out (by rw [nxG_snoc]; omega)).mono ?_; rw [HT.out]; rintro e w8 ⟨v8, rfl, hrl8, hb8⟩; obtain ⟨g8, c8, rows8, hv8, o8, l8, n8, n8', s8⟩ := hrl8.open (by rw [HM8.out]; exact hm8p); rw [HM8.out] at hv8; subst hv8; have HL8 := Lib.hid (And.intro l8 (And.intro n8 (And.intro n8' s8))); have hrl := HRL.out.below (HB7.out.trans (hb8.mono HB7.out.size)); have HB8 : Hid (Below ws.heap.size ws w8) := bel HBw7.out hb8; clear hrl8 o8 l8 n8 n8' s8 hb8; obtain ⟨rows1, o1, l1, n1, m1⟩ := hrl; have HO1 := Lib.hid o1; have HL1 := Lib.hid (And.intro l1 (And.intro n1 m1)); clear o1 l1 n1 m1))
        go_roundw
        case rel => exact ⟨k + 1, D ++ T, by omega, by omega, by go_num, by rw [HST.out, if_pos trivial, HT.out] at HD; unfold Hid; rw [HD.out, List.append_assoc], HR9, HB9⟩
        case measure => simp [intOf]; omega
    · have hkk2 : k = B.nw := by omega
      have HE := Lib.hid (tailG_end B b hkn)
      go_wp2
      go_ret
      exact ⟨_, rfl, by rw [HD.out, HE.out, List.append_nil]; exact HRL.out.lower HB.out.size, fin HB.out HBr.out⟩

end Go.Proofs.Ytnnngbnimmcjiaa
