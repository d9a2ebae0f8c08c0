/-
  CopyT: the reference's copy, with the types of its blocks.
-/
import Derived.Test.YtnnngbnimmcjiaaRAlone
namespace Go.Proofs.Ytnnngbnimmcjiaa
open Go.RowKit

def Ty (T : TypeId) (lo : Nat) (W : World) (v : Value) (n : Nat) : Prop := ∀ (g c : Nat), v = .slice (some ⟨g, 0, none⟩) n c → 0 < n → lo ≤ g ∧ ∃ cur : Array Value, W.heap[g]? = some (.cells cur T)
theorem Ty.keep {T : TypeId} {lo : Nat} {W W' : World} {v : Value} {n : Nat} (h : Ty T lo W v n) (hk : ∀ g, lo ≤ g → g < W.heap.size → W'.heap[g]? = W.heap[g]?) : Ty T lo W' v n := fun g c e h0 => by
  obtain ⟨h1, cur, h2⟩ := h g c e h0
  exact ⟨h1, cur, (hk g h1 (heap_lt h2)).trans h2⟩
theorem Ty.lower {T : TypeId} {lo lo' : Nat} {W : World} {v : Value} {n : Nat} (h : Ty T lo W v n) (hl : lo' ≤ lo) : Ty T lo' W v n := fun g c e h0 => by
  obtain ⟨h1, h2⟩ := h g c e h0
  exact ⟨Nat.le_trans hl h1, h2⟩
theorem ty_own {lo : Nat} {W : World} {e : TypeId} {size n : Nat} {v : Value} {xs : List Value} (h : W.ownsRow lo e size v n xs) : Ty e lo W v n := fun g c he h0 => by
  obtain ⟨_, ⟨rfl, h2⟩ | ⟨g', cap, cur, rfl, h3, h4, _⟩⟩ := h
  · omega
  · cases he
    exact ⟨h3, cur, h4⟩
def IT (lo : Nat) (W : World) (v : Value) (n : Nat) (x : Nat → Int) : Prop := IB lo W v n x ∧ Ty 3 lo W v n
/-- what an append to it asks of its block -/
def Sp (lo : Nat) (W : World) (v : Value) (n : Nat) : Prop := (n = 0 → ∃ g, v = .slice (some ⟨g, 0, none⟩) 0 0) ∧ ∀ (g c : Nat), v = .slice (some ⟨g, 0, none⟩) n c → 0 < n → lo ≤ g ∧ c ≤ maxLen ∧ ∃ (cur : Array Value) (T : TypeId), W.heap[g]? = some (.cells cur T) ∧ cur.size = c * 2
theorem Sp.keep {lo : Nat} {W W' : World} {v : Value} {n : Nat} (h : Sp lo W v n) (hk : ∀ g, lo ≤ g → g < W.heap.size → W'.heap[g]? = W.heap[g]?) : Sp lo W' v n := ⟨h.1, fun g c e h0 => by
  obtain ⟨h1, h2, cur, T, h3, h4⟩ := h.2 g c e h0
  exact ⟨h1, h2, cur, T, (hk g h1 (heap_lt h3)).trans h3, h4⟩⟩
theorem Sp.lower {lo lo' : Nat} {W : World} {v : Value} {n : Nat} (h : Sp lo W v n) (hl : lo' ≤ lo) : Sp lo' W v n := ⟨h.1, fun g c e h0 => by
  obtain ⟨h1, h2⟩ := h.2 g c e h0
  exact ⟨Nat.le_trans hl h1, h2⟩⟩
theorem sp_own {lo : Nat} {W : World} {e : TypeId} {n : Nat} {v : Value} {xs : List Value} (h : W.ownsRow lo e 2 v n xs) (h0 : 0 < n) : Sp lo W v n := ⟨fun e => absurd e (Nat.ne_of_gt h0), fun g c he _ => by
  obtain ⟨_, ⟨rfl, h2⟩ | ⟨g', cap, cur, rfl, h3, h4, _, h5, h6, _⟩⟩ := h
  · omega
  · cases he
    exact ⟨h3, h5, cur, e, h4, h6⟩⟩
def PT (T : TypeId) (lo : Nat) (W : World) (v : Value) (n : Nat) (x y : Nat → Int) : Prop := PB lo W v n x y ∧ Ty T lo W v n ∧ Sp lo W v n
theorem IT.form {lo : Nat} {W : World} {v : Value} {n : Nat} {x : Nat → Int} (h : IT lo W v n x) : ∃ a c, v = .slice a n c := h.1.form
theorem PT.form {T : TypeId} {lo : Nat} {W : World} {v : Value} {n : Nat} {x y : Nat → Int} (h : PT T lo W v n x y) : ∃ a c, v = .slice a n c := h.1.form
theorem IT.keep {lo : Nat} {W W' : World} {v : Value} {n : Nat} {x : Nat → Int} (h : IT lo W v n x) (hk : ∀ g, lo ≤ g → g < W.heap.size → W'.heap[g]? = W.heap[g]?) : IT lo W' v n x := ⟨h.1.keep hk, h.2.keep hk⟩
theorem PT.keep {T : TypeId} {lo : Nat} {W W' : World} {v : Value} {n : Nat} {x y : Nat → Int} (h : PT T lo W v n x y) (hk : ∀ g, lo ≤ g → g < W.heap.size → W'.heap[g]? = W.heap[g]?) : PT T lo W' v n x y := ⟨h.1.keep hk, h.2.1.keep hk, h.2.2.keep hk⟩
theorem IT.lower {lo lo' : Nat} {W : World} {v : Value} {n : Nat} {x : Nat → Int} (h : IT lo W v n x) (hl : lo' ≤ lo) : IT lo' W v n x := ⟨h.1.lower hl, h.2.lower hl⟩
theorem PT.lower {T : TypeId} {lo lo' : Nat} {W : World} {v : Value} {n : Nat} {x y : Nat → Int} (h : PT T lo W v n x y) (hl : lo' ≤ lo) : PT T lo' W v n x y := ⟨h.1.lower hl, h.2.1.lower hl, h.2.2.lower hl⟩
theorem IT.grow {lo : Nat} {W W' : World} {v : Value} {n : Nat} {x : Nat → Int} (h : IT lo W v n x) (hb : Below W.heap.size W W') : IT lo W' v n x := h.keep fun g _ hg => hb.block g hg
theorem PT.grow {T : TypeId} {lo : Nat} {W W' : World} {v : Value} {n : Nat} {x y : Nat → Int} (h : PT T lo W v n x y) (hb : Below W.heap.size W W') : PT T lo W' v n x y := h.keep fun g _ hg => hb.block g hg
def OwnT (lo : Nat) (W : World) (v : Value) (B : SB) : Prop :=
  ∃ v1 v2 v3, v = .agg #[v1, v2, v3] ∧ IT lo W v1 B.ns B.C ∧ PT 49 lo W v2 B.ng B.P B.F ∧ PT 43 lo W v3 B.nw B.G B.S

theorem cloneIT_run (N : Nat) (w : World) (g0 : Nat) (A : Option Addr) (m c : Nat) (x : Nat → Int) (hi : IntsAt N w (.slice A m c) m x) (hN : N ≤ w.heap.size) (h40 : m ≤ 1000000) :
    ∃ v' w', (Builtin.append_ #[22, 22] 22 #[.slice (some ⟨g0, 0, none⟩) 0 0, .slice A m c]).run Try.prog w = .ok v' w' ∧ IT w.heap.size w' v' m x ∧ Below w.heap.size w w' := by
  obtain ⟨i0, hi0, hz0, hz1, hz2⟩ := info_parts Try.infoInt
  obtain ⟨_, _, e, hm, hc⟩ := hi
  cases e
  rcases Nat.eq_zero_or_pos m with h0 | h0
  · subst h0
    exact ⟨_, _, append_zero _ Try.underlying22 hi0 _ _ _, ⟨.inl ⟨rfl, _, _, rfl⟩, fun g c _ h0 => absurd h0 (Nat.lt_irrefl 0)⟩, Below.refl _ _⟩
  · obtain ⟨b, off, rfl, hb, hr⟩ := hc h0
    obtain ⟨v', w', hrun, hown, hgrow⟩ := run_append_arg_grows (P := Try.prog) w 22 22 3 i0 (.int .i64 0) 1 8 Try.underlying22 hi0 hz0 hz1 hz2 rfl (by decide) ⟨g0, 0, none⟩ 0 0 [] rfl (fun j u hj => by simp at hj)
      ⟨b, off, none⟩ m c ((fromF m x).map (Value.int .i64)) (by simp [fromF])
      (fun j u hj => by
        have hjm : j < m := by
          have := (List.getElem?_eq_some_iff.1 hj).1
          simpa [fromF] using this
        obtain ⟨r, h1, rfl⟩ := hr j hjm
        rw [fromF_get hjm] at hj
        cases hj
        have e : (⟨b, off, none⟩ : Addr).add j = ⟨b, off + j, none⟩ := by unfold Addr.add; split <;> simp_all
        rw [e]
        exact h1)
      (by omega) (by unfold maxLen; omega) (by omega)
    rw [Nat.zero_add, List.nil_append] at hown
    exact ⟨v', w', hrun, ⟨.of_own hown, ty_own hown⟩, (Below.refl _ _).grown hgrow (Nat.le_refl _) (fun k e => by cases e)⟩

theorem wp_cloneIT (w : World) {o : Oper} {a : Act} {K : Act → World → Prop} {Q : Exit → Act → World → Prop} (s x : Operand)
    (ho : o.op = .call { callee := .builtin .append, args := #[s, x], argTypes := #[22, 22] }) (hty : o.type = 22)
    (N g : Nat) (A : Option Addr) (m c : Nat) (X : Nat → Int) (hs : a.eval s = .slice (some ⟨g, 0, none⟩) 0 0) (hx : a.eval x = .slice A m c)
    (hi : IntsAt N w (.slice A m c) m X) (hN : N ≤ w.heap.size) (h40 : m ≤ 1000000)
    (h : ∀ v' w', IT w.heap.size w' v' m X → Below w.heap.size w w' → K (a.put o.dst v') w') : o.wp Try.prog a w K Q := by
  obtain ⟨v', w', hrun, r1, r2⟩ := cloneIT_run N w g A m c X hi hN h40
  unfold Oper.wp
  simp [execOp, ho, resolve, invoke, builtin, hs, hx, hty, hrun, Result.andThen]
  exact h v' w' r1 r2

theorem cloneGT_run (N : Nat) (w : World) (g0 : Nat) (A : Option Addr) (m c : Nat) (x y : Nat → Int) (hi : PairsAt N w (.slice A m c) m x y) (hN : N ≤ w.heap.size) (h40 : m ≤ 1000000) :
    ∃ v' w', (Builtin.append_ #[23, 23] 23 #[.slice (some ⟨g0, 0, none⟩) 0 0, .slice A m c]).run Try.prog w = .ok v' w' ∧ PT 49 w.heap.size w' v' m x y ∧ Below w.heap.size w w' := by
  obtain ⟨i0, hi0, hz0, hz1, hz2⟩ := info_parts Try.infoG
  obtain ⟨_, _, e, hm, _, hc⟩ := hi
  cases e
  rcases Nat.eq_zero_or_pos m with h0 | h0
  · subst h0
    exact ⟨_, _, append_zero _ Try.underlying23 hi0 _ _ _, ⟨.inl ⟨rfl, _, _, rfl⟩, fun g c _ h0 => absurd h0 (Nat.lt_irrefl 0), fun _ => ⟨_, rfl⟩, fun g c _ h0 => absurd h0 (Nat.lt_irrefl 0)⟩, Below.refl _ _⟩
  · obtain ⟨b, off, rfl, hb, hr⟩ := hc h0
    obtain ⟨v', w', hrun, hown, hgrow⟩ := run_append_arg_grows (P := Try.prog) w 23 23 49 i0 (.agg #[.int .i64 0, .int .i64 0]) 2 16 Try.underlying23 hi0 hz0 hz1 hz2 rfl (by decide) ⟨g0, 0, none⟩ 0 0 [] rfl (fun j u hj => by simp at hj)
      ⟨b, off, none⟩ m c (pairL m x y) (pairL_len m x y) (pairL_cell hr) (by omega) (by unfold maxLen; omega) (by omega)
    rw [Nat.zero_add, List.nil_append] at hown
    exact ⟨v', w', hrun, ⟨.of_own hown, ty_own hown, sp_own hown h0⟩, (Below.refl _ _).grown hgrow (Nat.le_refl _) (fun k e => by cases e)⟩

theorem wp_cloneGT (w : World) {o : Oper} {a : Act} {K : Act → World → Prop} {Q : Exit → Act → World → Prop} (s x : Operand)
    (ho : o.op = .call { callee := .builtin .append, args := #[s, x], argTypes := #[23, 23] }) (hty : o.type = 23)
    (N g : Nat) (A : Option Addr) (m c : Nat) (X Y : Nat → Int) (hs : a.eval s = .slice (some ⟨g, 0, none⟩) 0 0) (hx : a.eval x = .slice A m c)
    (hi : PairsAt N w (.slice A m c) m X Y) (hN : N ≤ w.heap.size) (h40 : m ≤ 1000000)
    (h : ∀ v' w', PT 49 w.heap.size w' v' m X Y → Below w.heap.size w w' → K (a.put o.dst v') w') : o.wp Try.prog a w K Q := by
  obtain ⟨v', w', hrun, r1, r2⟩ := cloneGT_run N w g A m c X Y hi hN h40
  unfold Oper.wp
  simp [execOp, ho, resolve, invoke, builtin, hs, hx, hty, hrun, Result.andThen]
  exact h v' w' r1 r2

theorem cloneWT_run (N : Nat) (w : World) (g0 : Nat) (A : Option Addr) (m c : Nat) (x y : Nat → Int) (hi : PairsAt N w (.slice A m c) m x y) (hN : N ≤ w.heap.size) (h40 : m ≤ 1000000) :
    ∃ v' w', (Builtin.append_ #[24, 24] 24 #[.slice (some ⟨g0, 0, none⟩) 0 0, .slice A m c]).run Try.prog w = .ok v' w' ∧ PT 43 w.heap.size w' v' m x y ∧ Below w.heap.size w w' := by
  obtain ⟨i0, hi0, hz0, hz1, hz2⟩ := info_parts Try.infoW
  obtain ⟨_, _, e, hm, _, hc⟩ := hi
  cases e
  rcases Nat.eq_zero_or_pos m with h0 | h0
  · subst h0
    exact ⟨_, _, append_zero _ Try.underlying24 hi0 _ _ _, ⟨.inl ⟨rfl, _, _, rfl⟩, fun g c _ h0 => absurd h0 (Nat.lt_irrefl 0), fun _ => ⟨_, rfl⟩, fun g c _ h0 => absurd h0 (Nat.lt_irrefl 0)⟩, Below.refl _ _⟩
  · obtain ⟨b, off, rfl, hb, hr⟩ := hc h0
    obtain ⟨v', w', hrun, hown, hgrow⟩ := run_append_arg_grows (P := Try.prog) w 24 24 43 i0 (.agg #[.int .i64 0, .int .i64 0]) 2 16 Try.underlying24 hi0 hz0 hz1 hz2 rfl (by decide) ⟨g0, 0, none⟩ 0 0 [] rfl (fun j u hj => by simp at hj)
      ⟨b, off, none⟩ m c (pairL m x y) (pairL_len m x y) (pairL_cell hr) (by omega) (by unfold maxLen; omega) (by omega)
    rw [Nat.zero_add, List.nil_append] at hown
    exact ⟨v', w', hrun, ⟨.of_own hown, ty_own hown, sp_own hown h0⟩, (Below.refl _ _).grown hgrow (Nat.le_refl _) (fun k e => by cases e)⟩

theorem wp_cloneWT (w : World) {o : Oper} {a : Act} {K : Act → World → Prop} {Q : Exit → Act → World → Prop} (s x : Operand)
    (ho : o.op = .call { callee := .builtin .append, args := #[s, x], argTypes := #[24, 24] }) (hty : o.type = 24)
    (N g : Nat) (A : Option Addr) (m c : Nat) (X Y : Nat → Int) (hs : a.eval s = .slice (some ⟨g, 0, none⟩) 0 0) (hx : a.eval x = .slice A m c)
    (hi : PairsAt N w (.slice A m c) m X Y) (hN : N ≤ w.heap.size) (h40 : m ≤ 1000000)
    (h : ∀ v' w', PT 43 w.heap.size w' v' m X Y → Below w.heap.size w w' → K (a.put o.dst v') w') : o.wp Try.prog a w K Q := by
  obtain ⟨v', w', hrun, r1, r2⟩ := cloneWT_run N w g A m c X Y hi hN h40
  unfold Oper.wp
  simp [execOp, ho, resolve, invoke, builtin, hs, hx, hty, hrun, Result.andThen]
  exact h v' w' r1 r2

theorem copyT_end {B : SB} {w ws wc wn : World} {d1 d2 d3 : Option Addr} {e1 e2 e3 : Nat} (hB : Below w.heap.size w ws) (hsz1 : w.heap.size + 1 < ws.heap.size) (hc : Below ws.heap.size ws wc)
    (h1 : IT ws.heap.size wc (.slice d1 B.ns e1) B.ns B.C) (h2 : PT 49 ws.heap.size wc (.slice d2 B.ng e2) B.ng B.P B.F) (h3 : PT 43 ws.heap.size wc (.slice d3 B.nw e3) B.nw B.G B.S)
    (hn : Below (w.heap.size + 1) ws wn) (ho : ∀ k, k ≠ w.heap.size + 1 → wn.heap[k]? = wc.heap[k]?) :
    OwnT w.heap.size wn (.agg #[.slice d1 B.ns e1, .slice d2 B.ng e2, .slice d3 B.nw e3]) B ∧ Below w.heap.size w wn := by
  have hk : ∀ g, ws.heap.size ≤ g → g < wc.heap.size → wn.heap[g]? = wc.heap[g]? := fun g hg _ => ho g (by omega)
  exact ⟨⟨_, _, _, rfl, (h1.keep hk).lower hB.size, (h2.keep hk).lower hB.size, (h3.keep hk).lower hB.size⟩, hB.trans (hn.mono (Nat.le_succ _))⟩

set_option maxHeartbeats 12800000 in
set_option maxRecDepth 100000 in
theorem copyT_any (N : Nat) (v : Value) (B : SB) (w : World) (h : BookAt N w v B) (h40s : B.ns ≤ 1000000) (h40g : B.ng ≤ 1000000) (h40w : B.nw ≤ 1000000) :
    Calls Try.prog 26 #[v] w fun e w' => ∃ v', e = .returned v' ∧ OwnT w.heap.size w' v' B ∧ Below w.heap.size w w' := by
  obtain ⟨a1, z1, a2, z2, a3, z3, rfl⟩ := h.form
  obtain ⟨ws, hws, HB, hsz, hsz1, hblk, hblk1⟩ := box2 w (.cells #[.slice a1 B.ns z1, .slice a2 B.ng z2, .slice a3 B.nw z3] 26) (.cells #[.slice none 0 0, .slice none 0 0, .slice none 0 0] 26)
  have q0 := cell_blk hblk 0 rfl
  have q1 := cell_blk hblk 1 rfl
  have q2 := cell_blk hblk 2 rfl
  have HBK := Lib.hid (h.go HB.out)
  have HNS : Hid (N ≤ ws.heap.size) := HBK.out.1
  have HR1 := Lib.hid hblk1
  have hn1 : w.heap.size + 1 ≤ ws.heap.size := by omega
  have hn0 : w.heap.size < w.heap.size + 1 := by omega
  have HBc : Hid (Below ws.heap.size ws ws.drew) := (Below.refl _ _).drew
  have S0d := old_of (HBc.out.mono hn1)
  clear hblk hblk1 h
  go_enter Try.func26, Try.ntmps26
  go_upto_region 1 with fail
  clear hws
  refine wp_region_held_drew (S := fun w' => (∀ b o, b < w.heap.size + 1 → w'.cell? ⟨b, o, none⟩ = ws.cell? ⟨b, o, none⟩) ∧ Hid (Below (w.heap.size + 1) ws w')) (by kernel_rfl) S0d (fun hHeld => ?_)
  (refine wpAnyH_take (i := 1) (v := ?_) rfl (by kernel_rfl) (by kernel_rfl) (by kernel_rfl) (fun _ _ _ h => h) (Or.inl ⟨by rfl, ?_⟩) (by assumption) ?_; rotate_left; (focus (intro w hSw; (try dsimp only at hSw); go_simp; (try with_reducible rfl))); (try simp only [List.getElem_toArray, List.getElem_cons_zero, List.getElem_cons_succ, Act.put, List.setIfInBounds_toArray, List.set_cons_zero, List.set_cons_succ])); (refine wpAnyH_take (i := 2) (v := ?_) rfl (by kernel_rfl) (by kernel_rfl) (by kernel_rfl) (fun _ _ _ h => h) (Or.inl ⟨by rfl, ?_⟩) (by assumption) ?_; rotate_left; (focus (intro w hSw; (try dsimp only at hSw); go_simp; (try with_reducible rfl))); (try simp only [List.getElem_toArray, List.getElem_cons_zero, List.getElem_cons_succ, Act.put, List.setIfInBounds_toArray, List.set_cons_zero, List.set_cons_succ]))
  (refine wpAnyH_take (i := 5) (v := ?_) rfl (by kernel_rfl) (by kernel_rfl) (by kernel_rfl) (fun _ _ _ h => h) (Or.inl ⟨by rfl, ?_⟩) (by assumption) ?_; rotate_left; (focus (intro w hSw; (try dsimp only at hSw); go_simp; (try with_reducible rfl))); (try simp only [List.getElem_toArray, List.getElem_cons_zero, List.getElem_cons_succ, Act.put, List.setIfInBounds_toArray, List.set_cons_zero, List.set_cons_succ])); (refine wpAnyH_take (i := 6) (v := ?_) rfl (by kernel_rfl) (by kernel_rfl) (by kernel_rfl) (fun _ _ _ h => h) (Or.inl ⟨by rfl, ?_⟩) (by assumption) ?_; rotate_left; (focus (intro w hSw; (try dsimp only at hSw); go_simp; (try with_reducible rfl))); (try simp only [List.getElem_toArray, List.getElem_cons_zero, List.getElem_cons_succ, Act.put, List.setIfInBounds_toArray, List.set_cons_zero, List.set_cons_succ]))
  (refine wpAnyH_take (i := 9) (v := ?_) rfl (by kernel_rfl) (by kernel_rfl) (by kernel_rfl) (fun _ _ _ h => h) (Or.inl ⟨by rfl, ?_⟩) (by assumption) ?_; rotate_left; (focus (intro w hSw; (try dsimp only at hSw); go_simp; (try with_reducible rfl))); (try simp only [List.getElem_toArray, List.getElem_cons_zero, List.getElem_cons_succ, Act.put, List.setIfInBounds_toArray, List.set_cons_zero, List.set_cons_succ])); (refine wpAnyH_take (i := 10) (v := ?_) rfl (by kernel_rfl) (by kernel_rfl) (by kernel_rfl) (fun _ _ _ h => h) (Or.inl ⟨by rfl, ?_⟩) (by assumption) ?_; rotate_left; (focus (intro w hSw; (try dsimp only at hSw); go_simp; (try with_reducible rfl))); (try simp only [List.getElem_toArray, List.getElem_cons_zero, List.getElem_cons_succ, Act.put, List.setIfInBounds_toArray, List.set_cons_zero, List.set_cons_succ]))
  clear S0d
  obtain ⟨wc, hwc⟩ : ∃ w' : World, ws.drew = w' := ⟨_, rfl⟩
  rw [hwc] at HBc hHeld ⊢
  clear hwc
  refine wpAnyH_ready (rs := [0, 4, 8]) (by kernel_rfl) (by simp) ?_
  refine (AllReadyH.cons rfl (fun K hK => ?_) (AllReadyH.cons rfl (fun K hK => ?_) (AllReadyH.cons rfl (fun K hK => ?_) AllReadyH.nil)))
  · go_simp
    obtain ⟨wn, hwn⟩ : ∃ wn : World, wc.alloc (.cells #[] 3) = wn := ⟨_, rfl⟩
    rw [hwn]
    have hb : Below wc.heap.size wc wn := (by rw [← hwn]; exact below_alloc (Nat.le_refl _) _)
    clear hwn
    obtain ⟨g1, hg⟩ : ∃ g, wc.heap.size = g := ⟨_, rfl⟩
    rw [hg]
    clear hg
    replace HBc : Hid (Below ws.heap.size ws wn) := bel HBc.out hb
    clear hb
    have Sn := old_of (HBc.out.mono hn1)
    refine hK.out _ _ Sn (fun hHeld => ?_)
    clear hK K Sn
    (try simp only [List.getElem_toArray, List.getElem_cons_zero, List.getElem_cons_succ, Act.put, List.setIfInBounds_toArray, List.set_cons_zero, List.set_cons_succ])
    obtain ⟨wc, rfl⟩ : ∃ w' : World, w' = wn := ⟨_, rfl⟩
    refine wpAnyH_ready (rs := [3, 4, 8]) (by kernel_rfl) (by simp) ?_
    refine (AllReadyH.cons rfl (fun K hK => ?_) (AllReadyH.cons rfl (fun K hK => ?_) (AllReadyH.cons rfl (fun K hK => ?_) AllReadyH.nil)))
    · rw [if_pos (by rfl)]
      refine wp_cloneIT _ (.tmp 3) (.tmp 5) ?_ ?_ N g1 _ B.ns _ B.C ?_ ?_ (HBK.out.go HBc.out).scions (Nat.le_trans HNS.out HBc.out.size) h40s ?_
      any_goals (exact rfl)
      intro v wn hrow hb
      obtain ⟨d1, e1, rfl⟩ := hrow.form
      have H1 := Lib.hid (hrow.lower HBc.out.size)
      clear hrow
      replace HBc : Hid (Below ws.heap.size ws wn) := bel HBc.out hb
      clear hb
      have Sn := old_of (HBc.out.mono hn1)
      refine hK.out _ _ Sn (fun hHeld => ?_)
      clear hK K Sn
      (try simp only [List.getElem_toArray, List.getElem_cons_zero, List.getElem_cons_succ, Act.put, List.setIfInBounds_toArray, List.set_cons_zero, List.set_cons_succ])
      obtain ⟨wc, rfl⟩ : ∃ w' : World, w' = wn := ⟨_, rfl⟩
      refine wpAnyH_ready (rs := [4, 8]) (by kernel_rfl) (by simp) ?_
      refine (AllReadyH.cons rfl (fun K hK => ?_) (AllReadyH.cons rfl (fun K hK => ?_) AllReadyH.nil))
      · go_simp
        obtain ⟨wn, hwn⟩ : ∃ wn : World, wc.alloc (.cells #[] 49) = wn := ⟨_, rfl⟩
        rw [hwn]
        have hb : Below wc.heap.size wc wn := (by rw [← hwn]; exact below_alloc (Nat.le_refl _) _)
        clear hwn
        obtain ⟨g2, hg⟩ : ∃ g, wc.heap.size = g := ⟨_, rfl⟩
        rw [hg]
        clear hg
        replace H1 := Lib.hid (H1.out.grow hb)
        replace HBc : Hid (Below ws.heap.size ws wn) := bel HBc.out hb
        clear hb
        have Sn := old_of (HBc.out.mono hn1)
        refine hK.out _ _ Sn (fun hHeld => ?_)
        clear hK K Sn
        (try simp only [List.getElem_toArray, List.getElem_cons_zero, List.getElem_cons_succ, Act.put, List.setIfInBounds_toArray, List.set_cons_zero, List.set_cons_succ])
        obtain ⟨wc, rfl⟩ : ∃ w' : World, w' = wn := ⟨_, rfl⟩
        refine wpAnyH_ready (rs := [7, 8]) (by kernel_rfl) (by simp) ?_
        refine (AllReadyH.cons rfl (fun K hK => ?_) (AllReadyH.cons rfl (fun K hK => ?_) AllReadyH.nil))
        · rw [if_pos (by rfl)]
          refine wp_cloneGT _ (.tmp 7) (.tmp 9) ?_ ?_ N g2 _ B.ng _ B.P B.F ?_ ?_ (HBK.out.go HBc.out).gardens (Nat.le_trans HNS.out HBc.out.size) h40g ?_
          any_goals (exact rfl)
          intro v wn hrow hb
          obtain ⟨d2, e2, rfl⟩ := hrow.form
          have H2 := Lib.hid (hrow.lower HBc.out.size)
          clear hrow
          replace H1 := Lib.hid (H1.out.grow hb)
          replace HBc : Hid (Below ws.heap.size ws wn) := bel HBc.out hb
          clear hb
          have Sn := old_of (HBc.out.mono hn1)
          refine hK.out _ _ Sn (fun hHeld => ?_)
          clear hK K Sn
          (try simp only [List.getElem_toArray, List.getElem_cons_zero, List.getElem_cons_succ, Act.put, List.setIfInBounds_toArray, List.set_cons_zero, List.set_cons_succ])
          obtain ⟨wc, rfl⟩ : ∃ w' : World, w' = wn := ⟨_, rfl⟩
          refine wpAnyH_ready (rs := [8]) (by kernel_rfl) (by simp) ?_
          refine (AllReadyH.cons rfl (fun K hK => ?_) AllReadyH.nil)
          · go_simp
            obtain ⟨wn, hwn⟩ : ∃ wn : World, wc.alloc (.cells #[] 43) = wn := ⟨_, rfl⟩
            rw [hwn]
            have hb : Below wc.heap.size wc wn := (by rw [← hwn]; exact below_alloc (Nat.le_refl _) _)
            clear hwn
            obtain ⟨g3, hg⟩ : ∃ g, wc.heap.size = g := ⟨_, rfl⟩
            rw [hg]
            clear hg
            replace H1 := Lib.hid (H1.out.grow hb)
            replace H2 := Lib.hid (H2.out.grow hb)
            replace HBc : Hid (Below ws.heap.size ws wn) := bel HBc.out hb
            clear hb
            have Sn := old_of (HBc.out.mono hn1)
            refine hK.out _ _ Sn (fun hHeld => ?_)
            clear hK K Sn
            (try simp only [List.getElem_toArray, List.getElem_cons_zero, List.getElem_cons_succ, Act.put, List.setIfInBounds_toArray, List.set_cons_zero, List.set_cons_succ])
            obtain ⟨wc, rfl⟩ : ∃ w' : World, w' = wn := ⟨_, rfl⟩
            refine wpAnyH_ready (rs := [11]) (by kernel_rfl) (by simp) ?_
            refine (AllReadyH.cons rfl (fun K hK => ?_) AllReadyH.nil)
            · rw [if_pos (by rfl)]
              refine wp_cloneWT _ (.tmp 11) (.tmp 13) ?_ ?_ N g3 _ B.nw _ B.G B.S ?_ ?_ (HBK.out.go HBc.out).wants (Nat.le_trans HNS.out HBc.out.size) h40w ?_
              any_goals (exact rfl)
              intro v wn hrow hb
              obtain ⟨d3, e3, rfl⟩ := hrow.form
              have H3 := Lib.hid (hrow.lower HBc.out.size)
              clear hrow
              replace H1 := Lib.hid (H1.out.grow hb)
              replace H2 := Lib.hid (H2.out.grow hb)
              replace HBc : Hid (Below ws.heap.size ws wn) := bel HBc.out hb
              clear hb
              have Sn := old_of (HBc.out.mono hn1)
              refine hK.out _ _ Sn (fun hHeld => ?_)
              clear hK K Sn
              (try simp only [List.getElem_toArray, List.getElem_cons_zero, List.getElem_cons_succ, Act.put, List.setIfInBounds_toArray, List.set_cons_zero, List.set_cons_succ])
              obtain ⟨wc, rfl⟩ : ∃ w' : World, w' = wn := ⟨_, rfl⟩
              (refine wpAnyH_take (i := 12) (v := ?_) rfl (by kernel_rfl) (by kernel_rfl) (by kernel_rfl) (fun _ _ _ h => h) (Or.inl ⟨by rfl, ?_⟩) (by assumption) ?_; rotate_left; (focus (intro w hSw; (try dsimp only at hSw); go_simp; (try with_reducible rfl))); (try simp only [List.getElem_toArray, List.getElem_cons_zero, List.getElem_cons_succ, Act.put, List.setIfInBounds_toArray, List.set_cons_zero, List.set_cons_succ]))
              refine wpAnyH_ready (rs := [13]) (by kernel_rfl) (by simp) ?_
              refine AllReadyH.cons rfl (fun K hK => ?_) AllReadyH.nil
              have hz := (HBc.out.block (w.heap.size + 1) hsz1).trans HR1.out
              have z0 := cell_blk hz 0 rfl
              have y0 := free_blk hz 0
              have z1 := cell_blk hz 1 rfl
              have y1 := free_blk hz 1
              have z2 := cell_blk hz 2 rfl
              have y2 := free_blk hz 2
              go_simp
              obtain ⟨wn, hw4, hg4, ho4, hb4⟩ := put3o hz (.slice d1 B.ns e1) (.slice d2 B.ng e2) (.slice d3 B.nw e3)
              rw [hw4]
              have HBn : Hid (Below (w.heap.size + 1) ws wn) := (HBc.out.mono hn1).trans hb4
              have Sn := old_of HBn.out
              refine hK.out _ _ Sn (fun hHeld => ?_)
              clear hK K Sn hHeld
              refine wpAnyH_done (by kernel_rfl) ?_ _
              clear z0 z1 z2 y0 y1 y2 hw4
              have HG4 := Lib.hid hg4
              have HO4 := Lib.hid ho4
              have hq := ho4 w.heap.size (by omega)
              clear hg4 ho4 hq hb4 hz
              go_wp2
              refine bodyPost_ret (v := .agg #[.slice d1 B.ns e1, .slice d2 B.ng e2, .slice d3 B.nw e3]) (resL rfl rfl HG4.out) rfl ?_
              exact ⟨_, rfl, copyT_end HB.out hsz1 HBc.out H1.out H2.out H3.out HBn.out HO4.out⟩
        · go_simp
          obtain ⟨wn, hwn⟩ : ∃ wn : World, wc.alloc (.cells #[] 43) = wn := ⟨_, rfl⟩
          rw [hwn]
          have hb : Below wc.heap.size wc wn := (by rw [← hwn]; exact below_alloc (Nat.le_refl _) _)
          clear hwn
          obtain ⟨g3, hg⟩ : ∃ g, wc.heap.size = g := ⟨_, rfl⟩
          rw [hg]
          clear hg
          replace H1 := Lib.hid (H1.out.grow hb)
          replace HBc : Hid (Below ws.heap.size ws wn) := bel HBc.out hb
          clear hb
          have Sn := old_of (HBc.out.mono hn1)
          refine hK.out _ _ Sn (fun hHeld => ?_)
          clear hK K Sn
          (try simp only [List.getElem_toArray, List.getElem_cons_zero, List.getElem_cons_succ, Act.put, List.setIfInBounds_toArray, List.set_cons_zero, List.set_cons_succ])
          obtain ⟨wc, rfl⟩ : ∃ w' : World, w' = wn := ⟨_, rfl⟩
          refine wpAnyH_ready (rs := [7]) (by kernel_rfl) (by simp) ?_
          refine (AllReadyH.cons rfl (fun K hK => ?_) AllReadyH.nil)
          · rw [if_pos (by rfl)]
            refine wp_cloneGT _ (.tmp 7) (.tmp 9) ?_ ?_ N g2 _ B.ng _ B.P B.F ?_ ?_ (HBK.out.go HBc.out).gardens (Nat.le_trans HNS.out HBc.out.size) h40g ?_
            any_goals (exact rfl)
            intro v wn hrow hb
            obtain ⟨d2, e2, rfl⟩ := hrow.form
            have H2 := Lib.hid (hrow.lower HBc.out.size)
            clear hrow
            replace H1 := Lib.hid (H1.out.grow hb)
            replace HBc : Hid (Below ws.heap.size ws wn) := bel HBc.out hb
            clear hb
            have Sn := old_of (HBc.out.mono hn1)
            refine hK.out _ _ Sn (fun hHeld => ?_)
            clear hK K Sn
            (try simp only [List.getElem_toArray, List.getElem_cons_zero, List.getElem_cons_succ, Act.put, List.setIfInBounds_toArray, List.set_cons_zero, List.set_cons_succ])
            obtain ⟨wc, rfl⟩ : ∃ w' : World, w' = wn := ⟨_, rfl⟩
            refine wpAnyH_ready (rs := [11]) (by kernel_rfl) (by simp) ?_
            refine (AllReadyH.cons rfl (fun K hK => ?_) AllReadyH.nil)
            · rw [if_pos (by rfl)]
              refine wp_cloneWT _ (.tmp 11) (.tmp 13) ?_ ?_ N g3 _ B.nw _ B.G B.S ?_ ?_ (HBK.out.go HBc.out).wants (Nat.le_trans HNS.out HBc.out.size) h40w ?_
              any_goals (exact rfl)
              intro v wn hrow hb
              obtain ⟨d3, e3, rfl⟩ := hrow.form
              have H3 := Lib.hid (hrow.lower HBc.out.size)
              clear hrow
              replace H1 := Lib.hid (H1.out.grow hb)
              replace H2 := Lib.hid (H2.out.grow hb)
              replace HBc : Hid (Below ws.heap.size ws wn) := bel HBc.out hb
              clear hb
              have Sn := old_of (HBc.out.mono hn1)
              refine hK.out _ _ Sn (fun hHeld => ?_)
              clear hK K Sn
              (try simp only [List.getElem_toArray, List.getElem_cons_zero, List.getElem_cons_succ, Act.put, List.setIfInBounds_toArray, List.set_cons_zero, List.set_cons_succ])
              obtain ⟨wc, rfl⟩ : ∃ w' : World, w' = wn := ⟨_, rfl⟩
              (refine wpAnyH_take (i := 12) (v := ?_) rfl (by kernel_rfl) (by kernel_rfl) (by kernel_rfl) (fun _ _ _ h => h) (Or.inl ⟨by rfl, ?_⟩) (by assumption) ?_; rotate_left; (focus (intro w hSw; (try dsimp only at hSw); go_simp; (try with_reducible rfl))); (try simp only [List.getElem_toArray, List.getElem_cons_zero, List.getElem_cons_succ, Act.put, List.setIfInBounds_toArray, List.set_cons_zero, List.set_cons_succ]))
              refine wpAnyH_ready (rs := [13]) (by kernel_rfl) (by simp) ?_
              refine AllReadyH.cons rfl (fun K hK => ?_) AllReadyH.nil
              have hz := (HBc.out.block (w.heap.size + 1) hsz1).trans HR1.out
              have z0 := cell_blk hz 0 rfl
              have y0 := free_blk hz 0
              have z1 := cell_blk hz 1 rfl
              have y1 := free_blk hz 1
              have z2 := cell_blk hz 2 rfl
              have y2 := free_blk hz 2
              go_simp
              obtain ⟨wn, hw4, hg4, ho4, hb4⟩ := put3o hz (.slice d1 B.ns e1) (.slice d2 B.ng e2) (.slice d3 B.nw e3)
              rw [hw4]
              have HBn : Hid (Below (w.heap.size + 1) ws wn) := (HBc.out.mono hn1).trans hb4
              have Sn := old_of HBn.out
              refine hK.out _ _ Sn (fun hHeld => ?_)
              clear hK K Sn hHeld
              refine wpAnyH_done (by kernel_rfl) ?_ _
              clear z0 z1 z2 y0 y1 y2 hw4
              have HG4 := Lib.hid hg4
              have HO4 := Lib.hid ho4
              have hq := ho4 w.heap.size (by omega)
              clear hg4 ho4 hq hb4 hz
              go_wp2
              refine bodyPost_ret (v := .agg #[.slice d1 B.ns e1, .slice d2 B.ng e2, .slice d3 B.nw e3]) (resL rfl rfl HG4.out) rfl ?_
              exact ⟨_, rfl, copyT_end HB.out hsz1 HBc.out H1.out H2.out H3.out HBn.out HO4.out⟩
      · go_simp
        obtain ⟨wn, hwn⟩ : ∃ wn : World, wc.alloc (.cells #[] 43) = wn := ⟨_, rfl⟩
        rw [hwn]
        have hb : Below wc.heap.size wc wn := (by rw [← hwn]; exact below_alloc (Nat.le_refl _) _)
        clear hwn
        obtain ⟨g3, hg⟩ : ∃ g, wc.heap.size = g := ⟨_, rfl⟩
        rw [hg]
        clear hg
        replace H1 := Lib.hid (H1.out.grow hb)
        replace HBc : Hid (Below ws.heap.size ws wn) := bel HBc.out hb
        clear hb
        have Sn := old_of (HBc.out.mono hn1)
        refine hK.out _ _ Sn (fun hHeld => ?_)
        clear hK K Sn
        (try simp only [List.getElem_toArray, List.getElem_cons_zero, List.getElem_cons_succ, Act.put, List.setIfInBounds_toArray, List.set_cons_zero, List.set_cons_succ])
        obtain ⟨wc, rfl⟩ : ∃ w' : World, w' = wn := ⟨_, rfl⟩
        refine wpAnyH_ready (rs := [4]) (by kernel_rfl) (by simp) ?_
        refine (AllReadyH.cons rfl (fun K hK => ?_) AllReadyH.nil)
        · go_simp
          obtain ⟨wn, hwn⟩ : ∃ wn : World, wc.alloc (.cells #[] 49) = wn := ⟨_, rfl⟩
          rw [hwn]
          have hb : Below wc.heap.size wc wn := (by rw [← hwn]; exact below_alloc (Nat.le_refl _) _)
          clear hwn
          obtain ⟨g2, hg⟩ : ∃ g, wc.heap.size = g := ⟨_, rfl⟩
          rw [hg]
          clear hg
          replace H1 := Lib.hid (H1.out.grow hb)
          replace HBc : Hid (Below ws.heap.size ws wn) := bel HBc.out hb
          clear hb
          have Sn := old_of (HBc.out.mono hn1)
          refine hK.out _ _ Sn (fun hHeld => ?_)
          clear hK K Sn
          (try simp only [List.getElem_toArray, List.getElem_cons_zero, List.getElem_cons_succ, Act.put, List.setIfInBounds_toArray, List.set_cons_zero, List.set_cons_succ])
          obtain ⟨wc, rfl⟩ : ∃ w' : World, w' = wn := ⟨_, rfl⟩
          refine wpAnyH_ready (rs := [7]) (by kernel_rfl) (by simp) ?_
          refine (AllReadyH.cons rfl (fun K hK => ?_) AllReadyH.nil)
          · rw [if_pos (by rfl)]
            refine wp_cloneGT _ (.tmp 7) (.tmp 9) ?_ ?_ N g2 _ B.ng _ B.P B.F ?_ ?_ (HBK.out.go HBc.out).gardens (Nat.le_trans HNS.out HBc.out.size) h40g ?_
            any_goals (exact rfl)
            intro v wn hrow hb
            obtain ⟨d2, e2, rfl⟩ := hrow.form
            have H2 := Lib.hid (hrow.lower HBc.out.size)
            clear hrow
            replace H1 := Lib.hid (H1.out.grow hb)
            replace HBc : Hid (Below ws.heap.size ws wn) := bel HBc.out hb
            clear hb
            have Sn := old_of (HBc.out.mono hn1)
            refine hK.out _ _ Sn (fun hHeld => ?_)
            clear hK K Sn
            (try simp only [List.getElem_toArray, List.getElem_cons_zero, List.getElem_cons_succ, Act.put, List.setIfInBounds_toArray, List.set_cons_zero, List.set_cons_succ])
            obtain ⟨wc, rfl⟩ : ∃ w' : World, w' = wn := ⟨_, rfl⟩
            refine wpAnyH_ready (rs := [11]) (by kernel_rfl) (by simp) ?_
            refine (AllReadyH.cons rfl (fun K hK => ?_) AllReadyH.nil)
            · rw [if_pos (by rfl)]
              refine wp_cloneWT _ (.tmp 11) (.tmp 13) ?_ ?_ N g3 _ B.nw _ B.G B.S ?_ ?_ (HBK.out.go HBc.out).wants (Nat.le_trans HNS.out HBc.out.size) h40w ?_
              any_goals (exact rfl)
              intro v wn hrow hb
              obtain ⟨d3, e3, rfl⟩ := hrow.form
              have H3 := Lib.hid (hrow.lower HBc.out.size)
              clear hrow
              replace H1 := Lib.hid (H1.out.grow hb)
              replace H2 := Lib.hid (H2.out.grow hb)
              replace HBc : Hid (Below ws.heap.size ws wn) := bel HBc.out hb
              clear hb
              have Sn := old_of (HBc.out.mono hn1)
              refine hK.out _ _ Sn (fun hHeld => ?_)
              clear hK K Sn
              (try simp only [List.getElem_toArray, List.getElem_cons_zero, List.getElem_cons_succ, Act.put, List.setIfInBounds_toArray, List.set_cons_zero, List.set_cons_succ])
              obtain ⟨wc, rfl⟩ : ∃ w' : World, w' = wn := ⟨_, rfl⟩
              (refine wpAnyH_take (i := 12) (v := ?_) rfl (by kernel_rfl) (by kernel_rfl) (by kernel_rfl) (fun _ _ _ h => h) (Or.inl ⟨by rfl, ?_⟩) (by assumption) ?_; rotate_left; (focus (intro w hSw; (try dsimp only at hSw); go_simp; (try with_reducible rfl))); (try simp only [List.getElem_toArray, List.getElem_cons_zero, List.getElem_cons_succ, Act.put, List.setIfInBounds_toArray, List.set_cons_zero, List.set_cons_succ]))
              refine wpAnyH_ready (rs := [13]) (by kernel_rfl) (by simp) ?_
              refine AllReadyH.cons rfl (fun K hK => ?_) AllReadyH.nil
              have hz := (HBc.out.block (w.heap.size + 1) hsz1).trans HR1.out
              have z0 := cell_blk hz 0 rfl
              have y0 := free_blk hz 0
              have z1 := cell_blk hz 1 rfl
              have y1 := free_blk hz 1
              have z2 := cell_blk hz 2 rfl
              have y2 := free_blk hz 2
              go_simp
              obtain ⟨wn, hw4, hg4, ho4, hb4⟩ := put3o hz (.slice d1 B.ns e1) (.slice d2 B.ng e2) (.slice d3 B.nw e3)
              rw [hw4]
              have HBn : Hid (Below (w.heap.size + 1) ws wn) := (HBc.out.mono hn1).trans hb4
              have Sn := old_of HBn.out
              refine hK.out _ _ Sn (fun hHeld => ?_)
              clear hK K Sn hHeld
              refine wpAnyH_done (by kernel_rfl) ?_ _
              clear z0 z1 z2 y0 y1 y2 hw4
              have HG4 := Lib.hid hg4
              have HO4 := Lib.hid ho4
              have hq := ho4 w.heap.size (by omega)
              clear hg4 ho4 hq hb4 hz
              go_wp2
              refine bodyPost_ret (v := .agg #[.slice d1 B.ns e1, .slice d2 B.ng e2, .slice d3 B.nw e3]) (resL rfl rfl HG4.out) rfl ?_
              exact ⟨_, rfl, copyT_end HB.out hsz1 HBc.out H1.out H2.out H3.out HBn.out HO4.out⟩
    · go_simp
      obtain ⟨wn, hwn⟩ : ∃ wn : World, wc.alloc (.cells #[] 49) = wn := ⟨_, rfl⟩
      rw [hwn]
      have hb : Below wc.heap.size wc wn := (by rw [← hwn]; exact below_alloc (Nat.le_refl _) _)
      clear hwn
      obtain ⟨g2, hg⟩ : ∃ g, wc.heap.size = g := ⟨_, rfl⟩
      rw [hg]
      clear hg
      replace HBc : Hid (Below ws.heap.size ws wn) := bel HBc.out hb
      clear hb
      have Sn := old_of (HBc.out.mono hn1)
      refine hK.out _ _ Sn (fun hHeld => ?_)
      clear hK K Sn
      (try simp only [List.getElem_toArray, List.getElem_cons_zero, List.getElem_cons_succ, Act.put, List.setIfInBounds_toArray, List.set_cons_zero, List.set_cons_succ])
      obtain ⟨wc, rfl⟩ : ∃ w' : World, w' = wn := ⟨_, rfl⟩
      refine wpAnyH_ready (rs := [3, 8]) (by kernel_rfl) (by simp) ?_
      refine (AllReadyH.cons rfl (fun K hK => ?_) (AllReadyH.cons rfl (fun K hK => ?_) AllReadyH.nil))
      · rw [if_pos (by rfl)]
        refine wp_cloneIT _ (.tmp 3) (.tmp 5) ?_ ?_ N g1 _ B.ns _ B.C ?_ ?_ (HBK.out.go HBc.out).scions (Nat.le_trans HNS.out HBc.out.size) h40s ?_
        any_goals (exact rfl)
        intro v wn hrow hb
        obtain ⟨d1, e1, rfl⟩ := hrow.form
        have H1 := Lib.hid (hrow.lower HBc.out.size)
        clear hrow
        replace HBc : Hid (Below ws.heap.size ws wn) := bel HBc.out hb
        clear hb
        have Sn := old_of (HBc.out.mono hn1)
        refine hK.out _ _ Sn (fun hHeld => ?_)
        clear hK K Sn
        (try simp only [List.getElem_toArray, List.getElem_cons_zero, List.getElem_cons_succ, Act.put, List.setIfInBounds_toArray, List.set_cons_zero, List.set_cons_succ])
        obtain ⟨wc, rfl⟩ : ∃ w' : World, w' = wn := ⟨_, rfl⟩
        refine wpAnyH_ready (rs := [7, 8]) (by kernel_rfl) (by simp) ?_
        refine (AllReadyH.cons rfl (fun K hK => ?_) (AllReadyH.cons rfl (fun K hK => ?_) AllReadyH.nil))
        · rw [if_pos (by rfl)]
          refine wp_cloneGT _ (.tmp 7) (.tmp 9) ?_ ?_ N g2 _ B.ng _ B.P B.F ?_ ?_ (HBK.out.go HBc.out).gardens (Nat.le_trans HNS.out HBc.out.size) h40g ?_
          any_goals (exact rfl)
          intro v wn hrow hb
          obtain ⟨d2, e2, rfl⟩ := hrow.form
          have H2 := Lib.hid (hrow.lower HBc.out.size)
          clear hrow
          replace H1 := Lib.hid (H1.out.grow hb)
          replace HBc : Hid (Below ws.heap.size ws wn) := bel HBc.out hb
          clear hb
          have Sn := old_of (HBc.out.mono hn1)
          refine hK.out _ _ Sn (fun hHeld => ?_)
          clear hK K Sn
          (try simp only [List.getElem_toArray, List.getElem_cons_zero, List.getElem_cons_succ, Act.put, List.setIfInBounds_toArray, List.set_cons_zero, List.set_cons_succ])
          obtain ⟨wc, rfl⟩ : ∃ w' : World, w' = wn := ⟨_, rfl⟩
          refine wpAnyH_ready (rs := [8]) (by kernel_rfl) (by simp) ?_
          refine (AllReadyH.cons rfl (fun K hK => ?_) AllReadyH.nil)
          · go_simp
            obtain ⟨wn, hwn⟩ : ∃ wn : World, wc.alloc (.cells #[] 43) = wn := ⟨_, rfl⟩
            rw [hwn]
            have hb : Below wc.heap.size wc wn := (by rw [← hwn]; exact below_alloc (Nat.le_refl _) _)
            clear hwn
            obtain ⟨g3, hg⟩ : ∃ g, wc.heap.size = g := ⟨_, rfl⟩
            rw [hg]
            clear hg
            replace H1 := Lib.hid (H1.out.grow hb)
            replace H2 := Lib.hid (H2.out.grow hb)
            replace HBc : Hid (Below ws.heap.size ws wn) := bel HBc.out hb
            clear hb
            have Sn := old_of (HBc.out.mono hn1)
            refine hK.out _ _ Sn (fun hHeld => ?_)
            clear hK K Sn
            (try simp only [List.getElem_toArray, List.getElem_cons_zero, List.getElem_cons_succ, Act.put, List.setIfInBounds_toArray, List.set_cons_zero, List.set_cons_succ])
            obtain ⟨wc, rfl⟩ : ∃ w' : World, w' = wn := ⟨_, rfl⟩
            refine wpAnyH_ready (rs := [11]) (by kernel_rfl) (by simp) ?_
            refine (AllReadyH.cons rfl (fun K hK => ?_) AllReadyH.nil)
            · rw [if_pos (by rfl)]
              refine wp_cloneWT _ (.tmp 11) (.tmp 13) ?_ ?_ N g3 _ B.nw _ B.G B.S ?_ ?_ (HBK.out.go HBc.out).wants (Nat.le_trans HNS.out HBc.out.size) h40w ?_
              any_goals (exact rfl)
              intro v wn hrow hb
              obtain ⟨d3, e3, rfl⟩ := hrow.form
              have H3 := Lib.hid (hrow.lower HBc.out.size)
              clear hrow
              replace H1 := Lib.hid (H1.out.grow hb)
              replace H2 := Lib.hid (H2.out.grow hb)
              replace HBc : Hid (Below ws.heap.size ws wn) := bel HBc.out hb
              clear hb
              have Sn := old_of (HBc.out.mono hn1)
              refine hK.out _ _ Sn (fun hHeld => ?_)
              clear hK K Sn
              (try simp only [List.getElem_toArray, List.getElem_cons_zero, List.getElem_cons_succ, Act.put, List.setIfInBounds_toArray, List.set_cons_zero, List.set_cons_succ])
              obtain ⟨wc, rfl⟩ : ∃ w' : World, w' = wn := ⟨_, rfl⟩
              (refine wpAnyH_take (i := 12) (v := ?_) rfl (by kernel_rfl) (by kernel_rfl) (by kernel_rfl) (fun _ _ _ h => h) (Or.inl ⟨by rfl, ?_⟩) (by assumption) ?_; rotate_left; (focus (intro w hSw; (try dsimp only at hSw); go_simp; (try with_reducible rfl))); (try simp only [List.getElem_toArray, List.getElem_cons_zero, List.getElem_cons_succ, Act.put, List.setIfInBounds_toArray, List.set_cons_zero, List.set_cons_succ]))
              refine wpAnyH_ready (rs := [13]) (by kernel_rfl) (by simp) ?_
              refine AllReadyH.cons rfl (fun K hK => ?_) AllReadyH.nil
              have hz := (HBc.out.block (w.heap.size + 1) hsz1).trans HR1.out
              have z0 := cell_blk hz 0 rfl
              have y0 := free_blk hz 0
              have z1 := cell_blk hz 1 rfl
              have y1 := free_blk hz 1
              have z2 := cell_blk hz 2 rfl
              have y2 := free_blk hz 2
              go_simp
              obtain ⟨wn, hw4, hg4, ho4, hb4⟩ := put3o hz (.slice d1 B.ns e1) (.slice d2 B.ng e2) (.slice d3 B.nw e3)
              rw [hw4]
              have HBn : Hid (Below (w.heap.size + 1) ws wn) := (HBc.out.mono hn1).trans hb4
              have Sn := old_of HBn.out
              refine hK.out _ _ Sn (fun hHeld => ?_)
              clear hK K Sn hHeld
              refine wpAnyH_done (by kernel_rfl) ?_ _
              clear z0 z1 z2 y0 y1 y2 hw4
              have HG4 := Lib.hid hg4
              have HO4 := Lib.hid ho4
              have hq := ho4 w.heap.size (by omega)
              clear hg4 ho4 hq hb4 hz
              go_wp2
              refine bodyPost_ret (v := .agg #[.slice d1 B.ns e1, .slice d2 B.ng e2, .slice d3 B.nw e3]) (resL rfl rfl HG4.out) rfl ?_
              exact ⟨_, rfl, copyT_end HB.out hsz1 HBc.out H1.out H2.out H3.out HBn.out HO4.out⟩
        · go_simp
          obtain ⟨wn, hwn⟩ : ∃ wn : World, wc.alloc (.cells #[] 43) = wn := ⟨_, rfl⟩
          rw [hwn]
          have hb : Below wc.heap.size wc wn := (by rw [← hwn]; exact below_alloc (Nat.le_refl _) _)
          clear hwn
          obtain ⟨g3, hg⟩ : ∃ g, wc.heap.size = g := ⟨_, rfl⟩
          rw [hg]
          clear hg
          replace H1 := Lib.hid (H1.out.grow hb)
          replace HBc : Hid (Below ws.heap.size ws wn) := bel HBc.out hb
          clear hb
          have Sn := old_of (HBc.out.mono hn1)
          refine hK.out _ _ Sn (fun hHeld => ?_)
          clear hK K Sn
          (try simp only [List.getElem_toArray, List.getElem_cons_zero, List.getElem_cons_succ, Act.put, List.setIfInBounds_toArray, List.set_cons_zero, List.set_cons_succ])
          obtain ⟨wc, rfl⟩ : ∃ w' : World, w' = wn := ⟨_, rfl⟩
          refine wpAnyH_ready (rs := [7]) (by kernel_rfl) (by simp) ?_
          refine (AllReadyH.cons rfl (fun K hK => ?_) AllReadyH.nil)
          · rw [if_pos (by rfl)]
            refine wp_cloneGT _ (.tmp 7) (.tmp 9) ?_ ?_ N g2 _ B.ng _ B.P B.F ?_ ?_ (HBK.out.go HBc.out).gardens (Nat.le_trans HNS.out HBc.out.size) h40g ?_
            any_goals (exact rfl)
            intro v wn hrow hb
            obtain ⟨d2, e2, rfl⟩ := hrow.form
            have H2 := Lib.hid (hrow.lower HBc.out.size)
            clear hrow
            replace H1 := Lib.hid (H1.out.grow hb)
            replace HBc : Hid (Below ws.heap.size ws wn) := bel HBc.out hb
            clear hb
            have Sn := old_of (HBc.out.mono hn1)
            refine hK.out _ _ Sn (fun hHeld => ?_)
            clear hK K Sn
            (try simp only [List.getElem_toArray, List.getElem_cons_zero, List.getElem_cons_succ, Act.put, List.setIfInBounds_toArray, List.set_cons_zero, List.set_cons_succ])
            obtain ⟨wc, rfl⟩ : ∃ w' : World, w' = wn := ⟨_, rfl⟩
            refine wpAnyH_ready (rs := [11]) (by kernel_rfl) (by simp) ?_
            refine (AllReadyH.cons rfl (fun K hK => ?_) AllReadyH.nil)
            · rw [if_pos (by rfl)]
              refine wp_cloneWT _ (.tmp 11) (.tmp 13) ?_ ?_ N g3 _ B.nw _ B.G B.S ?_ ?_ (HBK.out.go HBc.out).wants (Nat.le_trans HNS.out HBc.out.size) h40w ?_
              any_goals (exact rfl)
              intro v wn hrow hb
              obtain ⟨d3, e3, rfl⟩ := hrow.form
              have H3 := Lib.hid (hrow.lower HBc.out.size)
              clear hrow
              replace H1 := Lib.hid (H1.out.grow hb)
              replace H2 := Lib.hid (H2.out.grow hb)
              replace HBc : Hid (Below ws.heap.size ws wn) := bel HBc.out hb
              clear hb
              have Sn := old_of (HBc.out.mono hn1)
              refine hK.out _ _ Sn (fun hHeld => ?_)
              clear hK K Sn
              (try simp only [List.getElem_toArray, List.getElem_cons_zero, List.getElem_cons_succ, Act.put, List.setIfInBounds_toArray, List.set_cons_zero, List.set_cons_succ])
              obtain ⟨wc, rfl⟩ : ∃ w' : World, w' = wn := ⟨_, rfl⟩
              (refine wpAnyH_take (i := 12) (v := ?_) rfl (by kernel_rfl) (by kernel_rfl) (by kernel_rfl) (fun _ _ _ h => h) (Or.inl ⟨by rfl, ?_⟩) (by assumption) ?_; rotate_left; (focus (intro w hSw; (try dsimp only at hSw); go_simp; (try with_reducible rfl))); (try simp only [List.getElem_toArray, List.getElem_cons_zero, List.getElem_cons_succ, Act.put, List.setIfInBounds_toArray, List.set_cons_zero, List.set_cons_succ]))
              refine wpAnyH_ready (rs := [13]) (by kernel_rfl) (by simp) ?_
              refine AllReadyH.cons rfl (fun K hK => ?_) AllReadyH.nil
              have hz := (HBc.out.block (w.heap.size + 1) hsz1).trans HR1.out
              have z0 := cell_blk hz 0 rfl
              have y0 := free_blk hz 0
              have z1 := cell_blk hz 1 rfl
              have y1 := free_blk hz 1
              have z2 := cell_blk hz 2 rfl
              have y2 := free_blk hz 2
              go_simp
              obtain ⟨wn, hw4, hg4, ho4, hb4⟩ := put3o hz (.slice d1 B.ns e1) (.slice d2 B.ng e2) (.slice d3 B.nw e3)
              rw [hw4]
              have HBn : Hid (Below (w.heap.size + 1) ws wn) := (HBc.out.mono hn1).trans hb4
              have Sn := old_of HBn.out
              refine hK.out _ _ Sn (fun hHeld => ?_)
              clear hK K Sn hHeld
              refine wpAnyH_done (by kernel_rfl) ?_ _
              clear z0 z1 z2 y0 y1 y2 hw4
              have HG4 := Lib.hid hg4
              have HO4 := Lib.hid ho4
              have hq := ho4 w.heap.size (by omega)
              clear hg4 ho4 hq hb4 hz
              go_wp2
              refine bodyPost_ret (v := .agg #[.slice d1 B.ns e1, .slice d2 B.ng e2, .slice d3 B.nw e3]) (resL rfl rfl HG4.out) rfl ?_
              exact ⟨_, rfl, copyT_end HB.out hsz1 HBc.out H1.out H2.out H3.out HBn.out HO4.out⟩
      · go_simp
        obtain ⟨wn, hwn⟩ : ∃ wn : World, wc.alloc (.cells #[] 43) = wn := ⟨_, rfl⟩
        rw [hwn]
        have hb : Below wc.heap.size wc wn := (by rw [← hwn]; exact below_alloc (Nat.le_refl _) _)
        clear hwn
        obtain ⟨g3, hg⟩ : ∃ g, wc.heap.size = g := ⟨_, rfl⟩
        rw [hg]
        clear hg
        replace HBc : Hid (Below ws.heap.size ws wn) := bel HBc.out hb
        clear hb
        have Sn := old_of (HBc.out.mono hn1)
        refine hK.out _ _ Sn (fun hHeld => ?_)
        clear hK K Sn
        (try simp only [List.getElem_toArray, List.getElem_cons_zero, List.getElem_cons_succ, Act.put, List.setIfInBounds_toArray, List.set_cons_zero, List.set_cons_succ])
        obtain ⟨wc, rfl⟩ : ∃ w' : World, w' = wn := ⟨_, rfl⟩
        refine wpAnyH_ready (rs := [3]) (by kernel_rfl) (by simp) ?_
        refine (AllReadyH.cons rfl (fun K hK => ?_) AllReadyH.nil)
        · rw [if_pos (by rfl)]
          refine wp_cloneIT _ (.tmp 3) (.tmp 5) ?_ ?_ N g1 _ B.ns _ B.C ?_ ?_ (HBK.out.go HBc.out).scions (Nat.le_trans HNS.out HBc.out.size) h40s ?_
          any_goals (exact rfl)
          intro v wn hrow hb
          obtain ⟨d1, e1, rfl⟩ := hrow.form
          have H1 := Lib.hid (hrow.lower HBc.out.size)
          clear hrow
          replace HBc : Hid (Below ws.heap.size ws wn) := bel HBc.out hb
          clear hb
          have Sn := old_of (HBc.out.mono hn1)
          refine hK.out _ _ Sn (fun hHeld => ?_)
          clear hK K Sn
          (try simp only [List.getElem_toArray, List.getElem_cons_zero, List.getElem_cons_succ, Act.put, List.setIfInBounds_toArray, List.set_cons_zero, List.set_cons_succ])
          obtain ⟨wc, rfl⟩ : ∃ w' : World, w' = wn := ⟨_, rfl⟩
          refine wpAnyH_ready (rs := [7]) (by kernel_rfl) (by simp) ?_
          refine (AllReadyH.cons rfl (fun K hK => ?_) AllReadyH.nil)
          · rw [if_pos (by rfl)]
            refine wp_cloneGT _ (.tmp 7) (.tmp 9) ?_ ?_ N g2 _ B.ng _ B.P B.F ?_ ?_ (HBK.out.go HBc.out).gardens (Nat.le_trans HNS.out HBc.out.size) h40g ?_
            any_goals (exact rfl)
            intro v wn hrow hb
            obtain ⟨d2, e2, rfl⟩ := hrow.form
            have H2 := Lib.hid (hrow.lower HBc.out.size)
            clear hrow
            replace H1 := Lib.hid (H1.out.grow hb)
            replace HBc : Hid (Below ws.heap.size ws wn) := bel HBc.out hb
            clear hb
            have Sn := old_of (HBc.out.mono hn1)
            refine hK.out _ _ Sn (fun hHeld => ?_)
            clear hK K Sn
            (try simp only [List.getElem_toArray, List.getElem_cons_zero, List.getElem_cons_succ, Act.put, List.setIfInBounds_toArray, List.set_cons_zero, List.set_cons_succ])
            obtain ⟨wc, rfl⟩ : ∃ w' : World, w' = wn := ⟨_, rfl⟩
            refine wpAnyH_ready (rs := [11]) (by kernel_rfl) (by simp) ?_
            refine (AllReadyH.cons rfl (fun K hK => ?_) AllReadyH.nil)
            · rw [if_pos (by rfl)]
              refine wp_cloneWT _ (.tmp 11) (.tmp 13) ?_ ?_ N g3 _ B.nw _ B.G B.S ?_ ?_ (HBK.out.go HBc.out).wants (Nat.le_trans HNS.out HBc.out.size) h40w ?_
              any_goals (exact rfl)
              intro v wn hrow hb
              obtain ⟨d3, e3, rfl⟩ := hrow.form
              have H3 := Lib.hid (hrow.lower HBc.out.size)
              clear hrow
              replace H1 := Lib.hid (H1.out.grow hb)
              replace H2 := Lib.hid (H2.out.grow hb)
              replace HBc : Hid (Below ws.heap.size ws wn) := bel HBc.out hb
              clear hb
              have Sn := old_of (HBc.out.mono hn1)
              refine hK.out _ _ Sn (fun hHeld => ?_)
              clear hK K Sn
              (try simp only [List.getElem_toArray, List.getElem_cons_zero, List.getElem_cons_succ, Act.put, List.setIfInBounds_toArray, List.set_cons_zero, List.set_cons_succ])
              obtain ⟨wc, rfl⟩ : ∃ w' : World, w' = wn := ⟨_, rfl⟩
              (refine wpAnyH_take (i := 12) (v := ?_) rfl (by kernel_rfl) (by kernel_rfl) (by kernel_rfl) (fun _ _ _ h => h) (Or.inl ⟨by rfl, ?_⟩) (by assumption) ?_; rotate_left; (focus (intro w hSw; (try dsimp only at hSw); go_simp; (try with_reducible rfl))); (try simp only [List.getElem_toArray, List.getElem_cons_zero, List.getElem_cons_succ, Act.put, List.setIfInBounds_toArray, List.set_cons_zero, List.set_cons_succ]))
              refine wpAnyH_ready (rs := [13]) (by kernel_rfl) (by simp) ?_
              refine AllReadyH.cons rfl (fun K hK => ?_) AllReadyH.nil
              have hz := (HBc.out.block (w.heap.size + 1) hsz1).trans HR1.out
              have z0 := cell_blk hz 0 rfl
              have y0 := free_blk hz 0
              have z1 := cell_blk hz 1 rfl
              have y1 := free_blk hz 1
              have z2 := cell_blk hz 2 rfl
              have y2 := free_blk hz 2
              go_simp
              obtain ⟨wn, hw4, hg4, ho4, hb4⟩ := put3o hz (.slice d1 B.ns e1) (.slice d2 B.ng e2) (.slice d3 B.nw e3)
              rw [hw4]
              have HBn : Hid (Below (w.heap.size + 1) ws wn) := (HBc.out.mono hn1).trans hb4
              have Sn := old_of HBn.out
              refine hK.out _ _ Sn (fun hHeld => ?_)
              clear hK K Sn hHeld
              refine wpAnyH_done (by kernel_rfl) ?_ _
              clear z0 z1 z2 y0 y1 y2 hw4
              have HG4 := Lib.hid hg4
              have HO4 := Lib.hid ho4
              have hq := ho4 w.heap.size (by omega)
              clear hg4 ho4 hq hb4 hz
              go_wp2
              refine bodyPost_ret (v := .agg #[.slice d1 B.ns e1, .slice d2 B.ng e2, .slice d3 B.nw e3]) (resL rfl rfl HG4.out) rfl ?_
              exact ⟨_, rfl, copyT_end HB.out hsz1 HBc.out H1.out H2.out H3.out HBn.out HO4.out⟩
    · go_simp
      obtain ⟨wn, hwn⟩ : ∃ wn : World, wc.alloc (.cells #[] 43) = wn := ⟨_, rfl⟩
      rw [hwn]
      have hb : Below wc.heap.size wc wn := (by rw [← hwn]; exact below_alloc (Nat.le_refl _) _)
      clear hwn
      obtain ⟨g3, hg⟩ : ∃ g, wc.heap.size = g := ⟨_, rfl⟩
      rw [hg]
      clear hg
      replace HBc : Hid (Below ws.heap.size ws wn) := bel HBc.out hb
      clear hb
      have Sn := old_of (HBc.out.mono hn1)
      refine hK.out _ _ Sn (fun hHeld => ?_)
      clear hK K Sn
      (try simp only [List.getElem_toArray, List.getElem_cons_zero, List.getElem_cons_succ, Act.put, List.setIfInBounds_toArray, List.set_cons_zero, List.set_cons_succ])
      obtain ⟨wc, rfl⟩ : ∃ w' : World, w' = wn := ⟨_, rfl⟩
      refine wpAnyH_ready (rs := [3, 4]) (by kernel_rfl) (by simp) ?_
      refine (AllReadyH.cons rfl (fun K hK => ?_) (AllReadyH.cons rfl (fun K hK => ?_) AllReadyH.nil))
      · rw [if_pos (by rfl)]
        refine wp_cloneIT _ (.tmp 3) (.tmp 5) ?_ ?_ N g1 _ B.ns _ B.C ?_ ?_ (HBK.out.go HBc.out).scions (Nat.le_trans HNS.out HBc.out.size) h40s ?_
        any_goals (exact rfl)
        intro v wn hrow hb
        obtain ⟨d1, e1, rfl⟩ := hrow.form
        have H1 := Lib.hid (hrow.lower HBc.out.size)
        clear hrow
        replace HBc : Hid (Below ws.heap.size ws wn) := bel HBc.out hb
        clear hb
        have Sn := old_of (HBc.out.mono hn1)
        refine hK.out _ _ Sn (fun hHeld => ?_)
        clear hK K Sn
        (try simp only [List.getElem_toArray, List.getElem_cons_zero, List.getElem_cons_succ, Act.put, List.setIfInBounds_toArray, List.set_cons_zero, List.set_cons_succ])
        obtain ⟨wc, rfl⟩ : ∃ w' : World, w' = wn := ⟨_, rfl⟩
        refine wpAnyH_ready (rs := [4]) (by kernel_rfl) (by simp) ?_
        refine (AllReadyH.cons rfl (fun K hK => ?_) AllReadyH.nil)
        · go_simp
          obtain ⟨wn, hwn⟩ : ∃ wn : World, wc.alloc (.cells #[] 49) = wn := ⟨_, rfl⟩
          rw [hwn]
          have hb : Below wc.heap.size wc wn := (by rw [← hwn]; exact below_alloc (Nat.le_refl _) _)
          clear hwn
          obtain ⟨g2, hg⟩ : ∃ g, wc.heap.size = g := ⟨_, rfl⟩
          rw [hg]
          clear hg
          replace H1 := Lib.hid (H1.out.grow hb)
          replace HBc : Hid (Below ws.heap.size ws wn) := bel HBc.out hb
          clear hb
          have Sn := old_of (HBc.out.mono hn1)
          refine hK.out _ _ Sn (fun hHeld => ?_)
          clear hK K Sn
          (try simp only [List.getElem_toArray, List.getElem_cons_zero, List.getElem_cons_succ, Act.put, List.setIfInBounds_toArray, List.set_cons_zero, List.set_cons_succ])
          obtain ⟨wc, rfl⟩ : ∃ w' : World, w' = wn := ⟨_, rfl⟩
          refine wpAnyH_ready (rs := [7]) (by kernel_rfl) (by simp) ?_
          refine (AllReadyH.cons rfl (fun K hK => ?_) AllReadyH.nil)
          · rw [if_pos (by rfl)]
            refine wp_cloneGT _ (.tmp 7) (.tmp 9) ?_ ?_ N g2 _ B.ng _ B.P B.F ?_ ?_ (HBK.out.go HBc.out).gardens (Nat.le_trans HNS.out HBc.out.size) h40g ?_
            any_goals (exact rfl)
            intro v wn hrow hb
            obtain ⟨d2, e2, rfl⟩ := hrow.form
            have H2 := Lib.hid (hrow.lower HBc.out.size)
            clear hrow
            replace H1 := Lib.hid (H1.out.grow hb)
            replace HBc : Hid (Below ws.heap.size ws wn) := bel HBc.out hb
            clear hb
            have Sn := old_of (HBc.out.mono hn1)
            refine hK.out _ _ Sn (fun hHeld => ?_)
            clear hK K Sn
            (try simp only [List.getElem_toArray, List.getElem_cons_zero, List.getElem_cons_succ, Act.put, List.setIfInBounds_toArray, List.set_cons_zero, List.set_cons_succ])
            obtain ⟨wc, rfl⟩ : ∃ w' : World, w' = wn := ⟨_, rfl⟩
            refine wpAnyH_ready (rs := [11]) (by kernel_rfl) (by simp) ?_
            refine (AllReadyH.cons rfl (fun K hK => ?_) AllReadyH.nil)
            · rw [if_pos (by rfl)]
              refine wp_cloneWT _ (.tmp 11) (.tmp 13) ?_ ?_ N g3 _ B.nw _ B.G B.S ?_ ?_ (HBK.out.go HBc.out).wants (Nat.le_trans HNS.out HBc.out.size) h40w ?_
              any_goals (exact rfl)
              intro v wn hrow hb
              obtain ⟨d3, e3, rfl⟩ := hrow.form
              have H3 := Lib.hid (hrow.lower HBc.out.size)
              clear hrow
              replace H1 := Lib.hid (H1.out.grow hb)
              replace H2 := Lib.hid (H2.out.grow hb)
              replace HBc : Hid (Below ws.heap.size ws wn) := bel HBc.out hb
              clear hb
              have Sn := old_of (HBc.out.mono hn1)
              refine hK.out _ _ Sn (fun hHeld => ?_)
              clear hK K Sn
              (try simp only [List.getElem_toArray, List.getElem_cons_zero, List.getElem_cons_succ, Act.put, List.setIfInBounds_toArray, List.set_cons_zero, List.set_cons_succ])
              obtain ⟨wc, rfl⟩ : ∃ w' : World, w' = wn := ⟨_, rfl⟩
              (refine wpAnyH_take (i := 12) (v := ?_) rfl (by kernel_rfl) (by kernel_rfl) (by kernel_rfl) (fun _ _ _ h => h) (Or.inl ⟨by rfl, ?_⟩) (by assumption) ?_; rotate_left; (focus (intro w hSw; (try dsimp only at hSw); go_simp; (try with_reducible rfl))); (try simp only [List.getElem_toArray, List.getElem_cons_zero, List.getElem_cons_succ, Act.put, List.setIfInBounds_toArray, List.set_cons_zero, List.set_cons_succ]))
              refine wpAnyH_ready (rs := [13]) (by kernel_rfl) (by simp) ?_
              refine AllReadyH.cons rfl (fun K hK => ?_) AllReadyH.nil
              have hz := (HBc.out.block (w.heap.size + 1) hsz1).trans HR1.out
              have z0 := cell_blk hz 0 rfl
              have y0 := free_blk hz 0
              have z1 := cell_blk hz 1 rfl
              have y1 := free_blk hz 1
              have z2 := cell_blk hz 2 rfl
              have y2 := free_blk hz 2
              go_simp
              obtain ⟨wn, hw4, hg4, ho4, hb4⟩ := put3o hz (.slice d1 B.ns e1) (.slice d2 B.ng e2) (.slice d3 B.nw e3)
              rw [hw4]
              have HBn : Hid (Below (w.heap.size + 1) ws wn) := (HBc.out.mono hn1).trans hb4
              have Sn := old_of HBn.out
              refine hK.out _ _ Sn (fun hHeld => ?_)
              clear hK K Sn hHeld
              refine wpAnyH_done (by kernel_rfl) ?_ _
              clear z0 z1 z2 y0 y1 y2 hw4
              have HG4 := Lib.hid hg4
              have HO4 := Lib.hid ho4
              have hq := ho4 w.heap.size (by omega)
              clear hg4 ho4 hq hb4 hz
              go_wp2
              refine bodyPost_ret (v := .agg #[.slice d1 B.ns e1, .slice d2 B.ng e2, .slice d3 B.nw e3]) (resL rfl rfl HG4.out) rfl ?_
              exact ⟨_, rfl, copyT_end HB.out hsz1 HBc.out H1.out H2.out H3.out HBn.out HO4.out⟩
      · go_simp
        obtain ⟨wn, hwn⟩ : ∃ wn : World, wc.alloc (.cells #[] 49) = wn := ⟨_, rfl⟩
        rw [hwn]
        have hb : Below wc.heap.size wc wn := (by rw [← hwn]; exact below_alloc (Nat.le_refl _) _)
        clear hwn
        obtain ⟨g2, hg⟩ : ∃ g, wc.heap.size = g := ⟨_, rfl⟩
        rw [hg]
        clear hg
        replace HBc : Hid (Below ws.heap.size ws wn) := bel HBc.out hb
        clear hb
        have Sn := old_of (HBc.out.mono hn1)
        refine hK.out _ _ Sn (fun hHeld => ?_)
        clear hK K Sn
        (try simp only [List.getElem_toArray, List.getElem_cons_zero, List.getElem_cons_succ, Act.put, List.setIfInBounds_toArray, List.set_cons_zero, List.set_cons_succ])
        obtain ⟨wc, rfl⟩ : ∃ w' : World, w' = wn := ⟨_, rfl⟩
        refine wpAnyH_ready (rs := [3]) (by kernel_rfl) (by simp) ?_
        refine (AllReadyH.cons rfl (fun K hK => ?_) AllReadyH.nil)
        · rw [if_pos (by rfl)]
          refine wp_cloneIT _ (.tmp 3) (.tmp 5) ?_ ?_ N g1 _ B.ns _ B.C ?_ ?_ (HBK.out.go HBc.out).scions (Nat.le_trans HNS.out HBc.out.size) h40s ?_
          any_goals (exact rfl)
          intro v wn hrow hb
          obtain ⟨d1, e1, rfl⟩ := hrow.form
          have H1 := Lib.hid (hrow.lower HBc.out.size)
          clear hrow
          replace HBc : Hid (Below ws.heap.size ws wn) := bel HBc.out hb
          clear hb
          have Sn := old_of (HBc.out.mono hn1)
          refine hK.out _ _ Sn (fun hHeld => ?_)
          clear hK K Sn
          (try simp only [List.getElem_toArray, List.getElem_cons_zero, List.getElem_cons_succ, Act.put, List.setIfInBounds_toArray, List.set_cons_zero, List.set_cons_succ])
          obtain ⟨wc, rfl⟩ : ∃ w' : World, w' = wn := ⟨_, rfl⟩
          refine wpAnyH_ready (rs := [7]) (by kernel_rfl) (by simp) ?_
          refine (AllReadyH.cons rfl (fun K hK => ?_) AllReadyH.nil)
          · rw [if_pos (by rfl)]
            refine wp_cloneGT _ (.tmp 7) (.tmp 9) ?_ ?_ N g2 _ B.ng _ B.P B.F ?_ ?_ (HBK.out.go HBc.out).gardens (Nat.le_trans HNS.out HBc.out.size) h40g ?_
            any_goals (exact rfl)
            intro v wn hrow hb
            obtain ⟨d2, e2, rfl⟩ := hrow.form
            have H2 := Lib.hid (hrow.lower HBc.out.size)
            clear hrow
            replace H1 := Lib.hid (H1.out.grow hb)
            replace HBc : Hid (Below ws.heap.size ws wn) := bel HBc.out hb
            clear hb
            have Sn := old_of (HBc.out.mono hn1)
            refine hK.out _ _ Sn (fun hHeld => ?_)
            clear hK K Sn
            (try simp only [List.getElem_toArray, List.getElem_cons_zero, List.getElem_cons_succ, Act.put, List.setIfInBounds_toArray, List.set_cons_zero, List.set_cons_succ])
            obtain ⟨wc, rfl⟩ : ∃ w' : World, w' = wn := ⟨_, rfl⟩
            refine wpAnyH_ready (rs := [11]) (by kernel_rfl) (by simp) ?_
            refine (AllReadyH.cons rfl (fun K hK => ?_) AllReadyH.nil)
            · rw [if_pos (by rfl)]
              refine wp_cloneWT _ (.tmp 11) (.tmp 13) ?_ ?_ N g3 _ B.nw _ B.G B.S ?_ ?_ (HBK.out.go HBc.out).wants (Nat.le_trans HNS.out HBc.out.size) h40w ?_
              any_goals (exact rfl)
              intro v wn hrow hb
              obtain ⟨d3, e3, rfl⟩ := hrow.form
              have H3 := Lib.hid (hrow.lower HBc.out.size)
              clear hrow
              replace H1 := Lib.hid (H1.out.grow hb)
              replace H2 := Lib.hid (H2.out.grow hb)
              replace HBc : Hid (Below ws.heap.size ws wn) := bel HBc.out hb
              clear hb
              have Sn := old_of (HBc.out.mono hn1)
              refine hK.out _ _ Sn (fun hHeld => ?_)
              clear hK K Sn
              (try simp only [List.getElem_toArray, List.getElem_cons_zero, List.getElem_cons_succ, Act.put, List.setIfInBounds_toArray, List.set_cons_zero, List.set_cons_succ])
              obtain ⟨wc, rfl⟩ : ∃ w' : World, w' = wn := ⟨_, rfl⟩
              (refine wpAnyH_take (i := 12) (v := ?_) rfl (by kernel_rfl) (by kernel_rfl) (by kernel_rfl) (fun _ _ _ h => h) (Or.inl ⟨by rfl, ?_⟩) (by assumption) ?_; rotate_left; (focus (intro w hSw; (try dsimp only at hSw); go_simp; (try with_reducible rfl))); (try simp only [List.getElem_toArray, List.getElem_cons_zero, List.getElem_cons_succ, Act.put, List.setIfInBounds_toArray, List.set_cons_zero, List.set_cons_succ]))
              refine wpAnyH_ready (rs := [13]) (by kernel_rfl) (by simp) ?_
              refine AllReadyH.cons rfl (fun K hK => ?_) AllReadyH.nil
              have hz := (HBc.out.block (w.heap.size + 1) hsz1).trans HR1.out
              have z0 := cell_blk hz 0 rfl
              have y0 := free_blk hz 0
              have z1 := cell_blk hz 1 rfl
              have y1 := free_blk hz 1
              have z2 := cell_blk hz 2 rfl
              have y2 := free_blk hz 2
              go_simp
              obtain ⟨wn, hw4, hg4, ho4, hb4⟩ := put3o hz (.slice d1 B.ns e1) (.slice d2 B.ng e2) (.slice d3 B.nw e3)
              rw [hw4]
              have HBn : Hid (Below (w.heap.size + 1) ws wn) := (HBc.out.mono hn1).trans hb4
              have Sn := old_of HBn.out
              refine hK.out _ _ Sn (fun hHeld => ?_)
              clear hK K Sn hHeld
              refine wpAnyH_done (by kernel_rfl) ?_ _
              clear z0 z1 z2 y0 y1 y2 hw4
              have HG4 := Lib.hid hg4
              have HO4 := Lib.hid ho4
              have hq := ho4 w.heap.size (by omega)
              clear hg4 ho4 hq hb4 hz
              go_wp2
              refine bodyPost_ret (v := .agg #[.slice d1 B.ns e1, .slice d2 B.ng e2, .slice d3 B.nw e3]) (resL rfl rfl HG4.out) rfl ?_
              exact ⟨_, rfl, copyT_end HB.out hsz1 HBc.out H1.out H2.out H3.out HBn.out HO4.out⟩
  · go_simp
    obtain ⟨wn, hwn⟩ : ∃ wn : World, wc.alloc (.cells #[] 49) = wn := ⟨_, rfl⟩
    rw [hwn]
    have hb : Below wc.heap.size wc wn := (by rw [← hwn]; exact below_alloc (Nat.le_refl _) _)
    clear hwn
    obtain ⟨g2, hg⟩ : ∃ g, wc.heap.size = g := ⟨_, rfl⟩
    rw [hg]
    clear hg
    replace HBc : Hid (Below ws.heap.size ws wn) := bel HBc.out hb
    clear hb
    have Sn := old_of (HBc.out.mono hn1)
    refine hK.out _ _ Sn (fun hHeld => ?_)
    clear hK K Sn
    (try simp only [List.getElem_toArray, List.getElem_cons_zero, List.getElem_cons_succ, Act.put, List.setIfInBounds_toArray, List.set_cons_zero, List.set_cons_succ])
    obtain ⟨wc, rfl⟩ : ∃ w' : World, w' = wn := ⟨_, rfl⟩
    refine wpAnyH_ready (rs := [0, 8]) (by kernel_rfl) (by simp) ?_
    refine (AllReadyH.cons rfl (fun K hK => ?_) (AllReadyH.cons rfl (fun K hK => ?_) AllReadyH.nil))
    · go_simp
      obtain ⟨wn, hwn⟩ : ∃ wn : World, wc.alloc (.cells #[] 3) = wn := ⟨_, rfl⟩
      rw [hwn]
      have hb : Below wc.heap.size wc wn := (by rw [← hwn]; exact below_alloc (Nat.le_refl _) _)
      clear hwn
      obtain ⟨g1, hg⟩ : ∃ g, wc.heap.size = g := ⟨_, rfl⟩
      rw [hg]
      clear hg
      replace HBc : Hid (Below ws.heap.size ws wn) := bel HBc.out hb
      clear hb
      have Sn := old_of (HBc.out.mono hn1)
      refine hK.out _ _ Sn (fun hHeld => ?_)
      clear hK K Sn
      (try simp only [List.getElem_toArray, List.getElem_cons_zero, List.getElem_cons_succ, Act.put, List.setIfInBounds_toArray, List.set_cons_zero, List.set_cons_succ])
      obtain ⟨wc, rfl⟩ : ∃ w' : World, w' = wn := ⟨_, rfl⟩
      refine wpAnyH_ready (rs := [3, 8]) (by kernel_rfl) (by simp) ?_
      refine (AllReadyH.cons rfl (fun K hK => ?_) (AllReadyH.cons rfl (fun K hK => ?_) AllReadyH.nil))
      · rw [if_pos (by rfl)]
        refine wp_cloneIT _ (.tmp 3) (.tmp 5) ?_ ?_ N g1 _ B.ns _ B.C ?_ ?_ (HBK.out.go HBc.out).scions (Nat.le_trans HNS.out HBc.out.size) h40s ?_
        any_goals (exact rfl)
        intro v wn hrow hb
        obtain ⟨d1, e1, rfl⟩ := hrow.form
        have H1 := Lib.hid (hrow.lower HBc.out.size)
        clear hrow
        replace HBc : Hid (Below ws.heap.size ws wn) := bel HBc.out hb
        clear hb
        have Sn := old_of (HBc.out.mono hn1)
        refine hK.out _ _ Sn (fun hHeld => ?_)
        clear hK K Sn
        (try simp only [List.getElem_toArray, List.getElem_cons_zero, List.getElem_cons_succ, Act.put, List.setIfInBounds_toArray, List.set_cons_zero, List.set_cons_succ])
        obtain ⟨wc, rfl⟩ : ∃ w' : World, w' = wn := ⟨_, rfl⟩
        refine wpAnyH_ready (rs := [7, 8]) (by kernel_rfl) (by simp) ?_
        refine (AllReadyH.cons rfl (fun K hK => ?_) (AllReadyH.cons rfl (fun K hK => ?_) AllReadyH.nil))
        · rw [if_pos (by rfl)]
          refine wp_cloneGT _ (.tmp 7) (.tmp 9) ?_ ?_ N g2 _ B.ng _ B.P B.F ?_ ?_ (HBK.out.go HBc.out).gardens (Nat.le_trans HNS.out HBc.out.size) h40g ?_
          any_goals (exact rfl)
          intro v wn hrow hb
          obtain ⟨d2, e2, rfl⟩ := hrow.form
          have H2 := Lib.hid (hrow.lower HBc.out.size)
          clear hrow
          replace H1 := Lib.hid (H1.out.grow hb)
          replace HBc : Hid (Below ws.heap.size ws wn) := bel HBc.out hb
          clear hb
          have Sn := old_of (HBc.out.mono hn1)
          refine hK.out _ _ Sn (fun hHeld => ?_)
          clear hK K Sn
          (try simp only [List.getElem_toArray, List.getElem_cons_zero, List.getElem_cons_succ, Act.put, List.setIfInBounds_toArray, List.set_cons_zero, List.set_cons_succ])
          obtain ⟨wc, rfl⟩ : ∃ w' : World, w' = wn := ⟨_, rfl⟩
          refine wpAnyH_ready (rs := [8]) (by kernel_rfl) (by simp) ?_
          refine (AllReadyH.cons rfl (fun K hK => ?_) AllReadyH.nil)
          · go_simp
            obtain ⟨wn, hwn⟩ : ∃ wn : World, wc.alloc (.cells #[] 43) = wn := ⟨_, rfl⟩
            rw [hwn]
            have hb : Below wc.heap.size wc wn := (by rw [← hwn]; exact below_alloc (Nat.le_refl _) _)
            clear hwn
            obtain ⟨g3, hg⟩ : ∃ g, wc.heap.size = g := ⟨_, rfl⟩
            rw [hg]
            clear hg
            replace H1 := Lib.hid (H1.out.grow hb)
            replace H2 := Lib.hid (H2.out.grow hb)
            replace HBc : Hid (Below ws.heap.size ws wn) := bel HBc.out hb
            clear hb
            have Sn := old_of (HBc.out.mono hn1)
            refine hK.out _ _ Sn (fun hHeld => ?_)
            clear hK K Sn
            (try simp only [List.getElem_toArray, List.getElem_cons_zero, List.getElem_cons_succ, Act.put, List.setIfInBounds_toArray, List.set_cons_zero, List.set_cons_succ])
            obtain ⟨wc, rfl⟩ : ∃ w' : World, w' = wn := ⟨_, rfl⟩
            refine wpAnyH_ready (rs := [11]) (by kernel_rfl) (by simp) ?_
            refine (AllReadyH.cons rfl (fun K hK => ?_) AllReadyH.nil)
            · rw [if_pos (by rfl)]
              refine wp_cloneWT _ (.tmp 11) (.tmp 13) ?_ ?_ N g3 _ B.nw _ B.G B.S ?_ ?_ (HBK.out.go HBc.out).wants (Nat.le_trans HNS.out HBc.out.size) h40w ?_
              any_goals (exact rfl)
              intro v wn hrow hb
              obtain ⟨d3, e3, rfl⟩ := hrow.form
              have H3 := Lib.hid (hrow.lower HBc.out.size)
              clear hrow
              replace H1 := Lib.hid (H1.out.grow hb)
              replace H2 := Lib.hid (H2.out.grow hb)
              replace HBc : Hid (Below ws.heap.size ws wn) := bel HBc.out hb
              clear hb
              have Sn := old_of (HBc.out.mono hn1)
              refine hK.out _ _ Sn (fun hHeld => ?_)
              clear hK K Sn
              (try simp only [List.getElem_toArray, List.getElem_cons_zero, List.getElem_cons_succ, Act.put, List.setIfInBounds_toArray, List.set_cons_zero, List.set_cons_succ])
              obtain ⟨wc, rfl⟩ : ∃ w' : World, w' = wn := ⟨_, rfl⟩
              (refine wpAnyH_take (i := 12) (v := ?_) rfl (by kernel_rfl) (by kernel_rfl) (by kernel_rfl) (fun _ _ _ h => h) (Or.inl ⟨by rfl, ?_⟩) (by assumption) ?_; rotate_left; (focus (intro w hSw; (try dsimp only at hSw); go_simp; (try with_reducible rfl))); (try simp only [List.getElem_toArray, List.getElem_cons_zero, List.getElem_cons_succ, Act.put, List.setIfInBounds_toArray, List.set_cons_zero, List.set_cons_succ]))
              refine wpAnyH_ready (rs := [13]) (by kernel_rfl) (by simp) ?_
              refine AllReadyH.cons rfl (fun K hK => ?_) AllReadyH.nil
              have hz := (HBc.out.block (w.heap.size + 1) hsz1).trans HR1.out
              have z0 := cell_blk hz 0 rfl
              have y0 := free_blk hz 0
              have z1 := cell_blk hz 1 rfl
              have y1 := free_blk hz 1
              have z2 := cell_blk hz 2 rfl
              have y2 := free_blk hz 2
              go_simp
              obtain ⟨wn, hw4, hg4, ho4, hb4⟩ := put3o hz (.slice d1 B.ns e1) (.slice d2 B.ng e2) (.slice d3 B.nw e3)
              rw [hw4]
              have HBn : Hid (Below (w.heap.size + 1) ws wn) := (HBc.out.mono hn1).trans hb4
              have Sn := old_of HBn.out
              refine hK.out _ _ Sn (fun hHeld => ?_)
              clear hK K Sn hHeld
              refine wpAnyH_done (by kernel_rfl) ?_ _
              clear z0 z1 z2 y0 y1 y2 hw4
              have HG4 := Lib.hid hg4
              have HO4 := Lib.hid ho4
              have hq := ho4 w.heap.size (by omega)
              clear hg4 ho4 hq hb4 hz
              go_wp2
              refine bodyPost_ret (v := .agg #[.slice d1 B.ns e1, .slice d2 B.ng e2, .slice d3 B.nw e3]) (resL rfl rfl HG4.out) rfl ?_
              exact ⟨_, rfl, copyT_end HB.out hsz1 HBc.out H1.out H2.out H3.out HBn.out HO4.out⟩
        · go_simp
          obtain ⟨wn, hwn⟩ : ∃ wn : World, wc.alloc (.cells #[] 43) = wn := ⟨_, rfl⟩
          rw [hwn]
          have hb : Below wc.heap.size wc wn := (by rw [← hwn]; exact below_alloc (Nat.le_refl _) _)
          clear hwn
          obtain ⟨g3, hg⟩ : ∃ g, wc.heap.size = g := ⟨_, rfl⟩
          rw [hg]
          clear hg
          replace H1 := Lib.hid (H1.out.grow hb)
          replace HBc : Hid (Below ws.heap.size ws wn) := bel HBc.out hb
          clear hb
          have Sn := old_of (HBc.out.mono hn1)
          refine hK.out _ _ Sn (fun hHeld => ?_)
          clear hK K Sn
          (try simp only [List.getElem_toArray, List.getElem_cons_zero, List.getElem_cons_succ, Act.put, List.setIfInBounds_toArray, List.set_cons_zero, List.set_cons_succ])
          obtain ⟨wc, rfl⟩ : ∃ w' : World, w' = wn := ⟨_, rfl⟩
          refine wpAnyH_ready (rs := [7]) (by kernel_rfl) (by simp) ?_
          refine (AllReadyH.cons rfl (fun K hK => ?_) AllReadyH.nil)
          · rw [if_pos (by rfl)]
            refine wp_cloneGT _ (.tmp 7) (.tmp 9) ?_ ?_ N g2 _ B.ng _ B.P B.F ?_ ?_ (HBK.out.go HBc.out).gardens (Nat.le_trans HNS.out HBc.out.size) h40g ?_
            any_goals (exact rfl)
            intro v wn hrow hb
            obtain ⟨d2, e2, rfl⟩ := hrow.form
            have H2 := Lib.hid (hrow.lower HBc.out.size)
            clear hrow
            replace H1 := Lib.hid (H1.out.grow hb)
            replace HBc : Hid (Below ws.heap.size ws wn) := bel HBc.out hb
            clear hb
            have Sn := old_of (HBc.out.mono hn1)
            refine hK.out _ _ Sn (fun hHeld => ?_)
            clear hK K Sn
            (try simp only [List.getElem_toArray, List.getElem_cons_zero, List.getElem_cons_succ, Act.put, List.setIfInBounds_toArray, List.set_cons_zero, List.set_cons_succ])
            obtain ⟨wc, rfl⟩ : ∃ w' : World, w' = wn := ⟨_, rfl⟩
            refine wpAnyH_ready (rs := [11]) (by kernel_rfl) (by simp) ?_
            refine (AllReadyH.cons rfl (fun K hK => ?_) AllReadyH.nil)
            · rw [if_pos (by rfl)]
              refine wp_cloneWT _ (.tmp 11) (.tmp 13) ?_ ?_ N g3 _ B.nw _ B.G B.S ?_ ?_ (HBK.out.go HBc.out).wants (Nat.le_trans HNS.out HBc.out.size) h40w ?_
              any_goals (exact rfl)
              intro v wn hrow hb
              obtain ⟨d3, e3, rfl⟩ := hrow.form
              have H3 := Lib.hid (hrow.lower HBc.out.size)
              clear hrow
              replace H1 := Lib.hid (H1.out.grow hb)
              replace H2 := Lib.hid (H2.out.grow hb)
              replace HBc : Hid (Below ws.heap.size ws wn) := bel HBc.out hb
              clear hb
              have Sn := old_of (HBc.out.mono hn1)
              refine hK.out _ _ Sn (fun hHeld => ?_)
              clear hK K Sn
              (try simp only [List.getElem_toArray, List.getElem_cons_zero, List.getElem_cons_succ, Act.put, List.setIfInBounds_toArray, List.set_cons_zero, List.set_cons_succ])
              obtain ⟨wc, rfl⟩ : ∃ w' : World, w' = wn := ⟨_, rfl⟩
              (refine wpAnyH_take (i := 12) (v := ?_) rfl (by kernel_rfl) (by kernel_rfl) (by kernel_rfl) (fun _ _ _ h => h) (Or.inl ⟨by rfl, ?_⟩) (by assumption) ?_; rotate_left; (focus (intro w hSw; (try dsimp only at hSw); go_simp; (try with_reducible rfl))); (try simp only [List.getElem_toArray, List.getElem_cons_zero, List.getElem_cons_succ, Act.put, List.setIfInBounds_toArray, List.set_cons_zero, List.set_cons_succ]))
              refine wpAnyH_ready (rs := [13]) (by kernel_rfl) (by simp) ?_
              refine AllReadyH.cons rfl (fun K hK => ?_) AllReadyH.nil
              have hz := (HBc.out.block (w.heap.size + 1) hsz1).trans HR1.out
              have z0 := cell_blk hz 0 rfl
              have y0 := free_blk hz 0
              have z1 := cell_blk hz 1 rfl
              have y1 := free_blk hz 1
              have z2 := cell_blk hz 2 rfl
              have y2 := free_blk hz 2
              go_simp
              obtain ⟨wn, hw4, hg4, ho4, hb4⟩ := put3o hz (.slice d1 B.ns e1) (.slice d2 B.ng e2) (.slice d3 B.nw e3)
              rw [hw4]
              have HBn : Hid (Below (w.heap.size + 1) ws wn) := (HBc.out.mono hn1).trans hb4
              have Sn := old_of HBn.out
              refine hK.out _ _ Sn (fun hHeld => ?_)
              clear hK K Sn hHeld
              refine wpAnyH_done (by kernel_rfl) ?_ _
              clear z0 z1 z2 y0 y1 y2 hw4
              have HG4 := Lib.hid hg4
              have HO4 := Lib.hid ho4
              have hq := ho4 w.heap.size (by omega)
              clear hg4 ho4 hq hb4 hz
              go_wp2
              refine bodyPost_ret (v := .agg #[.slice d1 B.ns e1, .slice d2 B.ng e2, .slice d3 B.nw e3]) (resL rfl rfl HG4.out) rfl ?_
              exact ⟨_, rfl, copyT_end HB.out hsz1 HBc.out H1.out H2.out H3.out HBn.out HO4.out⟩
      · go_simp
        obtain ⟨wn, hwn⟩ : ∃ wn : World, wc.alloc (.cells #[] 43) = wn := ⟨_, rfl⟩
        rw [hwn]
        have hb : Below wc.heap.size wc wn := (by rw [← hwn]; exact below_alloc (Nat.le_refl _) _)
        clear hwn
        obtain ⟨g3, hg⟩ : ∃ g, wc.heap.size = g := ⟨_, rfl⟩
        rw [hg]
        clear hg
        replace HBc : Hid (Below ws.heap.size ws wn) := bel HBc.out hb
        clear hb
        have Sn := old_of (HBc.out.mono hn1)
        refine hK.out _ _ Sn (fun hHeld => ?_)
        clear hK K Sn
        (try simp only [List.getElem_toArray, List.getElem_cons_zero, List.getElem_cons_succ, Act.put, List.setIfInBounds_toArray, List.set_cons_zero, List.set_cons_succ])
        obtain ⟨wc, rfl⟩ : ∃ w' : World, w' = wn := ⟨_, rfl⟩
        refine wpAnyH_ready (rs := [3]) (by kernel_rfl) (by simp) ?_
        refine (AllReadyH.cons rfl (fun K hK => ?_) AllReadyH.nil)
        · rw [if_pos (by rfl)]
          refine wp_cloneIT _ (.tmp 3) (.tmp 5) ?_ ?_ N g1 _ B.ns _ B.C ?_ ?_ (HBK.out.go HBc.out).scions (Nat.le_trans HNS.out HBc.out.size) h40s ?_
          any_goals (exact rfl)
          intro v wn hrow hb
          obtain ⟨d1, e1, rfl⟩ := hrow.form
          have H1 := Lib.hid (hrow.lower HBc.out.size)
          clear hrow
          replace HBc : Hid (Below ws.heap.size ws wn) := bel HBc.out hb
          clear hb
          have Sn := old_of (HBc.out.mono hn1)
          refine hK.out _ _ Sn (fun hHeld => ?_)
          clear hK K Sn
          (try simp only [List.getElem_toArray, List.getElem_cons_zero, List.getElem_cons_succ, Act.put, List.setIfInBounds_toArray, List.set_cons_zero, List.set_cons_succ])
          obtain ⟨wc, rfl⟩ : ∃ w' : World, w' = wn := ⟨_, rfl⟩
          refine wpAnyH_ready (rs := [7]) (by kernel_rfl) (by simp) ?_
          refine (AllReadyH.cons rfl (fun K hK => ?_) AllReadyH.nil)
          · rw [if_pos (by rfl)]
            refine wp_cloneGT _ (.tmp 7) (.tmp 9) ?_ ?_ N g2 _ B.ng _ B.P B.F ?_ ?_ (HBK.out.go HBc.out).gardens (Nat.le_trans HNS.out HBc.out.size) h40g ?_
            any_goals (exact rfl)
            intro v wn hrow hb
            obtain ⟨d2, e2, rfl⟩ := hrow.form
            have H2 := Lib.hid (hrow.lower HBc.out.size)
            clear hrow
            replace H1 := Lib.hid (H1.out.grow hb)
            replace HBc : Hid (Below ws.heap.size ws wn) := bel HBc.out hb
            clear hb
            have Sn := old_of (HBc.out.mono hn1)
            refine hK.out _ _ Sn (fun hHeld => ?_)
            clear hK K Sn
            (try simp only [List.getElem_toArray, List.getElem_cons_zero, List.getElem_cons_succ, Act.put, List.setIfInBounds_toArray, List.set_cons_zero, List.set_cons_succ])
            obtain ⟨wc, rfl⟩ : ∃ w' : World, w' = wn := ⟨_, rfl⟩
            refine wpAnyH_ready (rs := [11]) (by kernel_rfl) (by simp) ?_
            refine (AllReadyH.cons rfl (fun K hK => ?_) AllReadyH.nil)
            · rw [if_pos (by rfl)]
              refine wp_cloneWT _ (.tmp 11) (.tmp 13) ?_ ?_ N g3 _ B.nw _ B.G B.S ?_ ?_ (HBK.out.go HBc.out).wants (Nat.le_trans HNS.out HBc.out.size) h40w ?_
              any_goals (exact rfl)
              intro v wn hrow hb
              obtain ⟨d3, e3, rfl⟩ := hrow.form
              have H3 := Lib.hid (hrow.lower HBc.out.size)
              clear hrow
              replace H1 := Lib.hid (H1.out.grow hb)
              replace H2 := Lib.hid (H2.out.grow hb)
              replace HBc : Hid (Below ws.heap.size ws wn) := bel HBc.out hb
              clear hb
              have Sn := old_of (HBc.out.mono hn1)
              refine hK.out _ _ Sn (fun hHeld => ?_)
              clear hK K Sn
              (try simp only [List.getElem_toArray, List.getElem_cons_zero, List.getElem_cons_succ, Act.put, List.setIfInBounds_toArray, List.set_cons_zero, List.set_cons_succ])
              obtain ⟨wc, rfl⟩ : ∃ w' : World, w' = wn := ⟨_, rfl⟩
              (refine wpAnyH_take (i := 12) (v := ?_) rfl (by kernel_rfl) (by kernel_rfl) (by kernel_rfl) (fun _ _ _ h => h) (Or.inl ⟨by rfl, ?_⟩) (by assumption) ?_; rotate_left; (focus (intro w hSw; (try dsimp only at hSw); go_simp; (try with_reducible rfl))); (try simp only [List.getElem_toArray, List.getElem_cons_zero, List.getElem_cons_succ, Act.put, List.setIfInBounds_toArray, List.set_cons_zero, List.set_cons_succ]))
              refine wpAnyH_ready (rs := [13]) (by kernel_rfl) (by simp) ?_
              refine AllReadyH.cons rfl (fun K hK => ?_) AllReadyH.nil
              have hz := (HBc.out.block (w.heap.size + 1) hsz1).trans HR1.out
              have z0 := cell_blk hz 0 rfl
              have y0 := free_blk hz 0
              have z1 := cell_blk hz 1 rfl
              have y1 := free_blk hz 1
              have z2 := cell_blk hz 2 rfl
              have y2 := free_blk hz 2
              go_simp
              obtain ⟨wn, hw4, hg4, ho4, hb4⟩ := put3o hz (.slice d1 B.ns e1) (.slice d2 B.ng e2) (.slice d3 B.nw e3)
              rw [hw4]
              have HBn : Hid (Below (w.heap.size + 1) ws wn) := (HBc.out.mono hn1).trans hb4
              have Sn := old_of HBn.out
              refine hK.out _ _ Sn (fun hHeld => ?_)
              clear hK K Sn hHeld
              refine wpAnyH_done (by kernel_rfl) ?_ _
              clear z0 z1 z2 y0 y1 y2 hw4
              have HG4 := Lib.hid hg4
              have HO4 := Lib.hid ho4
              have hq := ho4 w.heap.size (by omega)
              clear hg4 ho4 hq hb4 hz
              go_wp2
              refine bodyPost_ret (v := .agg #[.slice d1 B.ns e1, .slice d2 B.ng e2, .slice d3 B.nw e3]) (resL rfl rfl HG4.out) rfl ?_
              exact ⟨_, rfl, copyT_end HB.out hsz1 HBc.out H1.out H2.out H3.out HBn.out HO4.out⟩
    · go_simp
      obtain ⟨wn, hwn⟩ : ∃ wn : World, wc.alloc (.cells #[] 43) = wn := ⟨_, rfl⟩
      rw [hwn]
      have hb : Below wc.heap.size wc wn := (by rw [← hwn]; exact below_alloc (Nat.le_refl _) _)
      clear hwn
      obtain ⟨g3, hg⟩ : ∃ g, wc.heap.size = g := ⟨_, rfl⟩
      rw [hg]
      clear hg
      replace HBc : Hid (Below ws.heap.size ws wn) := bel HBc.out hb
      clear hb
      have Sn := old_of (HBc.out.mono hn1)
      refine hK.out _ _ Sn (fun hHeld => ?_)
      clear hK K Sn
      (try simp only [List.getElem_toArray, List.getElem_cons_zero, List.getElem_cons_succ, Act.put, List.setIfInBounds_toArray, List.set_cons_zero, List.set_cons_succ])
      obtain ⟨wc, rfl⟩ : ∃ w' : World, w' = wn := ⟨_, rfl⟩
      refine wpAnyH_ready (rs := [0]) (by kernel_rfl) (by simp) ?_
      refine (AllReadyH.cons rfl (fun K hK => ?_) AllReadyH.nil)
      · go_simp
        obtain ⟨wn, hwn⟩ : ∃ wn : World, wc.alloc (.cells #[] 3) = wn := ⟨_, rfl⟩
        rw [hwn]
        have hb : Below wc.heap.size wc wn := (by rw [← hwn]; exact below_alloc (Nat.le_refl _) _)
        clear hwn
        obtain ⟨g1, hg⟩ : ∃ g, wc.heap.size = g := ⟨_, rfl⟩
        rw [hg]
        clear hg
        replace HBc : Hid (Below ws.heap.size ws wn) := bel HBc.out hb
        clear hb
        have Sn := old_of (HBc.out.mono hn1)
        refine hK.out _ _ Sn (fun hHeld => ?_)
        clear hK K Sn
        (try simp only [List.getElem_toArray, List.getElem_cons_zero, List.getElem_cons_succ, Act.put, List.setIfInBounds_toArray, List.set_cons_zero, List.set_cons_succ])
        obtain ⟨wc, rfl⟩ : ∃ w' : World, w' = wn := ⟨_, rfl⟩
        refine wpAnyH_ready (rs := [3]) (by kernel_rfl) (by simp) ?_
        refine (AllReadyH.cons rfl (fun K hK => ?_) AllReadyH.nil)
        · rw [if_pos (by rfl)]
          refine wp_cloneIT _ (.tmp 3) (.tmp 5) ?_ ?_ N g1 _ B.ns _ B.C ?_ ?_ (HBK.out.go HBc.out).scions (Nat.le_trans HNS.out HBc.out.size) h40s ?_
          any_goals (exact rfl)
          intro v wn hrow hb
          obtain ⟨d1, e1, rfl⟩ := hrow.form
          have H1 := Lib.hid (hrow.lower HBc.out.size)
          clear hrow
          replace HBc : Hid (Below ws.heap.size ws wn) := bel HBc.out hb
          clear hb
          have Sn := old_of (HBc.out.mono hn1)
          refine hK.out _ _ Sn (fun hHeld => ?_)
          clear hK K Sn
          (try simp only [List.getElem_toArray, List.getElem_cons_zero, List.getElem_cons_succ, Act.put, List.setIfInBounds_toArray, List.set_cons_zero, List.set_cons_succ])
          obtain ⟨wc, rfl⟩ : ∃ w' : World, w' = wn := ⟨_, rfl⟩
          refine wpAnyH_ready (rs := [7]) (by kernel_rfl) (by simp) ?_
          refine (AllReadyH.cons rfl (fun K hK => ?_) AllReadyH.nil)
          · rw [if_pos (by rfl)]
            refine wp_cloneGT _ (.tmp 7) (.tmp 9) ?_ ?_ N g2 _ B.ng _ B.P B.F ?_ ?_ (HBK.out.go HBc.out).gardens (Nat.le_trans HNS.out HBc.out.size) h40g ?_
            any_goals (exact rfl)
            intro v wn hrow hb
            obtain ⟨d2, e2, rfl⟩ := hrow.form
            have H2 := Lib.hid (hrow.lower HBc.out.size)
            clear hrow
            replace H1 := Lib.hid (H1.out.grow hb)
            replace HBc : Hid (Below ws.heap.size ws wn) := bel HBc.out hb
            clear hb
            have Sn := old_of (HBc.out.mono hn1)
            refine hK.out _ _ Sn (fun hHeld => ?_)
            clear hK K Sn
            (try simp only [List.getElem_toArray, List.getElem_cons_zero, List.getElem_cons_succ, Act.put, List.setIfInBounds_toArray, List.set_cons_zero, List.set_cons_succ])
            obtain ⟨wc, rfl⟩ : ∃ w' : World, w' = wn := ⟨_, rfl⟩
            refine wpAnyH_ready (rs := [11]) (by kernel_rfl) (by simp) ?_
            refine (AllReadyH.cons rfl (fun K hK => ?_) AllReadyH.nil)
            · rw [if_pos (by rfl)]
              refine wp_cloneWT _ (.tmp 11) (.tmp 13) ?_ ?_ N g3 _ B.nw _ B.G B.S ?_ ?_ (HBK.out.go HBc.out).wants (Nat.le_trans HNS.out HBc.out.size) h40w ?_
              any_goals (exact rfl)
              intro v wn hrow hb
              obtain ⟨d3, e3, rfl⟩ := hrow.form
              have H3 := Lib.hid (hrow.lower HBc.out.size)
              clear hrow
              replace H1 := Lib.hid (H1.out.grow hb)
              replace H2 := Lib.hid (H2.out.grow hb)
              replace HBc : Hid (Below ws.heap.size ws wn) := bel HBc.out hb
              clear hb
              have Sn := old_of (HBc.out.mono hn1)
              refine hK.out _ _ Sn (fun hHeld => ?_)
              clear hK K Sn
              (try simp only [List.getElem_toArray, List.getElem_cons_zero, List.getElem_cons_succ, Act.put, List.setIfInBounds_toArray, List.set_cons_zero, List.set_cons_succ])
              obtain ⟨wc, rfl⟩ : ∃ w' : World, w' = wn := ⟨_, rfl⟩
              (refine wpAnyH_take (i := 12) (v := ?_) rfl (by kernel_rfl) (by kernel_rfl) (by kernel_rfl) (fun _ _ _ h => h) (Or.inl ⟨by rfl, ?_⟩) (by assumption) ?_; rotate_left; (focus (intro w hSw; (try dsimp only at hSw); go_simp; (try with_reducible rfl))); (try simp only [List.getElem_toArray, List.getElem_cons_zero, List.getElem_cons_succ, Act.put, List.setIfInBounds_toArray, List.set_cons_zero, List.set_cons_succ]))
              refine wpAnyH_ready (rs := [13]) (by kernel_rfl) (by simp) ?_
              refine AllReadyH.cons rfl (fun K hK => ?_) AllReadyH.nil
              have hz := (HBc.out.block (w.heap.size + 1) hsz1).trans HR1.out
              have z0 := cell_blk hz 0 rfl
              have y0 := free_blk hz 0
              have z1 := cell_blk hz 1 rfl
              have y1 := free_blk hz 1
              have z2 := cell_blk hz 2 rfl
              have y2 := free_blk hz 2
              go_simp
              obtain ⟨wn, hw4, hg4, ho4, hb4⟩ := put3o hz (.slice d1 B.ns e1) (.slice d2 B.ng e2) (.slice d3 B.nw e3)
              rw [hw4]
              have HBn : Hid (Below (w.heap.size + 1) ws wn) := (HBc.out.mono hn1).trans hb4
              have Sn := old_of HBn.out
              refine hK.out _ _ Sn (fun hHeld => ?_)
              clear hK K Sn hHeld
              refine wpAnyH_done (by kernel_rfl) ?_ _
              clear z0 z1 z2 y0 y1 y2 hw4
              have HG4 := Lib.hid hg4
              have HO4 := Lib.hid ho4
              have hq := ho4 w.heap.size (by omega)
              clear hg4 ho4 hq hb4 hz
              go_wp2
              refine bodyPost_ret (v := .agg #[.slice d1 B.ns e1, .slice d2 B.ng e2, .slice d3 B.nw e3]) (resL rfl rfl HG4.out) rfl ?_
              exact ⟨_, rfl, copyT_end HB.out hsz1 HBc.out H1.out H2.out H3.out HBn.out HO4.out⟩
  · go_simp
    obtain ⟨wn, hwn⟩ : ∃ wn : World, wc.alloc (.cells #[] 43) = wn := ⟨_, rfl⟩
    rw [hwn]
    have hb : Below wc.heap.size wc wn := (by rw [← hwn]; exact below_alloc (Nat.le_refl _) _)
    clear hwn
    obtain ⟨g3, hg⟩ : ∃ g, wc.heap.size = g := ⟨_, rfl⟩
    rw [hg]
    clear hg
    replace HBc : Hid (Below ws.heap.size ws wn) := bel HBc.out hb
    clear hb
    have Sn := old_of (HBc.out.mono hn1)
    refine hK.out _ _ Sn (fun hHeld => ?_)
    clear hK K Sn
    (try simp only [List.getElem_toArray, List.getElem_cons_zero, List.getElem_cons_succ, Act.put, List.setIfInBounds_toArray, List.set_cons_zero, List.set_cons_succ])
    obtain ⟨wc, rfl⟩ : ∃ w' : World, w' = wn := ⟨_, rfl⟩
    refine wpAnyH_ready (rs := [0, 4]) (by kernel_rfl) (by simp) ?_
    refine (AllReadyH.cons rfl (fun K hK => ?_) (AllReadyH.cons rfl (fun K hK => ?_) AllReadyH.nil))
    · go_simp
      obtain ⟨wn, hwn⟩ : ∃ wn : World, wc.alloc (.cells #[] 3) = wn := ⟨_, rfl⟩
      rw [hwn]
      have hb : Below wc.heap.size wc wn := (by rw [← hwn]; exact below_alloc (Nat.le_refl _) _)
      clear hwn
      obtain ⟨g1, hg⟩ : ∃ g, wc.heap.size = g := ⟨_, rfl⟩
      rw [hg]
      clear hg
      replace HBc : Hid (Below ws.heap.size ws wn) := bel HBc.out hb
      clear hb
      have Sn := old_of (HBc.out.mono hn1)
      refine hK.out _ _ Sn (fun hHeld => ?_)
      clear hK K Sn
      (try simp only [List.getElem_toArray, List.getElem_cons_zero, List.getElem_cons_succ, Act.put, List.setIfInBounds_toArray, List.set_cons_zero, List.set_cons_succ])
      obtain ⟨wc, rfl⟩ : ∃ w' : World, w' = wn := ⟨_, rfl⟩
      refine wpAnyH_ready (rs := [3, 4]) (by kernel_rfl) (by simp) ?_
      refine (AllReadyH.cons rfl (fun K hK => ?_) (AllReadyH.cons rfl (fun K hK => ?_) AllReadyH.nil))
      · rw [if_pos (by rfl)]
        refine wp_cloneIT _ (.tmp 3) (.tmp 5) ?_ ?_ N g1 _ B.ns _ B.C ?_ ?_ (HBK.out.go HBc.out).scions (Nat.le_trans HNS.out HBc.out.size) h40s ?_
        any_goals (exact rfl)
        intro v wn hrow hb
        obtain ⟨d1, e1, rfl⟩ := hrow.form
        have H1 := Lib.hid (hrow.lower HBc.out.size)
        clear hrow
        replace HBc : Hid (Below ws.heap.size ws wn) := bel HBc.out hb
        clear hb
        have Sn := old_of (HBc.out.mono hn1)
        refine hK.out _ _ Sn (fun hHeld => ?_)
        clear hK K Sn
        (try simp only [List.getElem_toArray, List.getElem_cons_zero, List.getElem_cons_succ, Act.put, List.setIfInBounds_toArray, List.set_cons_zero, List.set_cons_succ])
        obtain ⟨wc, rfl⟩ : ∃ w' : World, w' = wn := ⟨_, rfl⟩
        refine wpAnyH_ready (rs := [4]) (by kernel_rfl) (by simp) ?_
        refine (AllReadyH.cons rfl (fun K hK => ?_) AllReadyH.nil)
        · go_simp
          obtain ⟨wn, hwn⟩ : ∃ wn : World, wc.alloc (.cells #[] 49) = wn := ⟨_, rfl⟩
          rw [hwn]
          have hb : Below wc.heap.size wc wn := (by rw [← hwn]; exact below_alloc (Nat.le_refl _) _)
          clear hwn
          obtain ⟨g2, hg⟩ : ∃ g, wc.heap.size = g := ⟨_, rfl⟩
          rw [hg]
          clear hg
          replace H1 := Lib.hid (H1.out.grow hb)
          replace HBc : Hid (Below ws.heap.size ws wn) := bel HBc.out hb
          clear hb
          have Sn := old_of (HBc.out.mono hn1)
          refine hK.out _ _ Sn (fun hHeld => ?_)
          clear hK K Sn
          (try simp only [List.getElem_toArray, List.getElem_cons_zero, List.getElem_cons_succ, Act.put, List.setIfInBounds_toArray, List.set_cons_zero, List.set_cons_succ])
          obtain ⟨wc, rfl⟩ : ∃ w' : World, w' = wn := ⟨_, rfl⟩
          refine wpAnyH_ready (rs := [7]) (by kernel_rfl) (by simp) ?_
          refine (AllReadyH.cons rfl (fun K hK => ?_) AllReadyH.nil)
          · rw [if_pos (by rfl)]
            refine wp_cloneGT _ (.tmp 7) (.tmp 9) ?_ ?_ N g2 _ B.ng _ B.P B.F ?_ ?_ (HBK.out.go HBc.out).gardens (Nat.le_trans HNS.out HBc.out.size) h40g ?_
            any_goals (exact rfl)
            intro v wn hrow hb
            obtain ⟨d2, e2, rfl⟩ := hrow.form
            have H2 := Lib.hid (hrow.lower HBc.out.size)
            clear hrow
            replace H1 := Lib.hid (H1.out.grow hb)
            replace HBc : Hid (Below ws.heap.size ws wn) := bel HBc.out hb
            clear hb
            have Sn := old_of (HBc.out.mono hn1)
            refine hK.out _ _ Sn (fun hHeld => ?_)
            clear hK K Sn
            (try simp only [List.getElem_toArray, List.getElem_cons_zero, List.getElem_cons_succ, Act.put, List.setIfInBounds_toArray, List.set_cons_zero, List.set_cons_succ])
            obtain ⟨wc, rfl⟩ : ∃ w' : World, w' = wn := ⟨_, rfl⟩
            refine wpAnyH_ready (rs := [11]) (by kernel_rfl) (by simp) ?_
            refine (AllReadyH.cons rfl (fun K hK => ?_) AllReadyH.nil)
            · rw [if_pos (by rfl)]
              refine wp_cloneWT _ (.tmp 11) (.tmp 13) ?_ ?_ N g3 _ B.nw _ B.G B.S ?_ ?_ (HBK.out.go HBc.out).wants (Nat.le_trans HNS.out HBc.out.size) h40w ?_
              any_goals (exact rfl)
              intro v wn hrow hb
              obtain ⟨d3, e3, rfl⟩ := hrow.form
              have H3 := Lib.hid (hrow.lower HBc.out.size)
              clear hrow
              replace H1 := Lib.hid (H1.out.grow hb)
              replace H2 := Lib.hid (H2.out.grow hb)
              replace HBc : Hid (Below ws.heap.size ws wn) := bel HBc.out hb
              clear hb
              have Sn := old_of (HBc.out.mono hn1)
              refine hK.out _ _ Sn (fun hHeld => ?_)
              clear hK K Sn
              (try simp only [List.getElem_toArray, List.getElem_cons_zero, List.getElem_cons_succ, Act.put, List.setIfInBounds_toArray, List.set_cons_zero, List.set_cons_succ])
              obtain ⟨wc, rfl⟩ : ∃ w' : World, w' = wn := ⟨_, rfl⟩
              (refine wpAnyH_take (i := 12) (v := ?_) rfl (by kernel_rfl) (by kernel_rfl) (by kernel_rfl) (fun _ _ _ h => h) (Or.inl ⟨by rfl, ?_⟩) (by assumption) ?_; rotate_left; (focus (intro w hSw; (try dsimp only at hSw); go_simp; (try with_reducible rfl))); (try simp only [List.getElem_toArray, List.getElem_cons_zero, List.getElem_cons_succ, Act.put, List.setIfInBounds_toArray, List.set_cons_zero, List.set_cons_succ]))
              refine wpAnyH_ready (rs := [13]) (by kernel_rfl) (by simp) ?_
              refine AllReadyH.cons rfl (fun K hK => ?_) AllReadyH.nil
              have hz := (HBc.out.block (w.heap.size + 1) hsz1).trans HR1.out
              have z0 := cell_blk hz 0 rfl
              have y0 := free_blk hz 0
              have z1 := cell_blk hz 1 rfl
              have y1 := free_blk hz 1
              have z2 := cell_blk hz 2 rfl
              have y2 := free_blk hz 2
              go_simp
              obtain ⟨wn, hw4, hg4, ho4, hb4⟩ := put3o hz (.slice d1 B.ns e1) (.slice d2 B.ng e2) (.slice d3 B.nw e3)
              rw [hw4]
              have HBn : Hid (Below (w.heap.size + 1) ws wn) := (HBc.out.mono hn1).trans hb4
              have Sn := old_of HBn.out
              refine hK.out _ _ Sn (fun hHeld => ?_)
              clear hK K Sn hHeld
              refine wpAnyH_done (by kernel_rfl) ?_ _
              clear z0 z1 z2 y0 y1 y2 hw4
              have HG4 := Lib.hid hg4
              have HO4 := Lib.hid ho4
              have hq := ho4 w.heap.size (by omega)
              clear hg4 ho4 hq hb4 hz
              go_wp2
              refine bodyPost_ret (v := .agg #[.slice d1 B.ns e1, .slice d2 B.ng e2, .slice d3 B.nw e3]) (resL rfl rfl HG4.out) rfl ?_
              exact ⟨_, rfl, copyT_end HB.out hsz1 HBc.out H1.out H2.out H3.out HBn.out HO4.out⟩
      · go_simp
        obtain ⟨wn, hwn⟩ : ∃ wn : World, wc.alloc (.cells #[] 49) = wn := ⟨_, rfl⟩
        rw [hwn]
        have hb : Below wc.heap.size wc wn := (by rw [← hwn]; exact below_alloc (Nat.le_refl _) _)
        clear hwn
        obtain ⟨g2, hg⟩ : ∃ g, wc.heap.size = g := ⟨_, rfl⟩
        rw [hg]
        clear hg
        replace HBc : Hid (Below ws.heap.size ws wn) := bel HBc.out hb
        clear hb
        have Sn := old_of (HBc.out.mono hn1)
        refine hK.out _ _ Sn (fun hHeld => ?_)
        clear hK K Sn
        (try simp only [List.getElem_toArray, List.getElem_cons_zero, List.getElem_cons_succ, Act.put, List.setIfInBounds_toArray, List.set_cons_zero, List.set_cons_succ])
        obtain ⟨wc, rfl⟩ : ∃ w' : World, w' = wn := ⟨_, rfl⟩
        refine wpAnyH_ready (rs := [3]) (by kernel_rfl) (by simp) ?_
        refine (AllReadyH.cons rfl (fun K hK => ?_) AllReadyH.nil)
        · rw [if_pos (by rfl)]
          refine wp_cloneIT _ (.tmp 3) (.tmp 5) ?_ ?_ N g1 _ B.ns _ B.C ?_ ?_ (HBK.out.go HBc.out).scions (Nat.le_trans HNS.out HBc.out.size) h40s ?_
          any_goals (exact rfl)
          intro v wn hrow hb
          obtain ⟨d1, e1, rfl⟩ := hrow.form
          have H1 := Lib.hid (hrow.lower HBc.out.size)
          clear hrow
          replace HBc : Hid (Below ws.heap.size ws wn) := bel HBc.out hb
          clear hb
          have Sn := old_of (HBc.out.mono hn1)
          refine hK.out _ _ Sn (fun hHeld => ?_)
          clear hK K Sn
          (try simp only [List.getElem_toArray, List.getElem_cons_zero, List.getElem_cons_succ, Act.put, List.setIfInBounds_toArray, List.set_cons_zero, List.set_cons_succ])
          obtain ⟨wc, rfl⟩ : ∃ w' : World, w' = wn := ⟨_, rfl⟩
          refine wpAnyH_ready (rs := [7]) (by kernel_rfl) (by simp) ?_
          refine (AllReadyH.cons rfl (fun K hK => ?_) AllReadyH.nil)
          · rw [if_pos (by rfl)]
            refine wp_cloneGT _ (.tmp 7) (.tmp 9) ?_ ?_ N g2 _ B.ng _ B.P B.F ?_ ?_ (HBK.out.go HBc.out).gardens (Nat.le_trans HNS.out HBc.out.size) h40g ?_
            any_goals (exact rfl)
            intro v wn hrow hb
            obtain ⟨d2, e2, rfl⟩ := hrow.form
            have H2 := Lib.hid (hrow.lower HBc.out.size)
            clear hrow
            replace H1 := Lib.hid (H1.out.grow hb)
            replace HBc : Hid (Below ws.heap.size ws wn) := bel HBc.out hb
            clear hb
            have Sn := old_of (HBc.out.mono hn1)
            refine hK.out _ _ Sn (fun hHeld => ?_)
            clear hK K Sn
            (try simp only [List.getElem_toArray, List.getElem_cons_zero, List.getElem_cons_succ, Act.put, List.setIfInBounds_toArray, List.set_cons_zero, List.set_cons_succ])
            obtain ⟨wc, rfl⟩ : ∃ w' : World, w' = wn := ⟨_, rfl⟩
            refine wpAnyH_ready (rs := [11]) (by kernel_rfl) (by simp) ?_
            refine (AllReadyH.cons rfl (fun K hK => ?_) AllReadyH.nil)
            · rw [if_pos (by rfl)]
              refine wp_cloneWT _ (.tmp 11) (.tmp 13) ?_ ?_ N g3 _ B.nw _ B.G B.S ?_ ?_ (HBK.out.go HBc.out).wants (Nat.le_trans HNS.out HBc.out.size) h40w ?_
              any_goals (exact rfl)
              intro v wn hrow hb
              obtain ⟨d3, e3, rfl⟩ := hrow.form
              have H3 := Lib.hid (hrow.lower HBc.out.size)
              clear hrow
              replace H1 := Lib.hid (H1.out.grow hb)
              replace H2 := Lib.hid (H2.out.grow hb)
              replace HBc : Hid (Below ws.heap.size ws wn) := bel HBc.out hb
              clear hb
              have Sn := old_of (HBc.out.mono hn1)
              refine hK.out _ _ Sn (fun hHeld => ?_)
              clear hK K Sn
              (try simp only [List.getElem_toArray, List.getElem_cons_zero, List.getElem_cons_succ, Act.put, List.setIfInBounds_toArray, List.set_cons_zero, List.set_cons_succ])
              obtain ⟨wc, rfl⟩ : ∃ w' : World, w' = wn := ⟨_, rfl⟩
              (refine wpAnyH_take (i := 12) (v := ?_) rfl (by kernel_rfl) (by kernel_rfl) (by kernel_rfl) (fun _ _ _ h => h) (Or.inl ⟨by rfl, ?_⟩) (by assumption) ?_; rotate_left; (focus (intro w hSw; (try dsimp only at hSw); go_simp; (try with_reducible rfl))); (try simp only [List.getElem_toArray, List.getElem_cons_zero, List.getElem_cons_succ, Act.put, List.setIfInBounds_toArray, List.set_cons_zero, List.set_cons_succ]))
              refine wpAnyH_ready (rs := [13]) (by kernel_rfl) (by simp) ?_
              refine AllReadyH.cons rfl (fun K hK => ?_) AllReadyH.nil
              have hz := (HBc.out.block (w.heap.size + 1) hsz1).trans HR1.out
              have z0 := cell_blk hz 0 rfl
              have y0 := free_blk hz 0
              have z1 := cell_blk hz 1 rfl
              have y1 := free_blk hz 1
              have z2 := cell_blk hz 2 rfl
              have y2 := free_blk hz 2
              go_simp
              obtain ⟨wn, hw4, hg4, ho4, hb4⟩ := put3o hz (.slice d1 B.ns e1) (.slice d2 B.ng e2) (.slice d3 B.nw e3)
              rw [hw4]
              have HBn : Hid (Below (w.heap.size + 1) ws wn) := (HBc.out.mono hn1).trans hb4
              have Sn := old_of HBn.out
              refine hK.out _ _ Sn (fun hHeld => ?_)
              clear hK K Sn hHeld
              refine wpAnyH_done (by kernel_rfl) ?_ _
              clear z0 z1 z2 y0 y1 y2 hw4
              have HG4 := Lib.hid hg4
              have HO4 := Lib.hid ho4
              have hq := ho4 w.heap.size (by omega)
              clear hg4 ho4 hq hb4 hz
              go_wp2
              refine bodyPost_ret (v := .agg #[.slice d1 B.ns e1, .slice d2 B.ng e2, .slice d3 B.nw e3]) (resL rfl rfl HG4.out) rfl ?_
              exact ⟨_, rfl, copyT_end HB.out hsz1 HBc.out H1.out H2.out H3.out HBn.out HO4.out⟩
    · go_simp
      obtain ⟨wn, hwn⟩ : ∃ wn : World, wc.alloc (.cells #[] 49) = wn := ⟨_, rfl⟩
      rw [hwn]
      have hb : Below wc.heap.size wc wn := (by rw [← hwn]; exact below_alloc (Nat.le_refl _) _)
      clear hwn
      obtain ⟨g2, hg⟩ : ∃ g, wc.heap.size = g := ⟨_, rfl⟩
      rw [hg]
      clear hg
      replace HBc : Hid (Below ws.heap.size ws wn) := bel HBc.out hb
      clear hb
      have Sn := old_of (HBc.out.mono hn1)
      refine hK.out _ _ Sn (fun hHeld => ?_)
      clear hK K Sn
      (try simp only [List.getElem_toArray, List.getElem_cons_zero, List.getElem_cons_succ, Act.put, List.setIfInBounds_toArray, List.set_cons_zero, List.set_cons_succ])
      obtain ⟨wc, rfl⟩ : ∃ w' : World, w' = wn := ⟨_, rfl⟩
      refine wpAnyH_ready (rs := [0]) (by kernel_rfl) (by simp) ?_
      refine (AllReadyH.cons rfl (fun K hK => ?_) AllReadyH.nil)
      · go_simp
        obtain ⟨wn, hwn⟩ : ∃ wn : World, wc.alloc (.cells #[] 3) = wn := ⟨_, rfl⟩
        rw [hwn]
        have hb : Below wc.heap.size wc wn := (by rw [← hwn]; exact below_alloc (Nat.le_refl _) _)
        clear hwn
        obtain ⟨g1, hg⟩ : ∃ g, wc.heap.size = g := ⟨_, rfl⟩
        rw [hg]
        clear hg
        replace HBc : Hid (Below ws.heap.size ws wn) := bel HBc.out hb
        clear hb
        have Sn := old_of (HBc.out.mono hn1)
        refine hK.out _ _ Sn (fun hHeld => ?_)
        clear hK K Sn
        (try simp only [List.getElem_toArray, List.getElem_cons_zero, List.getElem_cons_succ, Act.put, List.setIfInBounds_toArray, List.set_cons_zero, List.set_cons_succ])
        obtain ⟨wc, rfl⟩ : ∃ w' : World, w' = wn := ⟨_, rfl⟩
        refine wpAnyH_ready (rs := [3]) (by kernel_rfl) (by simp) ?_
        refine (AllReadyH.cons rfl (fun K hK => ?_) AllReadyH.nil)
        · rw [if_pos (by rfl)]
          refine wp_cloneIT _ (.tmp 3) (.tmp 5) ?_ ?_ N g1 _ B.ns _ B.C ?_ ?_ (HBK.out.go HBc.out).scions (Nat.le_trans HNS.out HBc.out.size) h40s ?_
          any_goals (exact rfl)
          intro v wn hrow hb
          obtain ⟨d1, e1, rfl⟩ := hrow.form
          have H1 := Lib.hid (hrow.lower HBc.out.size)
          clear hrow
          replace HBc : Hid (Below ws.heap.size ws wn) := bel HBc.out hb
          clear hb
          have Sn := old_of (HBc.out.mono hn1)
          refine hK.out _ _ Sn (fun hHeld => ?_)
          clear hK K Sn
          (try simp only [List.getElem_toArray, List.getElem_cons_zero, List.getElem_cons_succ, Act.put, List.setIfInBounds_toArray, List.set_cons_zero, List.set_cons_succ])
          obtain ⟨wc, rfl⟩ : ∃ w' : World, w' = wn := ⟨_, rfl⟩
          refine wpAnyH_ready (rs := [7]) (by kernel_rfl) (by simp) ?_
          refine (AllReadyH.cons rfl (fun K hK => ?_) AllReadyH.nil)
          · rw [if_pos (by rfl)]
            refine wp_cloneGT _ (.tmp 7) (.tmp 9) ?_ ?_ N g2 _ B.ng _ B.P B.F ?_ ?_ (HBK.out.go HBc.out).gardens (Nat.le_trans HNS.out HBc.out.size) h40g ?_
            any_goals (exact rfl)
            intro v wn hrow hb
            obtain ⟨d2, e2, rfl⟩ := hrow.form
            have H2 := Lib.hid (hrow.lower HBc.out.size)
            clear hrow
            replace H1 := Lib.hid (H1.out.grow hb)
            replace HBc : Hid (Below ws.heap.size ws wn) := bel HBc.out hb
            clear hb
            have Sn := old_of (HBc.out.mono hn1)
            refine hK.out _ _ Sn (fun hHeld => ?_)
            clear hK K Sn
            (try simp only [List.getElem_toArray, List.getElem_cons_zero, List.getElem_cons_succ, Act.put, List.setIfInBounds_toArray, List.set_cons_zero, List.set_cons_succ])
            obtain ⟨wc, rfl⟩ : ∃ w' : World, w' = wn := ⟨_, rfl⟩
            refine wpAnyH_ready (rs := [11]) (by kernel_rfl) (by simp) ?_
            refine (AllReadyH.cons rfl (fun K hK => ?_) AllReadyH.nil)
            · rw [if_pos (by rfl)]
              refine wp_cloneWT _ (.tmp 11) (.tmp 13) ?_ ?_ N g3 _ B.nw _ B.G B.S ?_ ?_ (HBK.out.go HBc.out).wants (Nat.le_trans HNS.out HBc.out.size) h40w ?_
              any_goals (exact rfl)
              intro v wn hrow hb
              obtain ⟨d3, e3, rfl⟩ := hrow.form
              have H3 := Lib.hid (hrow.lower HBc.out.size)
              clear hrow
              replace H1 := Lib.hid (H1.out.grow hb)
              replace H2 := Lib.hid (H2.out.grow hb)
              replace HBc : Hid (Below ws.heap.size ws wn) := bel HBc.out hb
              clear hb
              have Sn := old_of (HBc.out.mono hn1)
              refine hK.out _ _ Sn (fun hHeld => ?_)
              clear hK K Sn
              (try simp only [List.getElem_toArray, List.getElem_cons_zero, List.getElem_cons_succ, Act.put, List.setIfInBounds_toArray, List.set_cons_zero, List.set_cons_succ])
              obtain ⟨wc, rfl⟩ : ∃ w' : World, w' = wn := ⟨_, rfl⟩
              (refine wpAnyH_take (i := 12) (v := ?_) rfl (by kernel_rfl) (by kernel_rfl) (by kernel_rfl) (fun _ _ _ h => h) (Or.inl ⟨by rfl, ?_⟩) (by assumption) ?_; rotate_left; (focus (intro w hSw; (try dsimp only at hSw); go_simp; (try with_reducible rfl))); (try simp only [List.getElem_toArray, List.getElem_cons_zero, List.getElem_cons_succ, Act.put, List.setIfInBounds_toArray, List.set_cons_zero, List.set_cons_succ]))
              refine wpAnyH_ready (rs := [13]) (by kernel_rfl) (by simp) ?_
              refine AllReadyH.cons rfl (fun K hK => ?_) AllReadyH.nil
              have hz := (HBc.out.block (w.heap.size + 1) hsz1).trans HR1.out
              have z0 := cell_blk hz 0 rfl
              have y0 := free_blk hz 0
              have z1 := cell_blk hz 1 rfl
              have y1 := free_blk hz 1
              have z2 := cell_blk hz 2 rfl
              have y2 := free_blk hz 2
              go_simp
              obtain ⟨wn, hw4, hg4, ho4, hb4⟩ := put3o hz (.slice d1 B.ns e1) (.slice d2 B.ng e2) (.slice d3 B.nw e3)
              rw [hw4]
              have HBn : Hid (Below (w.heap.size + 1) ws wn) := (HBc.out.mono hn1).trans hb4
              have Sn := old_of HBn.out
              refine hK.out _ _ Sn (fun hHeld => ?_)
              clear hK K Sn hHeld
              refine wpAnyH_done (by kernel_rfl) ?_ _
              clear z0 z1 z2 y0 y1 y2 hw4
              have HG4 := Lib.hid hg4
              have HO4 := Lib.hid ho4
              have hq := ho4 w.heap.size (by omega)
              clear hg4 ho4 hq hb4 hz
              go_wp2
              refine bodyPost_ret (v := .agg #[.slice d1 B.ns e1, .slice d2 B.ng e2, .slice d3 B.nw e3]) (resL rfl rfl HG4.out) rfl ?_
              exact ⟨_, rfl, copyT_end HB.out hsz1 HBc.out H1.out H2.out H3.out HBn.out HO4.out⟩

end Go.Proofs.Ytnnngbnimmcjiaa
