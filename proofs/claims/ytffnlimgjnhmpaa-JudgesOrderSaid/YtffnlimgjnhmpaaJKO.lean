/-
  JKO: Sure, Needs of package judges.
-/
import Derived.Test.YtffnlimgjnhmpaaJKM
import Derived.Test.YtffnlimgjnhmpaaJKH
namespace Go.Proofs.Ytffnlimgjnhmpaa
open Go.RowKit

set_option maxHeartbeats 6400000 in
set_option maxRecDepth 100000 in
theorem kSure_any (N : Nat) (v : Value) (S : JB) (er : Int) (w : World) (h : ShowAt N w v S) (her : errS S = er) :
    Calls Try.prog 35 #[v] w fun e w' => ∃ u1 u2, e = .returned (.tuple #[u1, u2, .int .i64 er]) ∧ OwnI w.heap.size w' u1 (spL er (prL S 1 S.np)) ∧ OwnI w.heap.size w' u2 (spL er (prL S 2 S.np)) ∧ Below w.heap.size w w' := by
  obtain ⟨a1, c1, rfl⟩ := h.form
  obtain ⟨ws, hws, HB, hsz, hblk⟩ := box1 w (.cells #[.int .i64 S.J, .int .i64 S.D, .int .i64 S.Z, .slice a1 S.np c1] 24)
  have q0 := cell_blk hblk 0 rfl
  have q1 := cell_blk hblk 1 rfl
  have q2 := cell_blk hblk 2 rfl
  have q3 := cell_blk hblk 3 rfl
  have HNZ : Hid (N ≤ w.heap.size) := h.1
  have HBK := Lib.hid (h.go HB.out)
  have HB0 : Hid (Below ws.heap.size ws ws) := Below.refl _ _
  have HNS : Hid (N ≤ ws.heap.size) := HBK.out.1
  have hlen := h.len
  clear hblk h
  cases hok : okS S with
  | true =>
    have he : er = 0 := by rw [← her]; unfold errS; rw [hok]; rfl
    subst he
    have HRD := Lib.hid (okS_good hok).rj
    have hnp6 : S.np ≤ 1000 := by have := (okS_good hok).np; omega
    go_enter Try.func35, Try.ntmps35
    go_upto_region 2 with (go_at_call 68; refine (enter_ok N _ S _ HBK.out hok).mono ?_; rintro e w1 ⟨rfl, hb1⟩; have HB1 : Hid (Below ws.heap.size ws w1) := (bel HB0.out hb1); clear hb1; obtain ⟨wo, hwo, HBo, hszo, hblko⟩ := box1 w1 (.cells #[.int .i64 0, .int .i64 0, .int .i64 0, .slice none 0 0] 74); have HZo := Lib.hid hblko; have z0 := cell_blk hblko 0 rfl; have z1 := cell_blk hblko 1 rfl; have z2 := cell_blk hblko 2 rfl; have z3 := cell_blk hblko 3 rfl; have f0 := free_blk hblko 0; have f1 := free_blk hblko 1; have f2 := free_blk hblko 2; have f3 := free_blk hblko 3; clear hblko)
    obtain ⟨w2, hw2, hz2, ho2, hb2⟩ := put4o HZo.out (.int .i64 S.J) (.int .i64 S.D) (.int .i64 S.Z) (.slice a1 S.np c1)
    rw [hw2]
    have HB2 : Hid (Below ws.heap.size ws w2) := HB1.out.trans ((HBo.out.trans hb2).mono HB1.out.size)
    have HZ2 := Lib.hid hz2
    have hs12 : w1.heap.size < w2.heap.size := Nat.lt_of_lt_of_le hszo hb2.size
    clear hw2 ho2 hb2 z0 z1 z2 z3 f0 f1 f2 f3 hwo HZo HBo hszo
    obtain ⟨jb, hjb⟩ : ∃ jb, w1.heap.size = jb := ⟨_, rfl⟩
    rw [hjb] at hz2 HZ2 hs12 ⊢
    have HJB : Hid (ws.heap.size ≤ jb) := by rw [← hjb]; exact HB1.out.size
    have j0 := cell_blk hz2 0 rfl
    have j1 := cell_blk hz2 1 rfl
    have j2 := cell_blk hz2 2 rfl
    have j3 := cell_blk hz2 3 rfl
    clear hz2 hjb
    go_upto_region 5 with (go_at_call 69; refine (kprizes_any N _ S _ (HBK.out.go HB2.out) HRD.out).mono ?_; rintro e w3 ⟨B, rfl, hB1, hgm, hb3⟩; have HGM := Lib.hid hgm; have HB3 : Hid (Below ws.heap.size ws w3) := bel HB2.out hb3; have HLB := Lib.hid hB1; clear hgm hb3 hB1)
    obtain ⟨wd, hwd⟩ : ∃ wd, w3.drew = wd := ⟨_, rfl⟩
    have hbd : Below w3.heap.size w3 wd := by rw [← hwd]; exact (Below.refl _ _).drew
    have HGD := Lib.hid (HGM.out.below hbd)
    have HBd : Hid (Below ws.heap.size ws wd) := bel HB3.out hbd
    obtain ⟨v1, hl1, ho1⟩ := HGD.out.look hnp6 1 rfl
    obtain ⟨v2, hl2, ho2⟩ := HGD.out.look hnp6 2 rfl
    have HO1 := Lib.hid ho1
    have HO2 := Lib.hid ho2
    clear hbd ho1 ho2
    refine wp_region_held_drew (S := fun w' => (Instr.lookup 88 (.map (some B)) (.int .i64 1) false).run Try.prog w' = .ok v1 w' ∧ (Instr.lookup 88 (.map (some B)) (.int .i64 2) false).run Try.prog w' = .ok v2 w') (by kernel_rfl) (by rw [hwd]; exact ⟨hl1, hl2⟩) (fun hHeld => ?_)
    rw [hwd]
    clear hwd
    have hSS := And.intro hl1 hl2
    (refine wpAnyH_take (i := 0) (v := ?_) rfl (by kernel_rfl) (by kernel_rfl) (by kernel_rfl) (fun _ _ _ h => h) (Or.inl ⟨by rfl, ?_⟩) (by assumption) ?_; rotate_left; (focus (intro w hSw; (try dsimp only at hSw); go_simp; (try with_reducible rfl))); (try simp only [List.getElem_toArray, List.getElem_cons_zero, List.getElem_cons_succ, Act.put, List.setIfInBounds_toArray, List.set_cons_zero, List.set_cons_succ])); (refine wpAnyH_take (i := 1) (v := ?_) rfl (by kernel_rfl) (by kernel_rfl) (by kernel_rfl) (fun _ _ _ h => h) (Or.inl ⟨by rfl, ?_⟩) (by assumption) ?_; rotate_left; (focus (intro w hSw; (try dsimp only at hSw); go_simp; (try with_reducible rfl))); (try simp only [List.getElem_toArray, List.getElem_cons_zero, List.getElem_cons_succ, Act.put, List.setIfInBounds_toArray, List.set_cons_zero, List.set_cons_succ])); (refine wpAnyH_take (i := 2) (v := ?_) rfl (by kernel_rfl) (by kernel_rfl) (by kernel_rfl) (fun _ _ _ h => h) (Or.inl ⟨by rfl, ?_⟩) (by assumption) ?_; rotate_left; (focus (intro w hSw; (try dsimp only at hSw); go_simp; (try with_reducible rfl))); (try simp only [List.getElem_toArray, List.getElem_cons_zero, List.getElem_cons_succ, Act.put, List.setIfInBounds_toArray, List.set_cons_zero, List.set_cons_succ])); (refine wpAnyH_take (i := 3) (v := ?_) rfl (by kernel_rfl) (by kernel_rfl) (by kernel_rfl) (fun _ _ _ h => h) (Or.inl ⟨by rfl, ?_⟩) (by assumption) ?_; rotate_left; (focus (intro w hSw; (try dsimp only at hSw); go_simp; (try with_reducible rfl))); (try simp only [List.getElem_toArray, List.getElem_cons_zero, List.getElem_cons_succ, Act.put, List.setIfInBounds_toArray, List.set_cons_zero, List.set_cons_succ])); (refine wpAnyH_take (i := 4) (v := ?_) rfl (by kernel_rfl) (by kernel_rfl) (by kernel_rfl) (fun _ _ _ h => h) (Or.inl ⟨by rfl, ?_⟩) (by assumption) ?_; rotate_left; (focus (intro w hSw; (try dsimp only at hSw); go_simp; (try with_reducible rfl))); (try simp only [List.getElem_toArray, List.getElem_cons_zero, List.getElem_cons_succ, Act.put, List.setIfInBounds_toArray, List.set_cons_zero, List.set_cons_succ])); (refine wpAnyH_take (i := 5) (v := ?_) rfl (by kernel_rfl) (by kernel_rfl) (by kernel_rfl) (fun _ _ _ h => h) (Or.inl ⟨by rfl, ?_⟩) (by assumption) ?_; rotate_left; (focus (intro w hSw; (try dsimp only at hSw); go_simp; (try with_reducible rfl))); (try simp only [List.getElem_toArray, List.getElem_cons_zero, List.getElem_cons_succ, Act.put, List.setIfInBounds_toArray, List.set_cons_zero, List.set_cons_succ])); (refine wpAnyH_take (i := 6) (v := ?_) rfl (by kernel_rfl) (by kernel_rfl) (by kernel_rfl) (fun _ _ _ h => h) (Or.inl ⟨by rfl, ?_⟩) (by assumption) ?_; rotate_left; (focus (intro w hSw; (try dsimp only at hSw); go_simp; (try with_reducible rfl))); (try simp only [List.getElem_toArray, List.getElem_cons_zero, List.getElem_cons_succ, Act.put, List.setIfInBounds_toArray, List.set_cons_zero, List.set_cons_succ]))
    refine wpAnyH_done (by kernel_rfl) ?_ _; clear hHeld
    clear hSS
    go_wp2_with fail
    go_ret3
    have hlB : w.heap.size ≤ B + 1 := by have := HLB.out; have := HB2.out.size; have := HB.out.size; omega
    exact ⟨v1, v2, rfl, own_mono HO1.out hlB, own_mono HO2.out hlB, fin HB.out HBd.out⟩
  | false =>
    have he : er = 80 := by rw [← her]; unfold errS; rw [hok]; rfl
    subst he
    go_enter Try.func35, Try.ntmps35
    go_upto_region 2 with (go_at_call 68; refine (enter_no N _ S _ HBK.out hok).mono ?_; rintro e w1 ⟨rfl, hb1⟩; have HB1 : Hid (Below ws.heap.size ws w1) := (bel HB0.out hb1); clear hb1; obtain ⟨wo, hwo, HBo, hszo, hblko⟩ := box1 w1 (.cells #[.int .i64 0, .int .i64 0, .int .i64 0, .slice none 0 0] 74); have HZo := Lib.hid hblko; have z0 := cell_blk hblko 0 rfl; have z1 := cell_blk hblko 1 rfl; have z2 := cell_blk hblko 2 rfl; have z3 := cell_blk hblko 3 rfl; have f0 := free_blk hblko 0; have f1 := free_blk hblko 1; have f2 := free_blk hblko 2; have f3 := free_blk hblko 3; clear hblko)
    obtain ⟨w2, hw2, hz2, ho2, hb2⟩ := put4o HZo.out (.int .i64 0) (.int .i64 0) (.int .i64 0) (.slice none 0 0)
    rw [hw2]
    have HB2 : Hid (Below ws.heap.size ws w2) := HB1.out.trans ((HBo.out.trans hb2).mono HB1.out.size)
    have HZ2 := Lib.hid hz2
    have hs12 : w1.heap.size < w2.heap.size := Nat.lt_of_lt_of_le hszo hb2.size
    clear hw2 ho2 hb2 z0 z1 z2 z3 f0 f1 f2 f3 hwo HZo HBo hszo
    obtain ⟨jb, hjb⟩ : ∃ jb, w1.heap.size = jb := ⟨_, rfl⟩
    rw [hjb] at hz2 HZ2 hs12 ⊢
    have HJB : Hid (ws.heap.size ≤ jb) := by rw [← hjb]; exact HB1.out.size
    have j0 := cell_blk hz2 0 rfl
    have j1 := cell_blk hz2 1 rfl
    have j2 := cell_blk hz2 2 rfl
    have j3 := cell_blk hz2 3 rfl
    clear hz2 hjb
    go_wp2_with fail
    go_ret3
    exact ⟨_, _, rfl, OwnI.nil _ _, OwnI.nil _ _, fin HB.out HB2.out⟩

theorem placeM_sz (N M : Nat) (v u : Value) (S : JB) (p : Nat) (t sz : Int) (w : World) (h : ShowAt N w v S) (hu : ShowAt M w u S) (hR : RdJ S) (hp : p < S.np) (hsz : S.sz p = sz) :
    Calls Try.prog 81 #[v, .int .i64 p, .agg #[.int .i64 t, .int .i64 sz], .func (.func 82) #[u] #[]] w fun e w' => e = .returned (.int .i64 (placeN (upd (hiT S) p t) S.sz S.np p)) ∧ Below w.heap.size w w' := by
  rw [← hsz]; exact placeM_any N M v u S p t w h hu hR hp
/-- the least total with which a plate gets a prize, if there is one -/
def ndF (S : JB) (k : Nat) : Option Int := fstI (nds S k) (hiT S k - loT S k + 1).toNat (loT S k)
def ndV (S : JB) (k : Nat) : Int := (ndF S k).getD 0
def ndB (S : JB) (k : Nat) : Bool := (ndF S k).isSome
theorem lo_bd {S : JB} (h : RdJ S) {k : Nat} (hk : k < S.np) : -40 ≤ loT S k ∧ loT S k ≤ 40000 ∧ -40 ≤ hiT S k ∧ hiT S k ≤ 40000 := by
  have h1 := h.rd.len k hk
  have h2 := fil_pt (n := 0) (h.rd.pt k hk) (by omega)
  have h3 := fil_pt (n := 20) (h.rd.pt k hk) (by omega)
  have hD := h.rd.D0
  have g1 := tot_le (d := S.D.toNat) (l := fil 0 (S.pts k)) (fun x hx => by have := h2 x hx; omega) (by rw [fil_len]; omega)
  have g2 := tot_le (d := S.D.toNat) (l := fil 20 (S.pts k)) (fun x hx => by have := h3 x hx; omega) (by rw [fil_len]; omega)
  rw [fil_len] at g1 g2
  unfold loT hiT
  omega

set_option maxHeartbeats 6400000 in
set_option maxRecDepth 100000 in
theorem kneeds_any (N : Nat) (v : Value) (S : JB) (k : Nat) (w : World) (h : ShowAt N w v S) (hR : RdJ S) (hk : k < S.np) :
    Calls Try.prog 65 #[v, .int .i64 k] w fun e w' => e = .returned (.tuple #[.int .i64 (ndV S k), .bool (ndB S k)]) ∧ Below w.heap.size w w' := by
  obtain ⟨a1, c1, rfl⟩ := h.form
  obtain ⟨ws, hws, HB, hsz, hblk⟩ := box1 w (.cells #[.int .i64 S.J, .int .i64 S.D, .int .i64 S.Z, .slice a1 S.np c1] 74)
  have q0 := cell_blk hblk 0 rfl
  have q1 := cell_blk hblk 1 rfl
  have q2 := cell_blk hblk 2 rfl
  have q3 := cell_blk hblk 3 rfl
  have HNZ : Hid (N ≤ w.heap.size) := h.1
  have HBK := Lib.hid (h.go HB.out)
  have HB0 : Hid (Below ws.heap.size ws ws) := Below.refl _ _
  have HNS : Hid (N ≤ ws.heap.size) := HBK.out.1
  have hlen := h.len
  clear hblk h
  obtain ⟨A, C, hcap, _, hrows, hcells⟩ := HBK.out.plates.open
  obtain ⟨b, off, rfl, hbN, hrr⟩ := hcells (by omega)
  have d0 := (hrr k hk).1
  have hbw : b < ws.heap.size := by have := HNS.out; omega
  have HR := Lib.hid hR
  have hbd := lo_bd hR hk
  have hlh := lo_hi S k
  obtain ⟨lo, hlo⟩ : ∃ x, loT S k = x := ⟨_, rfl⟩
  obtain ⟨hi, hhi⟩ : ∃ x, hiT S k = x := ⟨_, rfl⟩
  obtain ⟨sz, hsz'⟩ : ∃ x, S.sz k = x := ⟨_, rfl⟩
  rw [hsz'] at d0
  rw [hlo, hhi] at hbd hlh
  have HLO := Lib.hid hlo
  have HHI := Lib.hid hhi
  have HSZ := Lib.hid hsz'
  have HNF : Hid (ndF S k = fstI (nds S k) (hi - lo + 1).toNat lo) := by unfold Hid ndF; rw [hlo, hhi]
  have HSX : Hid (∀ W, Below ws.heap.size ws W → ((W.cell? ⟨w.heap.size, 0, none⟩ = some (.int .i64 S.J) ∧ W.cell? ⟨w.heap.size, 1, none⟩ = some (.int .i64 S.D) ∧ W.cell? ⟨w.heap.size, 2, none⟩ = some (.int .i64 S.Z) ∧ W.cell? ⟨w.heap.size, 3, none⟩ = some (.slice (some ⟨b, off, none⟩) S.np c1))) ∧ W.cell? ⟨b, off + k * 2, none⟩ = some (.int .i64 sz)) := fun W hW => ⟨⟨(hW.cell (p := ⟨w.heap.size, 0, none⟩) hsz).trans q0, (hW.cell (p := ⟨w.heap.size, 1, none⟩) hsz).trans q1, (hW.cell (p := ⟨w.heap.size, 2, none⟩) hsz).trans q2, (hW.cell (p := ⟨w.heap.size, 3, none⟩) hsz).trans q3⟩, (hW.cell (p := ⟨b, off + k * 2, none⟩) hbw).trans d0⟩
  have hki : (k : Int) < (S.np : Int) := by omega
  clear hR q0 q1 q2 q3 hlo hhi hsz' hrr hrows hcells d0
  go_enter Try.func65, Try.ntmps65
  go_upto_region 1 with fail
  clear hws
  go_cut [6, 7] (fun u6 u7 wx => Hid (∃ g, u6 = .pointer (some ⟨g, 0, none⟩) ∧ u7 = .int .i64 sz ∧ wx.heap[g]? = some (.cells #[.int .i64 lo, .int .i64 hi] 30) ∧ ws.heap.size ≤ g ∧ Below ws.heap.size ws wx))
  case first =>
    obtain ⟨wd, hwd⟩ : ∃ wd, ws.drew = wd := ⟨_, rfl⟩
    have HBd : Hid (Below ws.heap.size ws wd) := by rw [← hwd]; exact (Below.refl _ _).drew
    have hS0 := HSX.out wd HBd.out
    refine wp_region_held_drew (S := fun W => ((W.cell? ⟨w.heap.size, 0, none⟩ = some (.int .i64 S.J) ∧ W.cell? ⟨w.heap.size, 1, none⟩ = some (.int .i64 S.D) ∧ W.cell? ⟨w.heap.size, 2, none⟩ = some (.int .i64 S.Z) ∧ W.cell? ⟨w.heap.size, 3, none⟩ = some (.slice (some ⟨b, off, none⟩) S.np c1))) ∧ W.cell? ⟨b, off + k * 2, none⟩ = some (.int .i64 sz)) (by kernel_rfl) (by rw [hwd]; exact hS0) (fun hHeld => ?_)
    rw [hwd]
    clear hwd
    (refine wpAnyH_take (i := 0) (v := ?_) rfl (by kernel_rfl) (by kernel_rfl) (by kernel_rfl) (fun _ _ _ h => h) (Or.inl ⟨by rfl, ?_⟩) (by assumption) ?_; rotate_left; (focus (intro w hSw; (try dsimp only at hSw); go_simp; (try with_reducible rfl))); (try simp only [List.getElem_toArray, List.getElem_cons_zero, List.getElem_cons_succ, Act.put, List.setIfInBounds_toArray, List.set_cons_zero, List.set_cons_succ])); (refine wpAnyH_take (i := 1) (v := ?_) rfl (by kernel_rfl) (by kernel_rfl) (by kernel_rfl) (fun _ _ _ h => h) (Or.inl ⟨by rfl, ?_⟩) (by assumption) ?_; rotate_left; (focus (intro w hSw; (try dsimp only at hSw); go_simp; (try with_reducible rfl))); (try simp only [List.getElem_toArray, List.getElem_cons_zero, List.getElem_cons_succ, Act.put, List.setIfInBounds_toArray, List.set_cons_zero, List.set_cons_succ]))
    (refine wpAnyH_take (i := 3) (v := ?_) rfl (by kernel_rfl) (by kernel_rfl) (by kernel_rfl) (fun _ _ _ h => h) (Or.inl ⟨by rfl, ?_⟩) (by assumption) ?_; rotate_left; (focus (intro w hSw; (try dsimp only at hSw); go_simp; (try with_reducible rfl))); (try simp only [List.getElem_toArray, List.getElem_cons_zero, List.getElem_cons_succ, Act.put, List.setIfInBounds_toArray, List.set_cons_zero, List.set_cons_succ])); (refine wpAnyH_take (i := 4) (v := ?_) rfl (by kernel_rfl) (by kernel_rfl) (by kernel_rfl) (fun _ _ _ h => h) (Or.inl ⟨by rfl, ?_⟩) (by assumption) ?_; rotate_left; (focus (intro w hSw; (try dsimp only at hSw); go_simp; (try with_reducible rfl))); (try simp only [List.getElem_toArray, List.getElem_cons_zero, List.getElem_cons_succ, Act.put, List.setIfInBounds_toArray, List.set_cons_zero, List.set_cons_succ])); (refine wpAnyH_take (i := 5) (v := ?_) rfl (by kernel_rfl) (by kernel_rfl) (by kernel_rfl) (fun _ _ _ h => h) (Or.inl ⟨by rfl, ?_⟩) (by assumption) ?_; rotate_left; (focus (intro w hSw; (try dsimp only at hSw); go_simp; (try with_reducible rfl))); (try simp only [List.getElem_toArray, List.getElem_cons_zero, List.getElem_cons_succ, Act.put, List.setIfInBounds_toArray, List.set_cons_zero, List.set_cons_succ])); (refine wpAnyH_take (i := 6) (v := ?_) rfl (by kernel_rfl) (by kernel_rfl) (by kernel_rfl) (fun _ _ _ h => h) (Or.inl ⟨by rfl, ?_⟩) (by assumption) ?_; rotate_left; (focus (intro w hSw; (try dsimp only at hSw); go_simp; (try with_reducible rfl))); (try simp only [List.getElem_toArray, List.getElem_cons_zero, List.getElem_cons_succ, Act.put, List.setIfInBounds_toArray, List.set_cons_zero, List.set_cons_succ])); (refine wpAnyH_take (i := 7) (v := ?_) rfl (by kernel_rfl) (by kernel_rfl) (by kernel_rfl) (fun _ _ _ h => h) (Or.inl ⟨by rfl, ?_⟩) (by assumption) ?_; rotate_left; (focus (intro w hSw; (try dsimp only at hSw); go_simp; (try with_reducible rfl))); (try simp only [List.getElem_toArray, List.getElem_cons_zero, List.getElem_cons_succ, Act.put, List.setIfInBounds_toArray, List.set_cons_zero, List.set_cons_succ])); (refine wpAnyH_take (i := 8) (v := ?_) rfl (by kernel_rfl) (by kernel_rfl) (by kernel_rfl) (fun _ _ _ h => h) (Or.inl ⟨by rfl, ?_⟩) (by assumption) ?_; rotate_left; (focus (intro w hSw; (try dsimp only at hSw); go_simp; (try with_reducible rfl))); (try simp only [List.getElem_toArray, List.getElem_cons_zero, List.getElem_cons_succ, Act.put, List.setIfInBounds_toArray, List.set_cons_zero, List.set_cons_succ])); (refine wpAnyH_take (i := 9) (v := ?_) rfl (by kernel_rfl) (by kernel_rfl) (by kernel_rfl) (fun _ _ _ h => h) (Or.inl ⟨by rfl, ?_⟩) (by assumption) ?_; rotate_left; (focus (intro w hSw; (try dsimp only at hSw); go_simp; (try with_reducible rfl))); (try simp only [List.getElem_toArray, List.getElem_cons_zero, List.getElem_cons_succ, Act.put, List.setIfInBounds_toArray, List.set_cons_zero, List.set_cons_succ]))
    refine wpAnyH_ready (rs := [2, 10]) (by kernel_rfl) (by simp) ?_; refine AllReadyH.cons rfl (fun K hK => ?_) (AllReadyH.cons rfl (fun K hK => ?_) AllReadyH.nil)
    · go_simp
      go_at_call 56
      refine (ktotals_any N _ S k _ (HBK.out.go HBd.out) HR.out hk).mono ?_
      rw [HLO.out, HHI.out]
      rintro e w1 ⟨rfl, hb1⟩
      have HB1 : Hid (Below ws.heap.size ws w1) := bel HBd.out hb1
      have hS1 := HSX.out w1 HB1.out
      clear hb1 hS0
      refine hK.out _ _ hS1 (fun hHeld => ?_); clear hK K; (try simp only [List.getElem_toArray, List.getElem_cons_zero, List.getElem_cons_succ, Act.put, List.setIfInBounds_toArray, List.set_cons_zero, List.set_cons_succ])
      obtain ⟨w2, hw2, HBx, hszx, hblkx⟩ := box1 w1 (.cells #[.int .i64 0, .int .i64 0] 30)
      have HB2 : Hid (Below ws.heap.size ws w2) := bel HB1.out HBx.out
      have hS2 := HSX.out w2 HB2.out
      refine wpAnyH_ready (rs := [10]) (by kernel_rfl) (by simp) ?_; refine AllReadyH.cons rfl (fun K hK => ?_) AllReadyH.nil; go_simp
      (try rw [hw2])
      obtain ⟨g, hg⟩ : ∃ g, w1.heap.size = g := ⟨_, rfl⟩
      have HGS : Hid (ws.heap.size ≤ g) := by rw [← hg]; exact HB1.out.size
      rw [hg] at hblkx ⊢
      have HZ := Lib.hid hblkx
      have x0 := cell_blk hblkx 0 rfl
      have x1 := cell_blk hblkx 1 rfl
      have y0 := free_blk hblkx 0
      have y1 := free_blk hblkx 1
      clear hw2 hg hblkx hszx HBx hS1
      refine hK.out _ _ hS2 (fun hHeld => ?_); clear hK K; (try simp only [List.getElem_toArray, List.getElem_cons_zero, List.getElem_cons_succ, Act.put, List.setIfInBounds_toArray, List.set_cons_zero, List.set_cons_succ])
      refine wpAnyH_ready (rs := [11]) (by kernel_rfl) (by simp) ?_; refine AllReadyH.cons rfl (fun K hK => ?_) AllReadyH.nil; go_simp
      obtain ⟨w5, hw5, hz5, ho5, hb5⟩ := put2o HZ.out (.int .i64 lo) (.int .i64 hi)
      (try rw [hw5])
      have HB5 : Hid (Below ws.heap.size ws w5) := HB2.out.trans (hb5.mono HGS.out)
      have hS5 := HSX.out w5 HB5.out
      have HZ5 := Lib.hid hz5
      clear hw5 hz5 ho5 hb5 x0 x1 y0 y1
      refine hK.out _ _ hS5 (fun hHeld => ?_); clear hK K; (try simp only [List.getElem_toArray, List.getElem_cons_zero, List.getElem_cons_succ, Act.put, List.setIfInBounds_toArray, List.set_cons_zero, List.set_cons_succ])
      (refine wpAnyH_take (i := 12) (v := ?_) rfl (by kernel_rfl) (by kernel_rfl) (by kernel_rfl) (fun _ _ _ h => h) (Or.inl ⟨by rfl, ?_⟩) (by assumption) ?_; rotate_left; (focus (intro w hSw; (try dsimp only at hSw); go_simp; (try with_reducible rfl))); (try simp only [List.getElem_toArray, List.getElem_cons_zero, List.getElem_cons_succ, Act.put, List.setIfInBounds_toArray, List.set_cons_zero, List.set_cons_succ]))
      refine wpAnyH_done (by kernel_rfl) ?_ _; clear hHeld
      go_wp2_with fail
      go_meet
      exact ⟨g, rfl, rfl, HZ5.out, HGS.out, HB5.out⟩
    · obtain ⟨w1, hw1, HBx, hszx, hblkx⟩ := box1 wd (.cells #[.int .i64 0, .int .i64 0] 30)
      have HB1 : Hid (Below ws.heap.size ws w1) := bel HBd.out HBx.out
      have hS1 := HSX.out w1 HB1.out
      go_simp
      (try rw [hw1])
      obtain ⟨g, hg⟩ : ∃ g, wd.heap.size = g := ⟨_, rfl⟩
      have HGS : Hid (ws.heap.size ≤ g) := by rw [← hg]; exact HBd.out.size
      rw [hg] at hblkx ⊢
      have HZ1 := Lib.hid hblkx
      have hgl := heap_lt hblkx
      clear hw1 hg hblkx hszx HBx hS0
      refine hK.out _ _ hS1 (fun hHeld => ?_); clear hK K; (try simp only [List.getElem_toArray, List.getElem_cons_zero, List.getElem_cons_succ, Act.put, List.setIfInBounds_toArray, List.set_cons_zero, List.set_cons_succ])
      refine wpAnyH_ready (rs := [2]) (by kernel_rfl) (by simp) ?_; refine AllReadyH.cons rfl (fun K hK => ?_) AllReadyH.nil; go_simp
      go_at_call 56
      refine (ktotals_any N _ S k _ (HBK.out.go HB1.out) HR.out hk).mono ?_
      rw [HLO.out, HHI.out]
      rintro e w2 ⟨rfl, hb2⟩
      have HB2 : Hid (Below ws.heap.size ws w2) := bel HB1.out hb2
      have hS2 := HSX.out w2 HB2.out
      have HZ := Lib.hid ((hb2.block _ hgl).trans HZ1.out)
      have x0 := cell_blk HZ.out 0 rfl
      have x1 := cell_blk HZ.out 1 rfl
      have y0 := free_blk HZ.out 0
      have y1 := free_blk HZ.out 1
      clear hb2 hS1
      refine hK.out _ _ hS2 (fun hHeld => ?_); clear hK K; (try simp only [List.getElem_toArray, List.getElem_cons_zero, List.getElem_cons_succ, Act.put, List.setIfInBounds_toArray, List.set_cons_zero, List.set_cons_succ])
      refine wpAnyH_ready (rs := [11]) (by kernel_rfl) (by simp) ?_; refine AllReadyH.cons rfl (fun K hK => ?_) AllReadyH.nil; go_simp
      obtain ⟨w5, hw5, hz5, ho5, hb5⟩ := put2o HZ.out (.int .i64 lo) (.int .i64 hi)
      (try rw [hw5])
      have HB5 : Hid (Below ws.heap.size ws w5) := HB2.out.trans (hb5.mono HGS.out)
      have hS5 := HSX.out w5 HB5.out
      have HZ5 := Lib.hid hz5
      clear hw5 hz5 ho5 hb5 x0 x1 y0 y1
      refine hK.out _ _ hS5 (fun hHeld => ?_); clear hK K; (try simp only [List.getElem_toArray, List.getElem_cons_zero, List.getElem_cons_succ, Act.put, List.setIfInBounds_toArray, List.set_cons_zero, List.set_cons_succ])
      (refine wpAnyH_take (i := 12) (v := ?_) rfl (by kernel_rfl) (by kernel_rfl) (by kernel_rfl) (fun _ _ _ h => h) (Or.inl ⟨by rfl, ?_⟩) (by assumption) ?_; rotate_left; (focus (intro w hSw; (try dsimp only at hSw); go_simp; (try with_reducible rfl))); (try simp only [List.getElem_toArray, List.getElem_cons_zero, List.getElem_cons_succ, Act.put, List.setIfInBounds_toArray, List.set_cons_zero, List.set_cons_succ]))
      refine wpAnyH_done (by kernel_rfl) ?_ _; clear hHeld
      go_wp2_with fail
      go_meet
      exact ⟨g, rfl, rfl, HZ5.out, HGS.out, HB5.out⟩
  case rest =>
    obtain ⟨g, rfl, rfl, hz, hgs, hb⟩ := hcut
    have HZ := Lib.hid hz
    have HGS := Lib.hid hgs
    have HBc := Lib.hid hb
    have g0 := cell_blk hz 0 rfl
    have g1 := cell_blk hz 1 rfl
    have hgw := heap_lt hz
    clear hz hgs hb
    go_wp2_with fail
    go_loopw [8] (fun t wr => ∃ q : Nat, (q : Int) ≤ hi - lo + 1 ∧ t = .int .i64 (lo + q) ∧ Hid (ndF S k = fstI (nds S k) ((hi - lo + 1).toNat - q) (lo + q)) ∧ Hid (Below wc.heap.size wc wr)) (fun t _ => (hi + 1 - intOf t).toNat)
    case atStart => exact ⟨0, by omega, by simp, by unfold Hid; rw [HNF.out]; simp, Below.refl _ _⟩
    case round =>
      obtain ⟨q, hq, rfl, HF, HBr⟩ := hrel
      have HBw : Hid (Below ws.heap.size ws wr) := bel HBc.out HBr.out
      have s0 := (HBr.out.cell (p := ⟨g, 0, none⟩) hgw).trans g0
      have s1 := (HBr.out.cell (p := ⟨g, 1, none⟩) hgw).trans g1
      obtain ⟨t, ht⟩ : ∃ t, lo + (q : Int) = t := ⟨_, rfl⟩
      rw [ht] at HF ⊢
      have HTQ := Lib.hid ht
      by_cases hth : t ≤ hi
      · have hq1 : 1 ≤ (hi - lo + 1).toNat - q := by omega
        obtain ⟨m, hm⟩ : ∃ m, (hi - lo + 1).toNat - q = m + 1 := ⟨(hi - lo + 1).toNat - q - 1, by omega⟩
        have HM := Lib.hid hm
        rw [hm] at HF
        obtain ⟨pn, hpn⟩ : ∃ pn, placeN (upd (hiT S) k t) S.sz S.np k = pn := ⟨_, rfl⟩
        have HPN := Lib.hid hpn
        have HND : Hid (nds S k t = decide ((pn : Int) ≤ S.Z)) := by unfold Hid nds; rw [hpn]
        have htb : -40 ≤ t ∧ t ≤ 40000 := by omega
        obtain ⟨htb1, htb2⟩ := htb
        clear hpn hm hq1 ht
        go_upto_region 5 with fail
        obtain ⟨wd, hwd⟩ : ∃ wd, wr.drew = wd := ⟨_, rfl⟩
        have HBd : Hid (Below ws.heap.size ws wd) := by rw [← hwd]; exact HBw.out.drew
        have HBd2 : Hid (Below wc.heap.size wc wd) := by rw [← hwd]; exact HBr.out.drew
        have hS0 := HSX.out wd HBd.out
        refine wp_region_held_drew (S := fun W => ((W.cell? ⟨w.heap.size, 0, none⟩ = some (.int .i64 S.J) ∧ W.cell? ⟨w.heap.size, 1, none⟩ = some (.int .i64 S.D) ∧ W.cell? ⟨w.heap.size, 2, none⟩ = some (.int .i64 S.Z) ∧ W.cell? ⟨w.heap.size, 3, none⟩ = some (.slice (some ⟨b, off, none⟩) S.np c1))) ∧ W.cell? ⟨b, off + k * 2, none⟩ = some (.int .i64 sz)) (by kernel_rfl) (by rw [hwd]; exact hS0) (fun hHeld => ?_)
        rw [hwd]
        clear hwd
        (refine wpAnyH_take (i := 0) (v := ?_) rfl (by kernel_rfl) (by kernel_rfl) (by kernel_rfl) (fun _ _ _ h => h) (Or.inl ⟨by rfl, ?_⟩) (by assumption) ?_; rotate_left; (focus (intro w hSw; (try dsimp only at hSw); go_simp; (try with_reducible rfl))); (try simp only [List.getElem_toArray, List.getElem_cons_zero, List.getElem_cons_succ, Act.put, List.setIfInBounds_toArray, List.set_cons_zero, List.set_cons_succ])); (refine wpAnyH_take (i := 1) (v := ?_) rfl (by kernel_rfl) (by kernel_rfl) (by kernel_rfl) (fun _ _ _ h => h) (Or.inl ⟨by rfl, ?_⟩) (by assumption) ?_; rotate_left; (focus (intro w hSw; (try dsimp only at hSw); go_simp; (try with_reducible rfl))); (try simp only [List.getElem_toArray, List.getElem_cons_zero, List.getElem_cons_succ, Act.put, List.setIfInBounds_toArray, List.set_cons_zero, List.set_cons_succ])); (refine wpAnyH_take (i := 2) (v := ?_) rfl (by kernel_rfl) (by kernel_rfl) (by kernel_rfl) (fun _ _ _ h => h) (Or.inl ⟨by rfl, ?_⟩) (by assumption) ?_; rotate_left; (focus (intro w hSw; (try dsimp only at hSw); go_simp; (try with_reducible rfl))); (try simp only [List.getElem_toArray, List.getElem_cons_zero, List.getElem_cons_succ, Act.put, List.setIfInBounds_toArray, List.set_cons_zero, List.set_cons_succ])); (refine wpAnyH_take (i := 3) (v := ?_) rfl (by kernel_rfl) (by kernel_rfl) (by kernel_rfl) (fun _ _ _ h => h) (Or.inl ⟨by rfl, ?_⟩) (by assumption) ?_; rotate_left; (focus (intro w hSw; (try dsimp only at hSw); go_simp; (try with_reducible rfl))); (try simp only [List.getElem_toArray, List.getElem_cons_zero, List.getElem_cons_succ, Act.put, List.setIfInBounds_toArray, List.set_cons_zero, List.set_cons_succ])); (refine wpAnyH_take (i := 4) (v := ?_) rfl (by kernel_rfl) (by kernel_rfl) (by kernel_rfl) (fun _ _ _ h => h) (Or.inl ⟨by rfl, ?_⟩) (by assumption) ?_; rotate_left; (focus (intro w hSw; (try dsimp only at hSw); go_simp; (try with_reducible rfl))); (try simp only [List.getElem_toArray, List.getElem_cons_zero, List.getElem_cons_succ, Act.put, List.setIfInBounds_toArray, List.set_cons_zero, List.set_cons_succ])); (refine wpAnyH_take (i := 5) (v := ?_) rfl (by kernel_rfl) (by kernel_rfl) (by kernel_rfl) (fun _ _ _ h => h) (Or.inl ⟨by rfl, ?_⟩) (by assumption) ?_; rotate_left; (focus (intro w hSw; (try dsimp only at hSw); go_simp; (try with_reducible rfl))); (try simp only [List.getElem_toArray, List.getElem_cons_zero, List.getElem_cons_succ, Act.put, List.setIfInBounds_toArray, List.set_cons_zero, List.set_cons_succ])); (refine wpAnyH_take (i := 6) (v := ?_) rfl (by kernel_rfl) (by kernel_rfl) (by kernel_rfl) (fun _ _ _ h => h) (Or.inl ⟨by rfl, ?_⟩) (by assumption) ?_; rotate_left; (focus (intro w hSw; (try dsimp only at hSw); go_simp; (try with_reducible rfl))); (try simp only [List.getElem_toArray, List.getElem_cons_zero, List.getElem_cons_succ, Act.put, List.setIfInBounds_toArray, List.set_cons_zero, List.set_cons_succ]))
        (refine wpAnyH_take (i := 8) (v := ?_) rfl (by kernel_rfl) (by kernel_rfl) (by kernel_rfl) (fun _ _ _ h => h) (Or.inl ⟨by rfl, ?_⟩) (by assumption) ?_; rotate_left; (focus (intro w hSw; (try dsimp only at hSw); go_simp; (try with_reducible rfl))); (try simp only [List.getElem_toArray, List.getElem_cons_zero, List.getElem_cons_succ, Act.put, List.setIfInBounds_toArray, List.set_cons_zero, List.set_cons_succ])); (refine wpAnyH_take (i := 9) (v := ?_) rfl (by kernel_rfl) (by kernel_rfl) (by kernel_rfl) (fun _ _ _ h => h) (Or.inl ⟨by rfl, ?_⟩) (by assumption) ?_; rotate_left; (focus (intro w hSw; (try dsimp only at hSw); go_simp; (try with_reducible rfl))); (try simp only [List.getElem_toArray, List.getElem_cons_zero, List.getElem_cons_succ, Act.put, List.setIfInBounds_toArray, List.set_cons_zero, List.set_cons_succ])); (refine wpAnyH_take (i := 10) (v := ?_) rfl (by kernel_rfl) (by kernel_rfl) (by kernel_rfl) (fun _ _ _ h => h) (Or.inl ⟨by rfl, ?_⟩) (by assumption) ?_; rotate_left; (focus (intro w hSw; (try dsimp only at hSw); go_simp; (try with_reducible rfl))); (try simp only [List.getElem_toArray, List.getElem_cons_zero, List.getElem_cons_succ, Act.put, List.setIfInBounds_toArray, List.set_cons_zero, List.set_cons_succ]))
        refine wpAnyH_ready (rs := [7]) (by kernel_rfl) (by simp) ?_; refine AllReadyH.cons rfl (fun K hK => ?_) AllReadyH.nil; go_simp
        go_at_call 81
        refine (placeM_sz N N _ _ S k t sz _ (HBK.out.go HBd.out) (HBK.out.go HBd.out) HR.out hk HSZ.out).mono ?_
        rw [HPN.out]
        rintro e w3 ⟨rfl, hb3⟩
        have HB3 : Hid (Below ws.heap.size ws w3) := bel HBd.out hb3
        have HB32 : Hid (Below wc.heap.size wc w3) := bel HBd2.out hb3
        have hS3 := HSX.out w3 HB3.out
        clear hb3 hS0
        refine hK.out _ _ hS3 (fun hHeld => ?_); clear hK K; (try simp only [List.getElem_toArray, List.getElem_cons_zero, List.getElem_cons_succ, Act.put, List.setIfInBounds_toArray, List.set_cons_zero, List.set_cons_succ])
        (refine wpAnyH_take (i := 11) (v := ?_) rfl (by kernel_rfl) (by kernel_rfl) (by kernel_rfl) (fun _ _ _ h => h) (Or.inl ⟨by rfl, ?_⟩) (by assumption) ?_; rotate_left; (focus (intro w hSw; (try dsimp only at hSw); go_simp; (try with_reducible rfl))); (try simp only [List.getElem_toArray, List.getElem_cons_zero, List.getElem_cons_succ, Act.put, List.setIfInBounds_toArray, List.set_cons_zero, List.set_cons_succ]))
        refine wpAnyH_done (by kernel_rfl) ?_ _; clear hHeld
        clear hS3
        by_cases hpz : (pn : Int) ≤ S.Z
        · have HR1 : Hid (ndF S k = some t) := by unfold Hid; rw [HF.out]; unfold fstI; rw [HND.out, decide_eq_true hpz]; rfl
          go_wp2_with fail
          go_ret2
          exact ⟨by unfold ndV ndB; rw [HR1.out]; rfl, fin HB.out HB3.out⟩
        · have HF1 : Hid (ndF S k = fstI (nds S k) m (t + 1)) := by
            unfold Hid; rw [HF.out]
            conv => lhs; unfold fstI
            rw [HND.out, decide_eq_false hpz]; rfl
          go_wp2_with fail
          go_roundw
          case rel => exact ⟨q + 1, by have := HTQ.out; omega, by have := HTQ.out; congr 1; omega, by
            unfold Hid
            have h1 := HM.out
            have h2 := HTQ.out
            rw [show (hi - lo + 1).toNat - (q + 1) = m by omega, show lo + ((q + 1 : Nat) : Int) = t + 1 by omega]
            exact HF1.out, HB32.out⟩
          case measure => simp [intOf]; omega
      · have HR0 : Hid (ndF S k = none) := by
          unfold Hid
          rw [HF.out, show (hi - lo + 1).toNat - q = 0 by omega]
          rfl
        go_wp2_with fail
        go_ret2
        exact ⟨by unfold ndV ndB; rw [HR0.out]; rfl, fin HB.out HBw.out⟩


set_option maxHeartbeats 6400000 in
set_option maxRecDepth 100000 in
theorem kNeeds_any (N : Nat) (v : Value) (S : JB) (a er : Int) (w : World) (h : ShowAt N w v S) (her : (if errA (okS S) (inN a S.np) = 0 then (if ndB S a.toNat then 0 else 3) else errA (okS S) (inN a S.np)) = er) :
    Calls Try.prog 31 #[v, .int .i64 a] w fun e w' => e = .returned (.tuple #[.int .i64 (sp er (ndV S a.toNat)), .int .i64 er]) ∧ Below w.heap.size w w' := by
  obtain ⟨a1, c1, rfl⟩ := h.form
  obtain ⟨ws, hws, HB, hsz, hblk⟩ := box1 w (.cells #[.int .i64 S.J, .int .i64 S.D, .int .i64 S.Z, .slice a1 S.np c1] 24)
  have q0 := cell_blk hblk 0 rfl
  have q1 := cell_blk hblk 1 rfl
  have q2 := cell_blk hblk 2 rfl
  have q3 := cell_blk hblk 3 rfl
  have HNZ : Hid (N ≤ w.heap.size) := h.1
  have HBK := Lib.hid (h.go HB.out)
  have HB0 : Hid (Below ws.heap.size ws ws) := Below.refl _ _
  have HNS : Hid (N ≤ ws.heap.size) := HBK.out.1
  have hlen := h.len
  clear hblk h
  obtain ⟨ea, hea⟩ : ∃ x, errA (okS S) (inN a S.np) = x := ⟨_, rfl⟩
  rw [hea] at her
  by_cases h0 : ea = 0
  · subst h0
    obtain ⟨hok, hin⟩ := errA_ok hea
    obtain ⟨k, rfl, hk⟩ := inN_nat hin
    rw [if_pos rfl, Int.toNat_natCast] at her
    have HRD := Lib.hid (okS_good hok).rj
    obtain ⟨nv, hnv⟩ : ∃ x, ndV S k = x := ⟨_, rfl⟩
    have HNV := Lib.hid hnv
    cases hnb : ndB S k with
    | true =>
      rw [hnb] at her
      have he : er = 0 := her.symm
      subst he
      have HNB := Lib.hid hnb
      have HSP : Hid (sp 0 (ndV S (k : Int).toNat) = nv) := by rw [Int.toNat_natCast]; unfold Hid; rw [sp_ok]; exact hnv
      clear hok hin hnv hnb her
      go_enter Try.func31, Try.ntmps31
      go_upto_region 2 with (go_at_call 55; refine (enterPlate_ok N _ S k _ HBK.out hea).mono ?_; rintro e w1 ⟨rfl, hb1⟩; have HB1 : Hid (Below ws.heap.size ws w1) := (bel HB0.out hb1); clear hb1; obtain ⟨wo, hwo, HBo, hszo, hblko⟩ := box1 w1 (.cells #[.int .i64 0, .int .i64 0, .int .i64 0, .slice none 0 0] 74); have HZo := Lib.hid hblko; have z0 := cell_blk hblko 0 rfl; have z1 := cell_blk hblko 1 rfl; have z2 := cell_blk hblko 2 rfl; have z3 := cell_blk hblko 3 rfl; have f0 := free_blk hblko 0; have f1 := free_blk hblko 1; have f2 := free_blk hblko 2; have f3 := free_blk hblko 3; clear hblko)
      obtain ⟨w2, hw2, hz2, ho2, hb2⟩ := put4o HZo.out (.int .i64 S.J) (.int .i64 S.D) (.int .i64 S.Z) (.slice a1 S.np c1)
      rw [hw2]
      have HB2 : Hid (Below ws.heap.size ws w2) := HB1.out.trans ((HBo.out.trans hb2).mono HB1.out.size)
      have HZ2 := Lib.hid hz2
      have hs12 : w1.heap.size < w2.heap.size := Nat.lt_of_lt_of_le hszo hb2.size
      clear hw2 ho2 hb2 z0 z1 z2 z3 f0 f1 f2 f3 hwo HZo HBo hszo
      obtain ⟨jb, hjb⟩ : ∃ jb, w1.heap.size = jb := ⟨_, rfl⟩
      rw [hjb] at hz2 HZ2 hs12 ⊢
      have HJB : Hid (ws.heap.size ≤ jb) := by rw [← hjb]; exact HB1.out.size
      have j0 := cell_blk hz2 0 rfl
      have j1 := cell_blk hz2 1 rfl
      have j2 := cell_blk hz2 2 rfl
      have j3 := cell_blk hz2 3 rfl
      clear hz2 hjb
      go_wp2_with (go_at_call 65; refine (kneeds_any N _ S k _ (HBK.out.go HB2.out) HRD.out hk).mono ?_; rw [HNV.out, HNB.out]; rintro e w3 ⟨rfl, hb3⟩; have HB3 : Hid (Below ws.heap.size ws w3) := bel HB2.out hb3; clear hb3)
      go_ret2
      exact ⟨by rw [HSP.out]; rfl, fin HB.out HB3.out⟩
    | false =>
      rw [hnb] at her
      have he : er = 3 := her.symm
      subst he
      have HNB := Lib.hid hnb
      have HSP : Hid (sp 3 (ndV S (k : Int).toNat) = 0) := sp_no (by decide) _
      clear hok hin hnv hnb her
      go_enter Try.func31, Try.ntmps31
      go_upto_region 2 with (go_at_call 55; refine (enterPlate_ok N _ S k _ HBK.out hea).mono ?_; rintro e w1 ⟨rfl, hb1⟩; have HB1 : Hid (Below ws.heap.size ws w1) := (bel HB0.out hb1); clear hb1; obtain ⟨wo, hwo, HBo, hszo, hblko⟩ := box1 w1 (.cells #[.int .i64 0, .int .i64 0, .int .i64 0, .slice none 0 0] 74); have HZo := Lib.hid hblko; have z0 := cell_blk hblko 0 rfl; have z1 := cell_blk hblko 1 rfl; have z2 := cell_blk hblko 2 rfl; have z3 := cell_blk hblko 3 rfl; have f0 := free_blk hblko 0; have f1 := free_blk hblko 1; have f2 := free_blk hblko 2; have f3 := free_blk hblko 3; clear hblko)
      obtain ⟨w2, hw2, hz2, ho2, hb2⟩ := put4o HZo.out (.int .i64 S.J) (.int .i64 S.D) (.int .i64 S.Z) (.slice a1 S.np c1)
      rw [hw2]
      have HB2 : Hid (Below ws.heap.size ws w2) := HB1.out.trans ((HBo.out.trans hb2).mono HB1.out.size)
      have HZ2 := Lib.hid hz2
      have hs12 : w1.heap.size < w2.heap.size := Nat.lt_of_lt_of_le hszo hb2.size
      clear hw2 ho2 hb2 z0 z1 z2 z3 f0 f1 f2 f3 hwo HZo HBo hszo
      obtain ⟨jb, hjb⟩ : ∃ jb, w1.heap.size = jb := ⟨_, rfl⟩
      rw [hjb] at hz2 HZ2 hs12 ⊢
      have HJB : Hid (ws.heap.size ≤ jb) := by rw [← hjb]; exact HB1.out.size
      have j0 := cell_blk hz2 0 rfl
      have j1 := cell_blk hz2 1 rfl
      have j2 := cell_blk hz2 2 rfl
      have j3 := cell_blk hz2 3 rfl
      clear hz2 hjb
      go_wp2_with (go_at_call 65; refine (kneeds_any N _ S k _ (HBK.out.go HB2.out) HRD.out hk).mono ?_; rw [HNV.out, HNB.out]; rintro e w3 ⟨rfl, hb3⟩; have HB3 : Hid (Below ws.heap.size ws w3) := bel HB2.out hb3; clear hb3)
      go_ret2
      exact ⟨by rw [HSP.out]; rfl, fin HB.out HB3.out⟩
  · rw [if_neg h0] at her
    subst her
    have HSP : Hid (sp ea (ndV S a.toNat) = 0) := sp_no h0 _
    have hne : (ea != 0) = true := by simpa using h0
    have HCN := Lib.hid (fun W (hW : Below ws.heap.size ws W) => enterPlate_no N _ S a ea W (HBK.out.go hW) hea h0)
    clear h0
    go_enter Try.func31, Try.ntmps31
    go_upto_region 2 with (go_at_call 55; refine (HCN.out _ HB0.out).mono ?_; rintro e w1 ⟨rfl, hb1⟩; have HB1 : Hid (Below ws.heap.size ws w1) := (bel HB0.out hb1); clear hb1; obtain ⟨wo, hwo, HBo, hszo, hblko⟩ := box1 w1 (.cells #[.int .i64 0, .int .i64 0, .int .i64 0, .slice none 0 0] 74); have HZo := Lib.hid hblko; have z0 := cell_blk hblko 0 rfl; have z1 := cell_blk hblko 1 rfl; have z2 := cell_blk hblko 2 rfl; have z3 := cell_blk hblko 3 rfl; have f0 := free_blk hblko 0; have f1 := free_blk hblko 1; have f2 := free_blk hblko 2; have f3 := free_blk hblko 3; clear hblko)
    obtain ⟨w2, hw2, hz2, ho2, hb2⟩ := put4o HZo.out (.int .i64 0) (.int .i64 0) (.int .i64 0) (.slice none 0 0)
    rw [hw2]
    have HB2 : Hid (Below ws.heap.size ws w2) := HB1.out.trans ((HBo.out.trans hb2).mono HB1.out.size)
    have HZ2 := Lib.hid hz2
    have hs12 : w1.heap.size < w2.heap.size := Nat.lt_of_lt_of_le hszo hb2.size
    clear hw2 ho2 hb2 z0 z1 z2 z3 f0 f1 f2 f3 hwo HZo HBo hszo
    obtain ⟨jb, hjb⟩ : ∃ jb, w1.heap.size = jb := ⟨_, rfl⟩
    rw [hjb] at hz2 HZ2 hs12 ⊢
    have HJB : Hid (ws.heap.size ≤ jb) := by rw [← hjb]; exact HB1.out.size
    have j0 := cell_blk hz2 0 rfl
    have j1 := cell_blk hz2 1 rfl
    have j2 := cell_blk hz2 2 rfl
    have j3 := cell_blk hz2 3 rfl
    clear hz2 hjb
    go_wp2_with fail
    go_ret2
    exact ⟨by rw [HSP.out]; rfl, fin HB.out HB2.out⟩

end Go.Proofs.Ytffnlimgjnhmpaa
