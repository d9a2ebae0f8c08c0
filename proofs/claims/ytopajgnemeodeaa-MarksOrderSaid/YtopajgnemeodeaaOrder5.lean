/-
  The chapter's turnedBook.
-/
import Derived.Test.YtopajgnemeodeaaOrder4
namespace Go.Proofs.Ytopajgnemeodeaa
open Go.RowKit

theorem box3 (w : World) (o o' o'' : Obj) : ∃ ws : World, ((w.alloc o).alloc o').alloc o'' = ws ∧ Hid (Below w.heap.size w ws) ∧ w.heap.size < ws.heap.size ∧ w.heap.size + 1 < ws.heap.size ∧ w.heap.size + 1 + 1 < ws.heap.size ∧ ws.heap[w.heap.size]? = some o ∧ ws.heap[w.heap.size + 1]? = some o' ∧ ws.heap[w.heap.size + 1 + 1]? = some o'' := by
  refine ⟨_, rfl, (below2 (Nat.le_refl _) _ _).alloc (by simp; omega) _, by simp; omega, by simp, by simp, ?_, ?_, ?_⟩
  · rw [Below.heap_alloc _ _ _ (by simp; omega), Below.heap_alloc _ _ _ (by simp)]; exact World.alloc_heap_new _ _
  · rw [Below.heap_alloc _ _ _ (by simp)]
    have := World.alloc_heap_new (w.alloc o) o'
    rwa [World.size_alloc] at this
  · have := World.alloc_heap_new ((w.alloc o).alloc o') o''
    rwa [World.size_alloc, World.size_alloc] at this

/-- the first values and numbers of Firm are the new ones -/
def mixB (B : Bk) (a k : Nat) : Bk := { B with V := fun i => if i < k then B.V ((i + a) % B.nv) else B.V i, F := fun i => if i < k then B.F ((i + a) % B.nv) else B.F i }

theorem RowIn.put {w : World} {lo hi : Nat} {r : Value} {n i : Nat} {x : Nat → Int} (h : RowIn w lo hi r n x) (hi' : i < n) (y : Int) :
    ∃ g cap cur, r = .slice (some ⟨g, 0, none⟩) n cap ∧ lo ≤ g ∧ g < hi ∧ w.heap[g]? = some (Obj.cells cur 3 (0, 0)) ∧ w.cell? ⟨g, i, none⟩ = some (.int .i64 (x i)) ∧
      RowIn (w.setCell ⟨g, i, none⟩ (.int .i64 y)) lo hi r n (fun j => if j = i then y else x j) := by
  obtain ⟨g, cap, rfl, hk⟩ := h
  obtain ⟨k1, k2, cur, hg, k3, k4, k5, k6⟩ := hk (by omega)
  have hset : (w.setCell ⟨g, i, none⟩ (.int .i64 y)).heap[g]? = some (Obj.cells (cur.setIfInBounds i (.int .i64 y)) 3 (0, 0)) := by
    simp [World.setCell, Array.getElem?_modify, hg]
  refine ⟨g, cap, cur, rfl, k1, k2, hg, cell_blk hg i (k6 i hi'), g, cap, rfl, fun _ => ⟨k1, k2, _, hset, k3, k4, by simp [k5], fun j hj => ?_⟩⟩
  by_cases hji : j = i
  · subst hji; simp [k5, Nat.lt_of_lt_of_le hj k3]
  · rw [Array.getElem?_setIfInBounds_ne (by omega), k6 j hj]; simp [hji]

theorem Two.put2 {w : World} {lo m : Nat} {a b : Value} {B : Bk} (h : Two w lo m a b B) {i : Nat} (h1 : i < B.nv) (h2 : i < B.nf) (x y : Int) :
    ∃ ga ca gf cf cura curf, a = .slice (some ⟨ga, 0, none⟩) B.nv ca ∧ b = .slice (some ⟨gf, 0, none⟩) B.nf cf ∧ lo ≤ ga ∧ lo ≤ gf ∧ ga < m ∧ gf < m ∧ w.heap[ga]? = some (Obj.cells cura 3 (0, 0)) ∧ w.heap[gf]? = some (Obj.cells curf 3 (0, 0)) ∧ (w.setCell ⟨ga, i, none⟩ (.int .i64 x)).heap[gf]? = some (Obj.cells curf 3 (0, 0)) ∧
      w.cell? ⟨ga, i, none⟩ = some (.int .i64 (B.V i)) ∧ (w.setCell ⟨ga, i, none⟩ (.int .i64 x)).cell? ⟨gf, i, none⟩ = some (.int .i64 (B.F i)) ∧
      Two ((w.setCell ⟨ga, i, none⟩ (.int .i64 x)).setCell ⟨gf, i, none⟩ (.int .i64 y)) lo m a b { B with V := fun j => if j = i then x else B.V j, F := fun j => if j = i then y else B.F j } ∧
      w.cell? ⟨gf, i, none⟩ = some (.int .i64 (B.F i)) ∧ (w.setCell ⟨gf, i, none⟩ (.int .i64 y)).cell? ⟨ga, i, none⟩ = some (.int .i64 (B.V i)) ∧ (w.setCell ⟨gf, i, none⟩ (.int .i64 y)).heap[ga]? = some (Obj.cells cura 3 (0, 0)) ∧
      Two ((w.setCell ⟨gf, i, none⟩ (.int .i64 y)).setCell ⟨ga, i, none⟩ (.int .i64 x)) lo m a b { B with V := fun j => if j = i then x else B.V j, F := fun j => if j = i then y else B.F j } := by
  obtain ⟨mid, k1, k2⟩ := h
  obtain ⟨ga, ca, cura, rfl, a1, a2, a3, a4, a5⟩ := k1.put h1 x
  have hoth : ∀ k, k ≠ ga → (w.setCell ⟨ga, i, none⟩ (.int .i64 x)).heap[k]? = w.heap[k]? := fun k hk => Below.heap_setCell _ _ _ _ (by exact hk)
  have k2' : RowIn (w.setCell ⟨ga, i, none⟩ (.int .i64 x)) mid m b B.nf B.F := k2.keep fun k cur hk _ _ => hoth k (by omega)
  obtain ⟨gf, cf, curf, rfl, b1, b2, b3, b4, b5⟩ := k2'.put h2 y
  have b3' := b3
  rw [hoth gf (by omega)] at b3'
  have hoth2 : ∀ k, k ≠ gf → (w.setCell ⟨gf, i, none⟩ (.int .i64 y)).heap[k]? = w.heap[k]? := fun k hk => Below.heap_setCell _ _ _ _ (by exact hk)
  obtain ⟨gf', cf', curf', e, d1, d2, d3, d4, d5⟩ := k2.put h2 y
  cases e
  have k1' : RowIn (w.setCell ⟨gf, i, none⟩ (.int .i64 y)) lo mid (.slice (some ⟨ga, 0, none⟩) B.nv ca) B.nv B.V := k1.keep fun k cur _ hk _ => hoth2 k (by omega)
  obtain ⟨ga', ca', cura', e, c1, c2, c3, c4, c5⟩ := k1'.put h1 x
  cases e
  refine ⟨ga, ca, gf, cf, cura, curf, rfl, rfl, a1, by omega, by omega, b2, a3, b3', b3, a4, b4, ⟨mid, ?_, b5⟩, d4, c4, (hoth2 ga (by omega)).trans a3, mid, c5, ?_⟩
  · exact a5.keep fun k cur _ hk _ => Below.heap_setCell _ _ _ _ (by show k ≠ gf; omega)
  · exact d5.keep fun k cur hk _ _ => Below.heap_setCell _ _ _ _ (by show k ≠ ga; omega)

theorem MidAt.keep {w w' : World} {lo g0 : Nat} {G : Nat → Nat} {B : Bk} {K : Nat → Nat → Nat} {X : Nat → Nat → Nat → Int} {cur0 : Array Value} (h : MidAt w lo g0 G B K X) (h0 : w.heap[g0]? = some (Obj.cells cur0 73 (0, 0))) (hsz : w'.heap.size = w.heap.size)
    (hk : ∀ (k : Nat) (cs : Array Value) (u : TypeId), u ≠ 25 → w.heap[k]? = some (Obj.cells cs u (0, 0)) → w'.heap[k]? = w.heap[k]?) : MidAt w' lo g0 G B K X := fun s hs => by
  obtain ⟨cap, cur, h1, h2, h3, h4, h5, h6, h7⟩ := h s hs
  refine ⟨cap, cur, ?_, h2, h3, (hk _ _ _ (by decide) h4).trans h4, h5, h6, fun i hi => ?_⟩
  · unfold World.cell? at h1 ⊢
    rw [hk g0 _ _ (by decide) h0]
    exact h1
  · obtain ⟨r, k1, k2⟩ := h7 i hi
    refine ⟨r, k1, ?_⟩
    rw [hsz]
    exact k2.keep fun k c _ _ hh => hk k c _ (by decide) hh

theorem SortsAt.congr {N : Nat} {w : World} {v : Value} {n : Nat} {L L' : Nat → Nat} {M M' : Nat → Nat → Nat} {x x' : Nat → Nat → Nat → Int} (h : SortsAt N w v n L M x) (e : ∀ s, s < n → L s = L' s ∧ ∀ i, i < L s → M s i = M' s i ∧ ∀ k, x s i k = x' s i k) : SortsAt N w v n L' M' x' :=
  ListAt.mono h (Below.refl _ _) (Nat.le_refl _) fun s r hs hr => by
    obtain ⟨e1, e2⟩ := e s hs
    rw [← e1]
    exact ListAt.mono hr (Below.refl _ _) (Nat.le_refl _) fun i q hi hq => by
      obtain ⟨e3, e4⟩ := e2 i hi
      rw [← e3]
      exact IntsAt.congr hq fun k _ => e4 k

/-- the lists of the first sorts, and the first ones of one sort, are the new ones -/
def mixK (B : Bk) (c a k j : Nat) : Nat → Nat → Nat := fun s i => if s < k ∨ (s = k ∧ i < j) then B.ncc ((s + c) % B.ns) ((i + a) % B.nv) else B.ncc s i
def mixX (B : Bk) (c a k j : Nat) : Nat → Nat → Nat → Int := fun s i => if s < k ∨ (s = k ∧ i < j) then B.can ((s + c) % B.ns) ((i + a) % B.nv) else B.can s i

/-- a book that lies at a world, and at each later one in which boxes of books alone were changed -/
def BookKept (w : World) (v : Value) (B : Bk) : Prop :=
  ∀ w1 w2 : World, Below w.heap.size w w1 → w2.heap.size = w1.heap.size → (∀ (k : Nat) (cs : Array Value) (u : TypeId), u ≠ 25 → w1.heap[k]? = some (Obj.cells cs u (0, 0)) → w2.heap[k]? = w1.heap[k]?) → BookAt w2.heap.size w2 v B
theorem BookKept.book {w : World} {v : Value} {B : Bk} (h : BookKept w v B) : BookAt w.heap.size w v B := h w w (Below.refl _ _) rfl fun _ _ _ _ _ => rfl
theorem BookKept.grow {w w' : World} {v : Value} {B : Bk} (h : BookKept w v B) (hb : Below w.heap.size w w') : BookKept w' v B := fun w1 w2 h1 h2 h3 => h w1 w2 (bel hb h1) h2 h3

set_option maxHeartbeats 8000000 in
set_option maxRecDepth 100000 in
theorem turnedBook_any (N : Nat) (v : Value) (B : Bk) (ts tm : Nat) (tf : Int) (w : World) (h : BookAt N w v B) (hg : Good B R0) (h1 : tm ≤ 100) (h2 : ts ≤ 100) (hv : 0 < B.nv) (hs : 0 < B.ns) :
    Calls Try.prog 57 #[v, .agg #[.int .i64 ts, .int .i64 tm, .int .i64 tf]] w fun e w' => ∃ v', e = .returned v' ∧ BookKept w' v' (turnB B ts tm) ∧ Below w.heap.size w w' := by
  have hf := nil_fruits N w
  have h' := h
  obtain ⟨_, a1, c1, a2, c2, a3, c3, rfl, _⟩ := h'
  obtain ⟨ws, hws, HB, hsz, hsz1, hsz2, hblk, hblk1, hblk2⟩ := box3 w (.cells #[.slice a1 B.nv c1, .slice a2 B.nf c2, .slice a3 B.ns c3, .int .i64 B.wr] 25) (.cells #[.int .i64 ts, .int .i64 tm, .int .i64 tf] 77) (.cells #[.slice none 0 0, .slice none 0 0, .slice none 0 0, .int .i64 0] 25)
  have q0 := cell_blk hblk 0 rfl
  have q1 := cell_blk hblk 1 rfl
  have q2 := cell_blk hblk 2 rfl
  have q3 := cell_blk hblk 3 rfl
  have p0 := cell_blk hblk1 0 rfl
  have p1 := cell_blk hblk1 1 rfl
  have HRES := Lib.hid hblk2
  obtain ⟨HBF, HB0⟩ := entry HB.out h hf
  clear hblk hblk1 hblk2 h hf
  have HNS : Hid (N ≤ ws.heap.size) := HBF.out.1.1
  have HG := Lib.hid hg
  have hnv := hg.nv
  have hns := hg.ns
  have HV := Lib.hid hv
  have HS := Lib.hid hs
  have HLEN : Hid (B.nv ≤ 1000000 ∧ B.nf ≤ 1000000 ∧ B.ns ≤ 1000000 ∧ ∀ s, s < B.ns → B.nc s ≤ 1000 ∧ ∀ i, i < B.nc s → B.ncc s i ≤ 1000) := by
    refine ⟨by omega, by rw [hg.nf]; omega, by omega, fun s hs => ⟨by rw [hg.nc s hs]; omega, fun i hi => ?_⟩⟩
    rw [hg.nc s hs] at hi
    have := okCan_len (hg.can s hs i hi) (hg.V i hi).2
    omega
  clear hg hv hs
  go_enter Try.func57, Try.ntmps57
  go_upto_region 2 with (first
    | (go_at_call 16; refine (copy_any N _ B _ (HBF.out.go HB0.out).1 HLEN.out.1 HLEN.out.2.1 HLEN.out.2.2.1 HLEN.out.2.2.2).mono ?_; rintro e w2 ⟨v2, rfl, how2, hb2⟩; obtain ⟨v1, v2, v3, m, rfl, htwo, hsor⟩ := how2; obtain ⟨g1, p1', rfl⟩ := htwo.form1; obtain ⟨g2, p2', rfl⟩ := htwo.form2; obtain ⟨ao3, p3', rfl⟩ := hsor.form; have HTWO := Lib.hid htwo; have HSOR := Lib.hid hsor; clear htwo hsor; (try clear c0); have HB2 := Lib.hid (bel HB0.out hb2); have c2 := (old_of HB2.out).1; clear hb2; have hszA := Nat.lt_of_lt_of_le hsz HB2.out.size; have hszB := Nat.lt_of_lt_of_le hsz1 HB2.out.size; have hszC := Nat.lt_of_lt_of_le hsz2 HB2.out.size))
  obtain ⟨w3, hw3⟩ : ∃ w3 : World, w2.alloc (.cells #[.slice (some ⟨g1, 0, none⟩) B.nv p1', .slice (some ⟨g2, 0, none⟩) B.nf p2', .slice ao3 B.ns p3', .int .i64 B.wr] 25) = w3 := ⟨_, rfl⟩
  rw [hw3]
  have hb3 : Below w2.heap.size w2 w3 := by rw [← hw3]; exact below_alloc (Nat.le_refl _) _
  have HBX : Hid (w3.heap[w2.heap.size]? = some (Obj.cells #[.slice (some ⟨g1, 0, none⟩) B.nv p1', .slice (some ⟨g2, 0, none⟩) B.nf p2', .slice ao3 B.ns p3', .int .i64 B.wr] 25 (0, 0))) := by rw [← hw3]; exact World.alloc_heap_new _ _
  have HG3 : Hid (w2.heap.size < w3.heap.size) := by rw [← hw3]; unfold Hid; simp
  have HTW : Hid (Two w3 ws.heap.size m (.slice (some ⟨g1, 0, none⟩) B.nv p1') (.slice (some ⟨g2, 0, none⟩) B.nf p2') (mixB B tm 0)) := Two.congr (HTWO.out.grow hb3) rfl (by funext i; simp [mixB]) rfl (fun i _ => by simp [mixB])
  have HSO : Hid (SortsIn w3 m w2.heap.size (.slice ao3 B.ns p3') B.ns B) := HSOR.out.grow hb3
  have HB3 := Lib.hid (bel HB2.out hb3)
  have HGB : Hid (ws.heap.size ≤ w2.heap.size) := HB2.out.size
  obtain ⟨gb, hgb⟩ : ∃ gb, w2.heap.size = gb := ⟨_, rfl⟩
  rw [hgb] at HBX HG3 HSO HGB ⊢
  have c3' := (old_of HB3.out).1
  have gg3 := HG3.out
  clear hw3 hb3 hgb HTWO HSOR c2 HB2 hws hszA hszB hszC
  go_wp2
  go_loopw [7] (fun i wr => ∃ k : Nat, k ≤ B.nv ∧ i = .int .i64 k ∧ Hid (Below ws.heap.size ws wr) ∧ Hid (Two wr ws.heap.size m (.slice (some ⟨g1, 0, none⟩) B.nv p1') (.slice (some ⟨g2, 0, none⟩) B.nf p2') (mixB B tm k)) ∧ Hid (SortsIn wr m gb (.slice ao3 B.ns p3') B.ns B) ∧ Hid (wr.heap[gb]? = some (Obj.cells #[.slice (some ⟨g1, 0, none⟩) B.nv p1', .slice (some ⟨g2, 0, none⟩) B.nf p2', .slice ao3 B.ns p3', .int .i64 B.wr] 25 (0, 0))) ∧ Hid (gb < wr.heap.size)) (fun i _ => B.nv - (intOf i).toNat)
  case atStart => exact ⟨0, Nat.zero_le _, rfl, HB3, HTW, HSO, HBX, HG3⟩
  clear HB3 HTW HSO HBX HG3 c3' gg3
  case round =>
  obtain ⟨k, hk, rfl, HBr, HTr, HSr, HXr, HGr⟩ := hrel
  have cr := (old_of HBr.out).1
  by_cases hkn : k < B.nv
  · have HKN := Lib.hid hkn
    have hki : (k : Int) < (B.nv : Int) := by omega
    have hkf : (k : Int) < (B.nf : Int) := by rw [HG.out.nf]; omega
    obtain ⟨M, hM⟩ : ∃ M, (k + tm) % B.nv = M := ⟨_, rfl⟩
    have hMn : M < B.nv := by rw [← hM]; exact rot_lt tm hkn
    have e1 : Int.tmod (IntKind.i64.wrap ((k : Int) + (tm : Int))) (B.nv : Int) = (M : Int) := by rw [← hM]; exact tmod_nat _ _ _ (by omega)
    have z1 : ¬ B.nv = 0 := by omega
    have HME := Lib.hid hM
    obtain ⟨b1, o1, rfl, hb1, hv1⟩ := val_at HBF.out.1 hMn
    obtain ⟨b9, o9, rfl, hb9, hv9⟩ := firm_at HBF.out.1 (i := M) (by rw [HG.out.nf]; exact hMn)
    have g1' : b1 < ws.heap.size := Nat.lt_of_lt_of_le hb1 HNS.out
    have g9 : b9 < ws.heap.size := Nat.lt_of_lt_of_le hb9 HNS.out
    have hMi : (M : Int) < (B.nv : Int) := by omega
    have hMf : (M : Int) < (B.nf : Int) := by rw [HG.out.nf]; omega
    obtain ⟨ga, ca, gf, cf, cura, curf, ea, ef, hla, hlf, hma, hmf, hca, hcf, hcf2, hva, hvf, hput, hvf', hva', hca2, hput2⟩ := HTr.out.put2 (i := k) hkn (by show k < B.nf; rw [HG.out.nf]; exact hkn) (B.V M) (B.F M)
    cases ea
    cases ef
    have hza := frozen_blk hca k
    have hzf := frozen_blk hcf2 k
    have hzf' := frozen_blk hcf k
    have hza' := frozen_blk hca2 k
    have HPUT2 := Lib.hid hput2
    have HPUT := Lib.hid hput
    have HLA := Lib.hid hla
    have HLF := Lib.hid hlf
    have HCA := Lib.hid hca
    have HCF := Lib.hid hcf
    have HCF2 := Lib.hid hcf2
    have HCA2 := Lib.hid hca2
    have HMA := Lib.hid hma
    have HMF := Lib.hid hmf
    have y0 := cell_blk HXr.out 0 rfl
    have y1 := cell_blk HXr.out 1 rfl
    have gg := HGr.out
    have hS : (∀ b o, b < ws.heap.size ∨ b = gb → wr.drew.cell? ⟨b, o, none⟩ = wr.cell? ⟨b, o, none⟩) ∧ Hid (Below ws.heap.size ws wr.drew) := ⟨fun _ _ _ => rfl, HBr.out.drew⟩
    clear hM hb1 hb9 hMn hla hlf hma hmf hca hcf hcf2 hput hput2 hca2 hkn hk
    go_upto_region 6 with fail
    refine wp_region_held_drew (S := fun w' => (∀ b o, b < ws.heap.size ∨ b = gb → w'.cell? ⟨b, o, none⟩ = wr.cell? ⟨b, o, none⟩) ∧ Hid (Below ws.heap.size ws w')) (by kernel_rfl) hS (fun hHeld => ?_)
    (refine wpAnyH_take (i := 0) (v := ?_) rfl (by kernel_rfl) (by kernel_rfl) (by kernel_rfl) (fun _ _ _ h => h) (Or.inl ⟨by rfl, ?_⟩) (by assumption) ?_; rotate_left; (focus (intro w hSw; (try dsimp only at hSw); go_simp; (try with_reducible rfl))); (try simp only [List.getElem_toArray, List.getElem_cons_zero, List.getElem_cons_succ, Act.put, List.setIfInBounds_toArray, List.set_cons_zero, List.set_cons_succ])); (refine wpAnyH_take (i := 1) (v := ?_) rfl (by kernel_rfl) (by kernel_rfl) (by kernel_rfl) (fun _ _ _ h => h) (Or.inl ⟨by rfl, ?_⟩) (by assumption) ?_; rotate_left; (focus (intro w hSw; (try dsimp only at hSw); go_simp; (try with_reducible rfl))); (try simp only [List.getElem_toArray, List.getElem_cons_zero, List.getElem_cons_succ, Act.put, List.setIfInBounds_toArray, List.set_cons_zero, List.set_cons_succ])); (refine wpAnyH_take (i := 2) (v := ?_) rfl (by kernel_rfl) (by kernel_rfl) (by kernel_rfl) (fun _ _ _ h => h) (Or.inl ⟨by rfl, ?_⟩) (by assumption) ?_; rotate_left; (focus (intro w hSw; (try dsimp only at hSw); go_simp; (try with_reducible rfl))); (try simp only [List.getElem_toArray, List.getElem_cons_zero, List.getElem_cons_succ, Act.put, List.setIfInBounds_toArray, List.set_cons_zero, List.set_cons_succ])); (refine wpAnyH_take (i := 3) (v := ?_) rfl (by kernel_rfl) (by kernel_rfl) (by kernel_rfl) (fun _ _ _ h => h) (Or.inl ⟨by rfl, ?_⟩) (by assumption) ?_; rotate_left; (focus (intro w hSw; (try dsimp only at hSw); go_simp; (try with_reducible rfl))); (try simp only [List.getElem_toArray, List.getElem_cons_zero, List.getElem_cons_succ, Act.put, List.setIfInBounds_toArray, List.set_cons_zero, List.set_cons_succ])); (refine wpAnyH_take (i := 4) (v := ?_) rfl (by kernel_rfl) (by kernel_rfl) (by kernel_rfl) (fun _ _ _ h => h) (Or.inl ⟨by rfl, ?_⟩) (by assumption) ?_; rotate_left; (focus (intro w hSw; (try dsimp only at hSw); go_simp; (try with_reducible rfl))); (try simp only [List.getElem_toArray, List.getElem_cons_zero, List.getElem_cons_succ, Act.put, List.setIfInBounds_toArray, List.set_cons_zero, List.set_cons_succ])); (refine wpAnyH_take (i := 5) (v := ?_) rfl (by kernel_rfl) (by kernel_rfl) (by kernel_rfl) (fun _ _ _ h => h) (Or.inl ⟨by rfl, ?_⟩) (by assumption) ?_; rotate_left; (focus (intro w hSw; (try dsimp only at hSw); go_simp; (try with_reducible rfl))); (try simp only [List.getElem_toArray, List.getElem_cons_zero, List.getElem_cons_succ, Act.put, List.setIfInBounds_toArray, List.set_cons_zero, List.set_cons_succ])); (refine wpAnyH_take (i := 6) (v := ?_) rfl (by kernel_rfl) (by kernel_rfl) (by kernel_rfl) (fun _ _ _ h => h) (Or.inl ⟨by rfl, ?_⟩) (by assumption) ?_; rotate_left; (focus (intro w hSw; (try dsimp only at hSw); go_simp; (try with_reducible rfl))); (try simp only [List.getElem_toArray, List.getElem_cons_zero, List.getElem_cons_succ, Act.put, List.setIfInBounds_toArray, List.set_cons_zero, List.set_cons_succ])); (refine wpAnyH_take (i := 7) (v := ?_) rfl (by kernel_rfl) (by kernel_rfl) (by kernel_rfl) (fun _ _ _ h => h) (Or.inl ⟨by rfl, ?_⟩) (by assumption) ?_; rotate_left; (focus (intro w hSw; (try dsimp only at hSw); go_simp; (try with_reducible rfl))); (try simp only [List.getElem_toArray, List.getElem_cons_zero, List.getElem_cons_succ, Act.put, List.setIfInBounds_toArray, List.set_cons_zero, List.set_cons_succ])); (refine wpAnyH_take (i := 8) (v := ?_) rfl (by kernel_rfl) (by kernel_rfl) (by kernel_rfl) (fun _ _ _ h => h) (Or.inl ⟨by rfl, ?_⟩) (by assumption) ?_; rotate_left; (focus (intro w hSw; (try dsimp only at hSw); go_simp; (try with_reducible rfl))); (try simp only [List.getElem_toArray, List.getElem_cons_zero, List.getElem_cons_succ, Act.put, List.setIfInBounds_toArray, List.set_cons_zero, List.set_cons_succ])); (refine wpAnyH_take (i := 9) (v := ?_) rfl (by kernel_rfl) (by kernel_rfl) (by kernel_rfl) (fun _ _ _ h => h) (Or.inl ⟨by rfl, ?_⟩) (by assumption) ?_; rotate_left; (focus (intro w hSw; (try dsimp only at hSw); go_simp; (try with_reducible rfl))); (try simp only [List.getElem_toArray, List.getElem_cons_zero, List.getElem_cons_succ, Act.put, List.setIfInBounds_toArray, List.set_cons_zero, List.set_cons_succ])); (refine wpAnyH_take (i := 10) (v := ?_) rfl (by kernel_rfl) (by kernel_rfl) (by kernel_rfl) (fun _ _ _ h => h) (Or.inl ⟨by rfl, ?_⟩) (by assumption) ?_; rotate_left; (focus (intro w hSw; (try dsimp only at hSw); go_simp; (try with_reducible rfl))); (try simp only [List.getElem_toArray, List.getElem_cons_zero, List.getElem_cons_succ, Act.put, List.setIfInBounds_toArray, List.set_cons_zero, List.set_cons_succ])); (refine wpAnyH_take (i := 11) (v := ?_) rfl (by kernel_rfl) (by kernel_rfl) (by kernel_rfl) (fun _ _ _ h => h) (Or.inl ⟨by rfl, ?_⟩) (by assumption) ?_; rotate_left; (focus (intro w hSw; (try dsimp only at hSw); go_simp; (try with_reducible rfl))); (try simp only [List.getElem_toArray, List.getElem_cons_zero, List.getElem_cons_succ, Act.put, List.setIfInBounds_toArray, List.set_cons_zero, List.set_cons_succ])); (refine wpAnyH_take (i := 12) (v := ?_) rfl (by kernel_rfl) (by kernel_rfl) (by kernel_rfl) (fun _ _ _ h => h) (Or.inl ⟨by rfl, ?_⟩) (by assumption) ?_; rotate_left; (focus (intro w hSw; (try dsimp only at hSw); go_simp; (try with_reducible rfl))); (try simp only [List.getElem_toArray, List.getElem_cons_zero, List.getElem_cons_succ, Act.put, List.setIfInBounds_toArray, List.set_cons_zero, List.set_cons_succ])); (refine wpAnyH_take (i := 13) (v := ?_) rfl (by kernel_rfl) (by kernel_rfl) (by kernel_rfl) (fun _ _ _ h => h) (Or.inl ⟨by rfl, ?_⟩) (by assumption) ?_; rotate_left; (focus (intro w hSw; (try dsimp only at hSw); go_simp; (try with_reducible rfl))); (try simp only [List.getElem_toArray, List.getElem_cons_zero, List.getElem_cons_succ, Act.put, List.setIfInBounds_toArray, List.set_cons_zero, List.set_cons_succ])); (refine wpAnyH_take (i := 14) (v := ?_) rfl (by kernel_rfl) (by kernel_rfl) (by kernel_rfl) (fun _ _ _ h => h) (Or.inl ⟨by rfl, ?_⟩) (by assumption) ?_; rotate_left; (focus (intro w hSw; (try dsimp only at hSw); go_simp; (try with_reducible rfl))); (try simp only [List.getElem_toArray, List.getElem_cons_zero, List.getElem_cons_succ, Act.put, List.setIfInBounds_toArray, List.set_cons_zero, List.set_cons_succ])); (refine wpAnyH_take (i := 15) (v := ?_) rfl (by kernel_rfl) (by kernel_rfl) (by kernel_rfl) (fun _ _ _ h => h) (Or.inl ⟨by rfl, ?_⟩) (by assumption) ?_; rotate_left; (focus (intro w hSw; (try dsimp only at hSw); go_simp; (try with_reducible rfl))); (try simp only [List.getElem_toArray, List.getElem_cons_zero, List.getElem_cons_succ, Act.put, List.setIfInBounds_toArray, List.set_cons_zero, List.set_cons_succ])); (refine wpAnyH_take (i := 16) (v := ?_) rfl (by kernel_rfl) (by kernel_rfl) (by kernel_rfl) (fun _ _ _ h => h) (Or.inl ⟨by rfl, ?_⟩) (by assumption) ?_; rotate_left; (focus (intro w hSw; (try dsimp only at hSw); go_simp; (try with_reducible rfl))); (try simp only [List.getElem_toArray, List.getElem_cons_zero, List.getElem_cons_succ, Act.put, List.setIfInBounds_toArray, List.set_cons_zero, List.set_cons_succ])); (refine wpAnyH_take (i := 17) (v := ?_) rfl (by kernel_rfl) (by kernel_rfl) (by kernel_rfl) (fun _ _ _ h => h) (Or.inl ⟨by rfl, ?_⟩) (by assumption) ?_; rotate_left; (focus (intro w hSw; (try dsimp only at hSw); go_simp; (try with_reducible rfl))); (try simp only [List.getElem_toArray, List.getElem_cons_zero, List.getElem_cons_succ, Act.put, List.setIfInBounds_toArray, List.set_cons_zero, List.set_cons_succ])); (refine wpAnyH_take (i := 18) (v := ?_) rfl (by kernel_rfl) (by kernel_rfl) (by kernel_rfl) (fun _ _ _ h => h) (Or.inl ⟨by rfl, ?_⟩) (by assumption) ?_; rotate_left; (focus (intro w hSw; (try dsimp only at hSw); go_simp; (try with_reducible rfl))); (try simp only [List.getElem_toArray, List.getElem_cons_zero, List.getElem_cons_succ, Act.put, List.setIfInBounds_toArray, List.set_cons_zero, List.set_cons_succ])); (refine wpAnyH_take (i := 19) (v := ?_) rfl (by kernel_rfl) (by kernel_rfl) (by kernel_rfl) (fun _ _ _ h => h) (Or.inl ⟨by rfl, ?_⟩) (by assumption) ?_; rotate_left; (focus (intro w hSw; (try dsimp only at hSw); go_simp; (try with_reducible rfl))); (try simp only [List.getElem_toArray, List.getElem_cons_zero, List.getElem_cons_succ, Act.put, List.setIfInBounds_toArray, List.set_cons_zero, List.set_cons_succ])); (refine wpAnyH_take (i := 20) (v := ?_) rfl (by kernel_rfl) (by kernel_rfl) (by kernel_rfl) (fun _ _ _ h => h) (Or.inl ⟨by rfl, ?_⟩) (by assumption) ?_; rotate_left; (focus (intro w hSw; (try dsimp only at hSw); go_simp; (try with_reducible rfl))); (try simp only [List.getElem_toArray, List.getElem_cons_zero, List.getElem_cons_succ, Act.put, List.setIfInBounds_toArray, List.set_cons_zero, List.set_cons_succ])); (refine wpAnyH_take (i := 21) (v := ?_) rfl (by kernel_rfl) (by kernel_rfl) (by kernel_rfl) (fun _ _ _ h => h) (Or.inl ⟨by rfl, ?_⟩) (by assumption) ?_; rotate_left; (focus (intro w hSw; (try dsimp only at hSw); go_simp; (try with_reducible rfl))); (try simp only [List.getElem_toArray, List.getElem_cons_zero, List.getElem_cons_succ, Act.put, List.setIfInBounds_toArray, List.set_cons_zero, List.set_cons_succ])); (refine wpAnyH_take (i := 22) (v := ?_) rfl (by kernel_rfl) (by kernel_rfl) (by kernel_rfl) (fun _ _ _ h => h) (Or.inl ⟨by rfl, ?_⟩) (by assumption) ?_; rotate_left; (focus (intro w hSw; (try dsimp only at hSw); go_simp; (try with_reducible rfl))); (try simp only [List.getElem_toArray, List.getElem_cons_zero, List.getElem_cons_succ, Act.put, List.setIfInBounds_toArray, List.set_cons_zero, List.set_cons_succ])); (refine wpAnyH_take (i := 23) (v := ?_) rfl (by kernel_rfl) (by kernel_rfl) (by kernel_rfl) (fun _ _ _ h => h) (Or.inl ⟨by rfl, ?_⟩) (by assumption) ?_; rotate_left; (focus (intro w hSw; (try dsimp only at hSw); go_simp; (try with_reducible rfl))); (try simp only [List.getElem_toArray, List.getElem_cons_zero, List.getElem_cons_succ, Act.put, List.setIfInBounds_toArray, List.set_cons_zero, List.set_cons_succ])); (refine wpAnyH_take (i := 24) (v := ?_) rfl (by kernel_rfl) (by kernel_rfl) (by kernel_rfl) (fun _ _ _ h => h) (Or.inl ⟨by rfl, ?_⟩) (by assumption) ?_; rotate_left; (focus (intro w hSw; (try dsimp only at hSw); go_simp; (try with_reducible rfl))); (try simp only [List.getElem_toArray, List.getElem_cons_zero, List.getElem_cons_succ, Act.put, List.setIfInBounds_toArray, List.set_cons_zero, List.set_cons_succ])); (refine wpAnyH_take (i := 25) (v := ?_) rfl (by kernel_rfl) (by kernel_rfl) (by kernel_rfl) (fun _ _ _ h => h) (Or.inl ⟨by rfl, ?_⟩) (by assumption) ?_; rotate_left; (focus (intro w hSw; (try dsimp only at hSw); go_simp; (try with_reducible rfl))); (try simp only [List.getElem_toArray, List.getElem_cons_zero, List.getElem_cons_succ, Act.put, List.setIfInBounds_toArray, List.set_cons_zero, List.set_cons_succ])); (refine wpAnyH_take (i := 26) (v := ?_) rfl (by kernel_rfl) (by kernel_rfl) (by kernel_rfl) (fun _ _ _ h => h) (Or.inl ⟨by rfl, ?_⟩) (by assumption) ?_; rotate_left; (focus (intro w hSw; (try dsimp only at hSw); go_simp; (try with_reducible rfl))); (try simp only [List.getElem_toArray, List.getElem_cons_zero, List.getElem_cons_succ, Act.put, List.setIfInBounds_toArray, List.set_cons_zero, List.set_cons_succ]))
    refine wpAnyH_ready (rs := [27]) (by kernel_rfl) (by simp) ?_; refine AllReadyH.cons rfl (fun K hK => ?_) AllReadyH.nil; go_simp
    have HMM : Hid (g1 ≠ gb ∧ g2 ≠ gb) := by
      refine ⟨?_, ?_⟩
      · rintro rfl
        have := HCA.out; have h2 := HXr.out; rw [h2] at this; injection this with this; injection this with _ ht; exact absurd ht (by decide)
      · rintro rfl
        have := HCF.out; have h2 := HXr.out; rw [h2] at this; injection this with this; injection this with _ ht; exact absurd ht (by decide)
    obtain ⟨w4, hw4⟩ : ∃ w4 : World, wr.setCell ⟨g1, k, none⟩ (.int .i64 (B.V M)) = w4 := ⟨_, rfl⟩
    rw [hw4] at hvf hzf HPUT HCF2 ⊢
    have hb4 : Below ws.heap.size ws w4 := by rw [← hw4]; exact HBr.out.setCell (p := ⟨g1, k, none⟩) HLA.out _
    have hn4 : ∀ b, b ≠ g1 → w4.heap[b]? = wr.heap[b]? := fun b hb => by rw [← hw4]; exact Below.heap_setCell _ _ _ _ (by exact hb)
    have S4 : (∀ b o, b < ws.heap.size ∨ b = gb → w4.drew.cell? ⟨b, o, none⟩ = wr.cell? ⟨b, o, none⟩) ∧ Hid (Below ws.heap.size ws w4.drew) := by
      refine ⟨fun b o hb => ?_, hb4.drew⟩
      have hne : b ≠ g1 := by have := HLA.out; have := HMM.out.1; omega
      show w4.cell? ⟨b, o, none⟩ = wr.cell? ⟨b, o, none⟩
      unfold World.cell?
      rw [hn4 b hne]
    have HN4 := Lib.hid hn4
    have HZ4 : Hid (w4.heap.size = wr.heap.size) := by rw [← hw4]; unfold Hid; simp [World.setCell]
    have HB4 := Lib.hid hb4
    clear hw4 hb4 hn4
    refine hK.out _ _ S4 (fun hHeld => ?_); clear hK K; (try simp only [List.getElem_toArray, List.getElem_cons_zero, List.getElem_cons_succ, Act.put, List.setIfInBounds_toArray, List.set_cons_zero, List.set_cons_succ])
    (refine wpAnyH_take (i := 28) (v := ?_) rfl (by kernel_rfl) (by kernel_rfl) (by kernel_rfl) (fun _ _ _ h => h) (Or.inl ⟨by rfl, ?_⟩) (by assumption) ?_; rotate_left; (focus (intro w hSw; (try dsimp only at hSw); go_simp; (try with_reducible rfl))); (try simp only [List.getElem_toArray, List.getElem_cons_zero, List.getElem_cons_succ, Act.put, List.setIfInBounds_toArray, List.set_cons_zero, List.set_cons_succ]))
    refine wpAnyH_ready (rs := [29]) (by kernel_rfl) (by simp) ?_; refine AllReadyH.cons rfl (fun K hK => ?_) AllReadyH.nil; go_simp
    obtain ⟨w5, hw5⟩ : ∃ w5 : World, (w4.setCell ⟨g2, k, none⟩ (.int .i64 (B.F M))).drew = w5 := ⟨_, rfl⟩
    rw [hw5]
    have hb5 : Below ws.heap.size ws w5 := by rw [← hw5]; exact (HB4.out.setCell (p := ⟨g2, k, none⟩) HLF.out _).drew
    have hn5 : ∀ b, b ≠ g1 → b ≠ g2 → w5.heap[b]? = wr.heap[b]? := fun b hb hb2 => by
      rw [← HN4.out b hb, ← hw5]; exact Below.heap_setCell _ _ _ _ (by exact hb2)
    have S5 : (∀ b o, b < ws.heap.size ∨ b = gb → w5.cell? ⟨b, o, none⟩ = wr.cell? ⟨b, o, none⟩) ∧ Hid (Below ws.heap.size ws w5) := by
      refine ⟨fun b o hb => ?_, hb5⟩
      unfold World.cell?
      rw [hn5 b (by have := HLA.out; have := HMM.out.1; omega) (by have := HLF.out; have := HMM.out.2; omega)]
    have HT5 : Hid (Two w5 ws.heap.size m (.slice (some ⟨g1, 0, none⟩) B.nv p1') (.slice (some ⟨g2, 0, none⟩) B.nf p2') (mixB B tm (k + 1))) := by
      rw [← hw5]
      refine Two.congr (Two.grow HPUT.out (Below.refl _ _).drew) rfl ?_ rfl fun j _ => ?_
      · funext j
        show (if j < k + 1 then B.V ((j + tm) % B.nv) else B.V j) = if j = k then B.V M else if j < k then B.V ((j + tm) % B.nv) else B.V j
        by_cases hj : j = k
        · subst hj; rw [if_pos (by omega), if_pos rfl, HME.out]
        · rw [if_neg hj]
          by_cases hj2 : j < k
          · rw [if_pos hj2, if_pos (by omega)]
          · rw [if_neg hj2, if_neg (by omega)]
      · show (if j < k + 1 then B.F ((j + tm) % B.nv) else B.F j) = if j = k then B.F M else if j < k then B.F ((j + tm) % B.nv) else B.F j
        by_cases hj : j = k
        · subst hj; rw [if_pos (by omega), if_pos rfl, HME.out]
        · rw [if_neg hj]
          by_cases hj2 : j < k
          · rw [if_pos hj2, if_pos (by omega)]
          · rw [if_neg hj2, if_neg (by omega)]
    have HS5 : Hid (SortsIn w5 m gb (.slice ao3 B.ns p3') B.ns B) := HSr.out.keep fun b cs u hb1 _ _ _ => hn5 b (by have := HMA.out; omega) (by have := HMF.out; omega)
    have HX5 : Hid (w5.heap[gb]? = some (Obj.cells #[.slice (some ⟨g1, 0, none⟩) B.nv p1', .slice (some ⟨g2, 0, none⟩) B.nf p2', .slice ao3 B.ns p3', .int .i64 B.wr] 25 (0, 0))) := (hn5 gb (Ne.symm HMM.out.1) (Ne.symm HMM.out.2)).trans HXr.out
    have HG5 : Hid (gb < w5.heap.size) := by rw [← hw5]; have := HGr.out; have := HZ4.out; unfold Hid; simp [World.setCell]; omega
    have HB5 := Lib.hid hb5
    clear hw5 hb5 hn5
    refine hK.out _ _ S5 (fun hHeld => ?_); clear hK K; (try simp only [List.getElem_toArray, List.getElem_cons_zero, List.getElem_cons_succ, Act.put, List.setIfInBounds_toArray, List.set_cons_zero, List.set_cons_succ])
    refine wpAnyH_done (by kernel_rfl) ?_ _; clear hHeld
    clear S5 S4 hS
    go_wp2
    go_roundw
    case rel => exact ⟨k + 1, by have := HKN.out; omega, by go_num, HB5, HT5, HS5, HX5, HG5⟩
    case measure => simp [intOf]; have := HKN.out; omega
  · have hke : k = B.nv := by omega
    subst hke
    obtain ⟨g0, cap0, G, e0, hg0, hg0s, ⟨cur0, hcur0⟩, hmid⟩ := SortsIn.mid HSr.out (Nat.le_of_lt HGr.out) HS.out (fun s hs => by rw [HG.out.nc s hs]; exact HV.out)
    cases e0
    have HMID : Hid (MidAt wr ws.heap.size g0 G B (mixK B ts tm 0 0) (mixX B ts tm 0 0)) := by
      intro s hs
      obtain ⟨cap, cur, k1, k2, k3, k4, k5, k6, k7⟩ := hmid s hs
      have hlm : ws.heap.size ≤ m := HTr.out.span HV.out (by show 0 < B.nf; rw [HG.out.nf]; exact HV.out)
      refine ⟨cap, cur, k1, by omega, k3, k4, k5, k6, fun i hi => ?_⟩
      obtain ⟨r, j1, j2⟩ := k7 i hi
      refine ⟨r, j1, ?_⟩
      have e1 : mixK B ts tm 0 0 s i = B.ncc s i := by simp [mixK]
      have e2 : mixX B ts tm 0 0 s i = B.can s i := by simp [mixX]
      rw [e1, e2]
      exact j2.wider hlm (Nat.le_refl _)
    have HC0 := Lib.hid hcur0
    clear hmid hcur0 hg0 hg0s hk hkn HSr HGr
    go_wp2
    go_loopw [8] (fun i wr => ∃ k : Nat, k ≤ B.ns ∧ i = .int .i64 k ∧ Hid (Below ws.heap.size ws wr) ∧ Hid (Two wr ws.heap.size m (.slice (some ⟨g1, 0, none⟩) B.nv p1') (.slice (some ⟨g2, 0, none⟩) B.nf p2') (mixB B tm B.nv)) ∧ Hid (MidAt wr ws.heap.size g0 G B (mixK B ts tm k 0) (mixX B ts tm k 0)) ∧ Hid (wr.heap[gb]? = some (Obj.cells #[.slice (some ⟨g1, 0, none⟩) B.nv p1', .slice (some ⟨g2, 0, none⟩) B.nf p2', .slice (some ⟨g0, 0, none⟩) B.ns p3', .int .i64 B.wr] 25 (0, 0))) ∧ Hid (wr.heap[g0]? = some (Obj.cells cur0 73 (0, 0)))) (fun i _ => B.ns - (intOf i).toNat)
    case atStart => exact ⟨0, Nat.zero_le _, rfl, HBr, HTr, HMID, HXr, HC0⟩
    clear HBr HTr HMID HXr HC0 cr
    case round =>
    obtain ⟨k, hk, rfl, HBr, HTr, HMr, HXr, HCr⟩ := hrel
    have cr := (old_of HBr.out).1
    by_cases hkn : k < B.ns
    · have HKN := Lib.hid hkn
      have hki : (k : Int) < (B.ns : Int) := by omega
      obtain ⟨S, hS⟩ : ∃ S, (k + ts) % B.ns = S := ⟨_, rfl⟩
      have hSn : S < B.ns := by rw [← hS]; exact rot_lt ts hkn
      have e1 : Int.tmod (IntKind.i64.wrap ((k : Int) + (ts : Int))) (B.ns : Int) = (S : Int) := by rw [← hS]; exact tmod_nat _ _ _ (by omega)
      have z1 : ¬ B.ns = 0 := by omega
      have HSE := Lib.hid hS
      obtain ⟨b3, o3, cap3, b4, o4, rfl, hb3, hq3, hb4, HROW⟩ := can_row HBF.out.1 hSn (by rw [HG.out.nc S hSn]; exact HV.out)
      have g3 : b3 < ws.heap.size := Nat.lt_of_lt_of_le hb3 HNS.out
      have g4 : b4 < ws.heap.size := Nat.lt_of_lt_of_le hb4 HNS.out
      have hSi : (S : Int) < (B.ns : Int) := by omega
      have HSN := Lib.hid hSn
      have Srd := old_of HBr.out.drew; have HBrd := Srd.2
      clear hS hSn hb3 hb4 hkn hk
      go_upto_region 10 with fail
      refine wp_region_held_drew (S := (fun w' => (∀ b o, b < ws.heap.size → w'.cell? ⟨b, o, none⟩ = ws.cell? ⟨b, o, none⟩) ∧ Hid (Below ws.heap.size ws w'))) (by kernel_rfl) Srd (fun hHeld => ?_)
      (refine wpAnyH_take (i := 0) (v := ?_) rfl (by kernel_rfl) (by kernel_rfl) (by kernel_rfl) (fun _ _ _ h => h) (Or.inl ⟨by rfl, ?_⟩) (by assumption) ?_; rotate_left; (focus (intro w hSw; (try dsimp only at hSw); go_simp; (try with_reducible rfl))); (try simp only [List.getElem_toArray, List.getElem_cons_zero, List.getElem_cons_succ, Act.put, List.setIfInBounds_toArray, List.set_cons_zero, List.set_cons_succ])); (refine wpAnyH_take (i := 1) (v := ?_) rfl (by kernel_rfl) (by kernel_rfl) (by kernel_rfl) (fun _ _ _ h => h) (Or.inl ⟨by rfl, ?_⟩) (by assumption) ?_; rotate_left; (focus (intro w hSw; (try dsimp only at hSw); go_simp; (try with_reducible rfl))); (try simp only [List.getElem_toArray, List.getElem_cons_zero, List.getElem_cons_succ, Act.put, List.setIfInBounds_toArray, List.set_cons_zero, List.set_cons_succ])); (refine wpAnyH_take (i := 2) (v := ?_) rfl (by kernel_rfl) (by kernel_rfl) (by kernel_rfl) (fun _ _ _ h => h) (Or.inl ⟨by rfl, ?_⟩) (by assumption) ?_; rotate_left; (focus (intro w hSw; (try dsimp only at hSw); go_simp; (try with_reducible rfl))); (try simp only [List.getElem_toArray, List.getElem_cons_zero, List.getElem_cons_succ, Act.put, List.setIfInBounds_toArray, List.set_cons_zero, List.set_cons_succ])); (refine wpAnyH_take (i := 3) (v := ?_) rfl (by kernel_rfl) (by kernel_rfl) (by kernel_rfl) (fun _ _ _ h => h) (Or.inl ⟨by rfl, ?_⟩) (by assumption) ?_; rotate_left; (focus (intro w hSw; (try dsimp only at hSw); go_simp; (try with_reducible rfl))); (try simp only [List.getElem_toArray, List.getElem_cons_zero, List.getElem_cons_succ, Act.put, List.setIfInBounds_toArray, List.set_cons_zero, List.set_cons_succ])); (refine wpAnyH_take (i := 4) (v := ?_) rfl (by kernel_rfl) (by kernel_rfl) (by kernel_rfl) (fun _ _ _ h => h) (Or.inl ⟨by rfl, ?_⟩) (by assumption) ?_; rotate_left; (focus (intro w hSw; (try dsimp only at hSw); go_simp; (try with_reducible rfl))); (try simp only [List.getElem_toArray, List.getElem_cons_zero, List.getElem_cons_succ, Act.put, List.setIfInBounds_toArray, List.set_cons_zero, List.set_cons_succ])); (refine wpAnyH_take (i := 5) (v := ?_) rfl (by kernel_rfl) (by kernel_rfl) (by kernel_rfl) (fun _ _ _ h => h) (Or.inl ⟨by rfl, ?_⟩) (by assumption) ?_; rotate_left; (focus (intro w hSw; (try dsimp only at hSw); go_simp; (try with_reducible rfl))); (try simp only [List.getElem_toArray, List.getElem_cons_zero, List.getElem_cons_succ, Act.put, List.setIfInBounds_toArray, List.set_cons_zero, List.set_cons_succ])); (refine wpAnyH_take (i := 6) (v := ?_) rfl (by kernel_rfl) (by kernel_rfl) (by kernel_rfl) (fun _ _ _ h => h) (Or.inl ⟨by rfl, ?_⟩) (by assumption) ?_; rotate_left; (focus (intro w hSw; (try dsimp only at hSw); go_simp; (try with_reducible rfl))); (try simp only [List.getElem_toArray, List.getElem_cons_zero, List.getElem_cons_succ, Act.put, List.setIfInBounds_toArray, List.set_cons_zero, List.set_cons_succ])); (refine wpAnyH_take (i := 7) (v := ?_) rfl (by kernel_rfl) (by kernel_rfl) (by kernel_rfl) (fun _ _ _ h => h) (Or.inl ⟨by rfl, ?_⟩) (by assumption) ?_; rotate_left; (focus (intro w hSw; (try dsimp only at hSw); go_simp; (try with_reducible rfl))); (try simp only [List.getElem_toArray, List.getElem_cons_zero, List.getElem_cons_succ, Act.put, List.setIfInBounds_toArray, List.set_cons_zero, List.set_cons_succ])); (refine wpAnyH_take (i := 8) (v := ?_) rfl (by kernel_rfl) (by kernel_rfl) (by kernel_rfl) (fun _ _ _ h => h) (Or.inl ⟨by rfl, ?_⟩) (by assumption) ?_; rotate_left; (focus (intro w hSw; (try dsimp only at hSw); go_simp; (try with_reducible rfl))); (try simp only [List.getElem_toArray, List.getElem_cons_zero, List.getElem_cons_succ, Act.put, List.setIfInBounds_toArray, List.set_cons_zero, List.set_cons_succ])); (refine wpAnyH_take (i := 9) (v := ?_) rfl (by kernel_rfl) (by kernel_rfl) (by kernel_rfl) (fun _ _ _ h => h) (Or.inl ⟨by rfl, ?_⟩) (by assumption) ?_; rotate_left; (focus (intro w hSw; (try dsimp only at hSw); go_simp; (try with_reducible rfl))); (try simp only [List.getElem_toArray, List.getElem_cons_zero, List.getElem_cons_succ, Act.put, List.setIfInBounds_toArray, List.set_cons_zero, List.set_cons_succ])); (refine wpAnyH_take (i := 10) (v := ?_) rfl (by kernel_rfl) (by kernel_rfl) (by kernel_rfl) (fun _ _ _ h => h) (Or.inl ⟨by rfl, ?_⟩) (by assumption) ?_; rotate_left; (focus (intro w hSw; (try dsimp only at hSw); go_simp; (try with_reducible rfl))); (try simp only [List.getElem_toArray, List.getElem_cons_zero, List.getElem_cons_succ, Act.put, List.setIfInBounds_toArray, List.set_cons_zero, List.set_cons_succ])); (refine wpAnyH_take (i := 11) (v := ?_) rfl (by kernel_rfl) (by kernel_rfl) (by kernel_rfl) (fun _ _ _ h => h) (Or.inl ⟨by rfl, ?_⟩) (by assumption) ?_; rotate_left; (focus (intro w hSw; (try dsimp only at hSw); go_simp; (try with_reducible rfl))); (try simp only [List.getElem_toArray, List.getElem_cons_zero, List.getElem_cons_succ, Act.put, List.setIfInBounds_toArray, List.set_cons_zero, List.set_cons_succ])); (refine wpAnyH_take (i := 12) (v := ?_) rfl (by kernel_rfl) (by kernel_rfl) (by kernel_rfl) (fun _ _ _ h => h) (Or.inl ⟨by rfl, ?_⟩) (by assumption) ?_; rotate_left; (focus (intro w hSw; (try dsimp only at hSw); go_simp; (try with_reducible rfl))); (try simp only [List.getElem_toArray, List.getElem_cons_zero, List.getElem_cons_succ, Act.put, List.setIfInBounds_toArray, List.set_cons_zero, List.set_cons_succ])); (refine wpAnyH_take (i := 13) (v := ?_) rfl (by kernel_rfl) (by kernel_rfl) (by kernel_rfl) (fun _ _ _ h => h) (Or.inl ⟨by rfl, ?_⟩) (by assumption) ?_; rotate_left; (focus (intro w hSw; (try dsimp only at hSw); go_simp; (try with_reducible rfl))); (try simp only [List.getElem_toArray, List.getElem_cons_zero, List.getElem_cons_succ, Act.put, List.setIfInBounds_toArray, List.set_cons_zero, List.set_cons_succ]))
      refine wpAnyH_done (by kernel_rfl) ?_ _; clear hHeld
      obtain ⟨w6, hw6⟩ : ∃ w6 : World, wr.drew = w6 := ⟨_, rfl⟩
      rw [hw6]
      have hb6 : Below wr.heap.size wr w6 := by rw [← hw6]; exact (Below.refl _ _).drew
      have HB6 := Lib.hid (bel HBr.out hb6)
      have HT6 := Lib.hid (HTr.out.grow hb6)
      have HM6 := Lib.hid (HMr.out.grow hb6)
      have HX6 := Lib.hid (keep_blk hb6 HXr.out)
      have HC6 := Lib.hid (keep_blk hb6 HCr.out)
      clear hw6 hb6 HBr HTr HMr HXr HCr cr Srd HBrd
      have c6 := (old_of HB6.out).1
      go_wp2
      go_loopw [10] (fun i wr => ∃ j : Nat, j ≤ B.nv ∧ i = .int .i64 j ∧ Hid (Below ws.heap.size ws wr) ∧ Hid (Two wr ws.heap.size m (.slice (some ⟨g1, 0, none⟩) B.nv p1') (.slice (some ⟨g2, 0, none⟩) B.nf p2') (mixB B tm B.nv)) ∧ Hid (MidAt wr ws.heap.size g0 G B (mixK B ts tm k j) (mixX B ts tm k j)) ∧ Hid (wr.heap[gb]? = some (Obj.cells #[.slice (some ⟨g1, 0, none⟩) B.nv p1', .slice (some ⟨g2, 0, none⟩) B.nf p2', .slice (some ⟨g0, 0, none⟩) B.ns p3', .int .i64 B.wr] 25 (0, 0))) ∧ Hid (wr.heap[g0]? = some (Obj.cells cur0 73 (0, 0)))) (fun i _ => B.nv - (intOf i).toNat)
      case atStart => exact ⟨0, Nat.zero_le _, rfl, HB6, HT6, HM6, HX6, HC6⟩
      clear HB6 HT6 HM6 HX6 HC6 c6
      case round =>
      obtain ⟨j, hj, rfl, HBr, HTr, HMr, HXr, HCr⟩ := hrel
      have cr := (old_of HBr.out).1
      by_cases hjn : j < B.nv
      · have HJN := Lib.hid hjn
        have hji : (j : Int) < (B.nv : Int) := by omega
        obtain ⟨M, hM⟩ : ∃ M, (j + tm) % B.nv = M := ⟨_, rfl⟩
        have hMn : M < B.nv := by rw [← hM]; exact rot_lt tm hjn
        have e2 : Int.tmod (IntKind.i64.wrap ((j : Int) + (tm : Int))) (B.nv : Int) = (M : Int) := by rw [← hM]; exact tmod_nat _ _ _ (by omega)
        have z2 : ¬ B.nv = 0 := by omega
        have HME := Lib.hid hM
        obtain ⟨ac, cc, hq4, HIC⟩ := HROW.out M (by rw [HG.out.nc S HSN.out]; exact hMn)
        have hMc : (M : Int) < (B.nc S : Int) := by rw [HG.out.nc S HSN.out]; omega
        have hjc : (j : Int) < (B.nc k : Int) := by rw [HG.out.nc k HKN.out]; omega
        have hlc : B.ncc S M ≤ 1000 := (HLEN.out.2.2.2 S HSN.out).2 M (by rw [HG.out.nc S HSN.out]; exact hMn)
        obtain ⟨capk, curk, hk1, hk2, hk3, hk4, hk5, _, hk7⟩ := HMr.out k HKN.out
        obtain ⟨rold, hold, _⟩ := hk7 j (by rw [HG.out.nc k HKN.out]; exact hjn)
        have hoc := cell_blk hk4 j hold
        have hzk := frozen_blk hk4 j
        have HK4 := Lib.hid hk4
        have HK2 := Lib.hid hk2
        have HK3 := Lib.hid hk3
        have y0 := cell_blk HXr.out 0 rfl
        have y2 := cell_blk HXr.out 2 rfl
        have ggb : gb < wr.heap.size := (Array.getElem?_eq_some_iff.1 HXr.out).1
        have gg0 : g0 < wr.heap.size := (Array.getElem?_eq_some_iff.1 HCr.out).1
        have hGs : Hid (G k < wr.heap.size) := (Array.getElem?_eq_some_iff.1 hk4).1
        have hS : (∀ b o, b < ws.heap.size ∨ b = gb ∨ b = g0 → wr.drew.cell? ⟨b, o, none⟩ = wr.cell? ⟨b, o, none⟩) ∧ Hid (Below ws.heap.size ws wr.drew) := ⟨fun _ _ _ => rfl, HBr.out.drew⟩
        clear hM hMn hk2 hk3 hk4 hk5 hk7 hold hj hjn
        go_upto_region 14 with fail
        refine wp_region_held_drew (S := fun w' => (∀ b o, b < ws.heap.size ∨ b = gb ∨ b = g0 → w'.cell? ⟨b, o, none⟩ = wr.cell? ⟨b, o, none⟩) ∧ Hid (Below ws.heap.size ws w')) (by kernel_rfl) hS (fun hHeld => ?_)
        (refine wpAnyH_take (i := 0) (v := ?_) rfl (by kernel_rfl) (by kernel_rfl) (by kernel_rfl) (fun _ _ _ h => h) (Or.inl ⟨by rfl, ?_⟩) (by assumption) ?_; rotate_left; (focus (intro w hSw; (try dsimp only at hSw); go_simp; (try with_reducible rfl))); (try simp only [List.getElem_toArray, List.getElem_cons_zero, List.getElem_cons_succ, Act.put, List.setIfInBounds_toArray, List.set_cons_zero, List.set_cons_succ])); (refine wpAnyH_take (i := 1) (v := ?_) rfl (by kernel_rfl) (by kernel_rfl) (by kernel_rfl) (fun _ _ _ h => h) (Or.inl ⟨by rfl, ?_⟩) (by assumption) ?_; rotate_left; (focus (intro w hSw; (try dsimp only at hSw); go_simp; (try with_reducible rfl))); (try simp only [List.getElem_toArray, List.getElem_cons_zero, List.getElem_cons_succ, Act.put, List.setIfInBounds_toArray, List.set_cons_zero, List.set_cons_succ])); (refine wpAnyH_take (i := 2) (v := ?_) rfl (by kernel_rfl) (by kernel_rfl) (by kernel_rfl) (fun _ _ _ h => h) (Or.inl ⟨by rfl, ?_⟩) (by assumption) ?_; rotate_left; (focus (intro w hSw; (try dsimp only at hSw); go_simp; (try with_reducible rfl))); (try simp only [List.getElem_toArray, List.getElem_cons_zero, List.getElem_cons_succ, Act.put, List.setIfInBounds_toArray, List.set_cons_zero, List.set_cons_succ])); (refine wpAnyH_take (i := 3) (v := ?_) rfl (by kernel_rfl) (by kernel_rfl) (by kernel_rfl) (fun _ _ _ h => h) (Or.inl ⟨by rfl, ?_⟩) (by assumption) ?_; rotate_left; (focus (intro w hSw; (try dsimp only at hSw); go_simp; (try with_reducible rfl))); (try simp only [List.getElem_toArray, List.getElem_cons_zero, List.getElem_cons_succ, Act.put, List.setIfInBounds_toArray, List.set_cons_zero, List.set_cons_succ])); (refine wpAnyH_take (i := 4) (v := ?_) rfl (by kernel_rfl) (by kernel_rfl) (by kernel_rfl) (fun _ _ _ h => h) (Or.inl ⟨by rfl, ?_⟩) (by assumption) ?_; rotate_left; (focus (intro w hSw; (try dsimp only at hSw); go_simp; (try with_reducible rfl))); (try simp only [List.getElem_toArray, List.getElem_cons_zero, List.getElem_cons_succ, Act.put, List.setIfInBounds_toArray, List.set_cons_zero, List.set_cons_succ])); (refine wpAnyH_take (i := 5) (v := ?_) rfl (by kernel_rfl) (by kernel_rfl) (by kernel_rfl) (fun _ _ _ h => h) (Or.inl ⟨by rfl, ?_⟩) (by assumption) ?_; rotate_left; (focus (intro w hSw; (try dsimp only at hSw); go_simp; (try with_reducible rfl))); (try simp only [List.getElem_toArray, List.getElem_cons_zero, List.getElem_cons_succ, Act.put, List.setIfInBounds_toArray, List.set_cons_zero, List.set_cons_succ])); (refine wpAnyH_take (i := 6) (v := ?_) rfl (by kernel_rfl) (by kernel_rfl) (by kernel_rfl) (fun _ _ _ h => h) (Or.inl ⟨by rfl, ?_⟩) (by assumption) ?_; rotate_left; (focus (intro w hSw; (try dsimp only at hSw); go_simp; (try with_reducible rfl))); (try simp only [List.getElem_toArray, List.getElem_cons_zero, List.getElem_cons_succ, Act.put, List.setIfInBounds_toArray, List.set_cons_zero, List.set_cons_succ]))
        (refine wpAnyH_take (i := 8) (v := ?_) rfl (by kernel_rfl) (by kernel_rfl) (by kernel_rfl) (fun _ _ _ h => h) (Or.inl ⟨by rfl, ?_⟩) (by assumption) ?_; rotate_left; (focus (intro w hSw; (try dsimp only at hSw); go_simp; (try with_reducible rfl))); (try simp only [List.getElem_toArray, List.getElem_cons_zero, List.getElem_cons_succ, Act.put, List.setIfInBounds_toArray, List.set_cons_zero, List.set_cons_succ])); (refine wpAnyH_take (i := 9) (v := ?_) rfl (by kernel_rfl) (by kernel_rfl) (by kernel_rfl) (fun _ _ _ h => h) (Or.inl ⟨by rfl, ?_⟩) (by assumption) ?_; rotate_left; (focus (intro w hSw; (try dsimp only at hSw); go_simp; (try with_reducible rfl))); (try simp only [List.getElem_toArray, List.getElem_cons_zero, List.getElem_cons_succ, Act.put, List.setIfInBounds_toArray, List.set_cons_zero, List.set_cons_succ])); (refine wpAnyH_take (i := 10) (v := ?_) rfl (by kernel_rfl) (by kernel_rfl) (by kernel_rfl) (fun _ _ _ h => h) (Or.inl ⟨by rfl, ?_⟩) (by assumption) ?_; rotate_left; (focus (intro w hSw; (try dsimp only at hSw); go_simp; (try with_reducible rfl))); (try simp only [List.getElem_toArray, List.getElem_cons_zero, List.getElem_cons_succ, Act.put, List.setIfInBounds_toArray, List.set_cons_zero, List.set_cons_succ])); (refine wpAnyH_take (i := 11) (v := ?_) rfl (by kernel_rfl) (by kernel_rfl) (by kernel_rfl) (fun _ _ _ h => h) (Or.inl ⟨by rfl, ?_⟩) (by assumption) ?_; rotate_left; (focus (intro w hSw; (try dsimp only at hSw); go_simp; (try with_reducible rfl))); (try simp only [List.getElem_toArray, List.getElem_cons_zero, List.getElem_cons_succ, Act.put, List.setIfInBounds_toArray, List.set_cons_zero, List.set_cons_succ])); (refine wpAnyH_take (i := 12) (v := ?_) rfl (by kernel_rfl) (by kernel_rfl) (by kernel_rfl) (fun _ _ _ h => h) (Or.inl ⟨by rfl, ?_⟩) (by assumption) ?_; rotate_left; (focus (intro w hSw; (try dsimp only at hSw); go_simp; (try with_reducible rfl))); (try simp only [List.getElem_toArray, List.getElem_cons_zero, List.getElem_cons_succ, Act.put, List.setIfInBounds_toArray, List.set_cons_zero, List.set_cons_succ])); (refine wpAnyH_take (i := 13) (v := ?_) rfl (by kernel_rfl) (by kernel_rfl) (by kernel_rfl) (fun _ _ _ h => h) (Or.inl ⟨by rfl, ?_⟩) (by assumption) ?_; rotate_left; (focus (intro w hSw; (try dsimp only at hSw); go_simp; (try with_reducible rfl))); (try simp only [List.getElem_toArray, List.getElem_cons_zero, List.getElem_cons_succ, Act.put, List.setIfInBounds_toArray, List.set_cons_zero, List.set_cons_succ])); (refine wpAnyH_take (i := 14) (v := ?_) rfl (by kernel_rfl) (by kernel_rfl) (by kernel_rfl) (fun _ _ _ h => h) (Or.inl ⟨by rfl, ?_⟩) (by assumption) ?_; rotate_left; (focus (intro w hSw; (try dsimp only at hSw); go_simp; (try with_reducible rfl))); (try simp only [List.getElem_toArray, List.getElem_cons_zero, List.getElem_cons_succ, Act.put, List.setIfInBounds_toArray, List.set_cons_zero, List.set_cons_succ])); (refine wpAnyH_take (i := 15) (v := ?_) rfl (by kernel_rfl) (by kernel_rfl) (by kernel_rfl) (fun _ _ _ h => h) (Or.inl ⟨by rfl, ?_⟩) (by assumption) ?_; rotate_left; (focus (intro w hSw; (try dsimp only at hSw); go_simp; (try with_reducible rfl))); (try simp only [List.getElem_toArray, List.getElem_cons_zero, List.getElem_cons_succ, Act.put, List.setIfInBounds_toArray, List.set_cons_zero, List.set_cons_succ])); (refine wpAnyH_take (i := 16) (v := ?_) rfl (by kernel_rfl) (by kernel_rfl) (by kernel_rfl) (fun _ _ _ h => h) (Or.inl ⟨by rfl, ?_⟩) (by assumption) ?_; rotate_left; (focus (intro w hSw; (try dsimp only at hSw); go_simp; (try with_reducible rfl))); (try simp only [List.getElem_toArray, List.getElem_cons_zero, List.getElem_cons_succ, Act.put, List.setIfInBounds_toArray, List.set_cons_zero, List.set_cons_succ]))
        refine wpAnyH_ready (rs := [7]) (by kernel_rfl) (by simp) ?_; refine AllReadyH.cons rfl (fun K hK => ?_) AllReadyH.nil; go_simp
        obtain ⟨w7, hw7⟩ : ∃ w7 : World, (wr.alloc (.cells #[] 3)).drew = w7 := ⟨_, rfl⟩
        rw [hw7]
        have hb7 : Below wr.heap.size wr w7 := by rw [← hw7]; exact (below_alloc (Nat.le_refl _) _).drew
        have S7 : (∀ b o, b < ws.heap.size ∨ b = gb ∨ b = g0 → w7.cell? ⟨b, o, none⟩ = wr.cell? ⟨b, o, none⟩) ∧ Hid (Below ws.heap.size ws w7) := by
          refine ⟨fun b o hb => hb7.cell (p := ⟨b, o, none⟩) (by show b < _; have := HBr.out.size; rcases hb with h | h | h <;> omega), bel HBr.out hb7⟩
        have HC7 := Lib.hid hb7
        clear hw7 hb7
        refine hK.out _ _ S7 (fun hHeld => ?_); clear hK K; (try simp only [List.getElem_toArray, List.getElem_cons_zero, List.getElem_cons_succ, Act.put, List.setIfInBounds_toArray, List.set_cons_zero, List.set_cons_succ])
        refine wpAnyH_ready (rs := [17]) (by kernel_rfl) (by simp) ?_; refine AllReadyH.cons rfl (fun K hK => ?_) AllReadyH.nil; rw [if_pos (by rfl)]
        refine wp_clone _ (.tmp 81) (.tmp 90) rfl rfl N _ _ (B.ncc S M) _ (B.can S M) rfl rfl (HIC.out.mono ((bel HBr.out HC7.out).mono HNS.out) (Nat.le_refl _)) (by omega) ?_
        intro v8 w8 hrow8 hb8
        obtain ⟨g8, p8, rfl⟩ := hrow8.form
        have HR8 := Lib.hid hrow8
        have HC8 := Lib.hid (bel HC7.out hb8)
        have HC78 := Lib.hid hb8
        have S8 : (∀ b o, b < ws.heap.size ∨ b = gb ∨ b = g0 → w8.cell? ⟨b, o, none⟩ = wr.cell? ⟨b, o, none⟩) ∧ Hid (Below ws.heap.size ws w8) := by
          refine ⟨fun b o hb => HC8.out.cell (p := ⟨b, o, none⟩) (by show b < _; have := HBr.out.size; rcases hb with h | h | h <;> omega), bel HBr.out HC8.out⟩
        have hoc8 := (HC8.out.cell (p := ⟨G k, j, none⟩) hGs.out).trans hoc
        have hzk8 : w8.frozen? ⟨G k, j, none⟩ = false := frozen_blk (keep_blk HC8.out HK4.out) j
        clear hrow8 hb8
        refine hK.out _ _ S8 (fun hHeld => ?_); clear hK K; (try simp only [List.getElem_toArray, List.getElem_cons_zero, List.getElem_cons_succ, Act.put, List.setIfInBounds_toArray, List.set_cons_zero, List.set_cons_succ])
        (refine wpAnyH_take (i := 18) (v := ?_) rfl (by kernel_rfl) (by kernel_rfl) (by kernel_rfl) (fun _ _ _ h => h) (Or.inl ⟨by rfl, ?_⟩) (by assumption) ?_; rotate_left; (focus (intro w hSw; (try dsimp only at hSw); go_simp; (try with_reducible rfl))); (try simp only [List.getElem_toArray, List.getElem_cons_zero, List.getElem_cons_succ, Act.put, List.setIfInBounds_toArray, List.set_cons_zero, List.set_cons_succ]))
        refine wpAnyH_ready (rs := [19]) (by kernel_rfl) (by simp) ?_; refine AllReadyH.cons rfl (fun K hK => ?_) AllReadyH.nil; go_simp
        obtain ⟨w9, hw9⟩ : ∃ w9 : World, (w8.setCell ⟨G k, j, none⟩ (.slice (some ⟨g8, 0, none⟩) (B.ncc S M) p8)).drew = w9 := ⟨_, rfl⟩
        have hd9 : (w8.setCell ⟨G k, j, none⟩ (.slice (some ⟨g8, 0, none⟩) (B.ncc S M) p8)) = (w8.setCell ⟨G k, j, none⟩ (.slice (some ⟨g8, 0, none⟩) (B.ncc S M) p8)) := rfl
        clear hw9 w9
        obtain ⟨w9, hw9⟩ : ∃ w9 : World, (w8.setCell ⟨G k, j, none⟩ (.slice (some ⟨g8, 0, none⟩) (B.ncc S M) p8)) = w9 := ⟨_, rfl⟩
        rw [hw9]
        have hK8 := keep_blk HC8.out HK4.out
        have hX8 := keep_blk HC8.out HXr.out
        have hC8 := keep_blk HC8.out HCr.out
        have hoth : ∀ (b : Nat) (cs : Array Value) (u : TypeId), u ≠ 22 → w8.heap[b]? = some (Obj.cells cs u (0, 0)) → w9.heap[b]? = w8.heap[b]? := fun b cs u hu hb => by rw [← hw9]; exact set_other (i := j) (v := .slice (some ⟨g8, 0, none⟩) (B.ncc S M) p8) hK8 b cs u hu hb
        have HB9 : Hid (Below ws.heap.size ws w9) := by rw [← hw9]; exact (bel HBr.out HC8.out).setCell (p := ⟨G k, j, none⟩) HK2.out _
        have HT9 : Hid (Two w9 ws.heap.size m (.slice (some ⟨g1, 0, none⟩) B.nv p1') (.slice (some ⟨g2, 0, none⟩) B.nf p2') (mixB B tm B.nv)) := (HTr.out.grow HC8.out).other fun b cs hb => hoth b cs _ (by decide) hb
        have HM9 : Hid (MidAt w9 ws.heap.size g0 G B (mixK B ts tm k (j + 1)) (mixX B ts tm k (j + 1))) := by
          rw [← hw9]
          refine MidAt.alike (MidAt.put (HMr.out.grow HC8.out) (s := k) (i := j) HKN.out (by rw [HG.out.nc k HKN.out]; exact HJN.out) (HR8.out.wider (Nat.le_trans HBr.out.size HC7.out.size) (Nat.le_refl _))) fun s hs i hi => ?_
          rw [← HSE.out, ← HME.out]
          by_cases hsi : s = k ∧ i = j
          · obtain ⟨rfl, rfl⟩ := hsi
            refine ⟨by simp [mixK], fun q => by simp [mixX]⟩
          · refine ⟨?_, fun q => ?_⟩
            · rw [if_neg hsi]
              unfold mixK
              by_cases hc : s < k ∨ (s = k ∧ i < j)
              · rw [if_pos hc, if_pos (by omega)]
              · rw [if_neg hc, if_neg (by omega)]
            · rw [if_neg hsi]
              unfold mixX
              by_cases hc : s < k ∨ (s = k ∧ i < j)
              · rw [if_pos hc, if_pos (by omega)]
              · rw [if_neg hc, if_neg (by omega)]
        have HX9 : Hid (w9.heap[gb]? = some (Obj.cells #[.slice (some ⟨g1, 0, none⟩) B.nv p1', .slice (some ⟨g2, 0, none⟩) B.nf p2', .slice (some ⟨g0, 0, none⟩) B.ns p3', .int .i64 B.wr] 25 (0, 0))) := (hoth gb _ _ (by decide) hX8).trans hX8
        have HC9 : Hid (w9.heap[g0]? = some (Obj.cells cur0 73 (0, 0))) := (hoth g0 _ _ (by decide) hC8).trans hC8
        have S9 : (∀ b o, b < ws.heap.size ∨ b = gb ∨ b = g0 → w9.cell? ⟨b, o, none⟩ = wr.cell? ⟨b, o, none⟩) ∧ Hid (Below ws.heap.size ws w9) := by
          refine ⟨fun b o hb => ?_, HB9⟩
          rw [← S8.1 b o hb]
          rcases hb with h | h | h
          · have h2 : w9.heap[b]? = w8.heap[b]? := by rw [← hw9]; exact Below.heap_setCell _ _ _ _ (by show b ≠ G k; have := HK2.out; omega)
            unfold World.cell?; rw [h2]
          · subst h; unfold World.cell?; rw [hoth b _ _ (by decide) hX8]
          · subst h; unfold World.cell?; rw [hoth b _ _ (by decide) hC8]
        clear hw9 hK8 hX8 hC8 hoth hd9
        refine hK.out _ _ S9 (fun hHeld => ?_); clear hK K; (try simp only [List.getElem_toArray, List.getElem_cons_zero, List.getElem_cons_succ, Act.put, List.setIfInBounds_toArray, List.set_cons_zero, List.set_cons_succ])
        refine wpAnyH_done (by kernel_rfl) ?_ _; clear hHeld
        clear S9 S8 S7 hS
        go_wp2
        go_roundw
        case rel => exact ⟨j + 1, by have := HJN.out; omega, by go_num, HB9, HT9, HM9, HX9, HC9⟩
        case measure => simp [intOf]; have := HJN.out; omega
      · have HJE : Hid (j = B.nv) := by show j = _; omega
        go_wp2
        go_roundw
        case rel =>
          exact ⟨k + 1, by have := HKN.out; omega, by go_num, HBr, HTr, HMr.out.alike fun s hs i hi => (by
            have h1 := HJE.out
            have h2 := HG.out.nc s hs
            unfold mixK mixX
            by_cases hc : s < k ∨ (s = k ∧ i < j)
            · rw [if_pos hc, if_pos hc, if_pos (by omega), if_pos (by omega)]; exact ⟨rfl, fun _ => rfl⟩
            · rw [if_neg hc, if_neg hc, if_neg (by omega), if_neg (by omega)]; exact ⟨rfl, fun _ => rfl⟩), HXr, HCr⟩
        case measure => simp [intOf]; have := HKN.out; omega
    · have HKE : Hid (k = B.ns) := by show k = _; omega
      have hR : wr.heap[w.heap.size + 1 + 1]? = some (Obj.cells #[.slice none 0 0, .slice none 0 0, .slice none 0 0, .int .i64 0] 25 (0, 0)) := (HBr.out.block _ hsz2).trans HRES.out
      obtain ⟨gR, hgR⟩ : ∃ gR, w.heap.size + 1 + 1 = gR := ⟨_, rfl⟩
      have HGR : Hid (w.heap.size ≤ gR) := by unfold Hid; omega
      rw [hgR] at hR ⊢
      clear hgR
      have y0 := cell_blk HXr.out 0 rfl
      have y1 := cell_blk HXr.out 1 rfl
      have y2 := cell_blk HXr.out 2 rfl
      have y3 := cell_blk HXr.out 3 rfl
      have z0 := cell_blk hR 0 rfl
      have z1 := cell_blk hR 1 rfl
      have z2 := cell_blk hR 2 rfl
      have z3 := cell_blk hR 3 rfl
      have yf := frozen_blk hR
      have HF := Lib.hid (store_four hR (.slice (some ⟨g1, 0, none⟩) B.nv p1') (.slice (some ⟨g2, 0, none⟩) B.nf p2') (.slice (some ⟨g0, 0, none⟩) B.ns p3') (.int .i64 B.wr))
      clear hR hk
      go_wp2
      obtain ⟨f1, f2, f3⟩ := HF.out
      obtain ⟨w5, hw5⟩ : ∃ w5 : World, ((((wr.setCell ⟨gR, 0, none⟩ (.slice (some ⟨g1, 0, none⟩) B.nv p1')).setCell ⟨gR, 1, none⟩ (.slice (some ⟨g2, 0, none⟩) B.nf p2')).setCell ⟨gR, 2, none⟩ (.slice (some ⟨g0, 0, none⟩) B.ns p3')).setCell ⟨gR, 3, none⟩ (.int .i64 B.wr)) = w5 := ⟨_, rfl⟩
      have hsz5 : w5.heap.size = wr.heap.size := by rw [← hw5]; simp [World.setCell]
      rw [hw5] at f1 f2 f3 ⊢
      have x0 := cell_blk f1 0 rfl
      have x1 := cell_blk f1 1 rfl
      have x2 := cell_blk f1 2 rfl
      have x3 := cell_blk f1 3 rfl
      refine bodyPost_ret (v := .agg #[.slice (some ⟨g1, 0, none⟩) B.nv p1', .slice (some ⟨g2, 0, none⟩) B.nf p2', .slice (some ⟨g0, 0, none⟩) B.ns p3', .int .i64 B.wr]) (by simp [results, Try.results57, go_sem, x0, x1, x2, x3]) rfl ⟨_, rfl, ?_, (fin HB.out HBr.out).trans (f2 _ HGR.out)⟩
      have hT5 := HTr.out.other fun b cs hb => f3 b cs _ (by decide) hb
      have hM5 := HMr.out.keep HCr.out hsz5 fun b cs u hu hb => f3 b cs u hu hb
      have hC5 : w5.heap[g0]? = some (Obj.cells cur0 73 (0, 0)) := (f3 g0 _ _ (by decide) HCr.out).trans HCr.out
      have hlo5 : ws.heap.size ≤ w5.heap.size := by rw [hsz5]; exact HBr.out.size
      intro w6 w7 hb6 hsz7 hk7
      have hg6 : g0 < w5.heap.size := (Array.getElem?_eq_some_iff.1 hC5).1
      have hC6 := (hb6.block g0 hg6).trans hC5
      have hT7 := (hT5.grow hb6).other fun b cs hb => hk7 b cs _ (by decide) hb
      have hM7 := (hM5.grow hb6).keep hC6 hsz7 hk7
      obtain ⟨j1, j2⟩ := hT7.ints (by rw [hsz7]; exact Nat.le_trans hlo5 hb6.size) HLEN.out.1 HLEN.out.2.1
      have hg05 : g0 < w7.heap.size := by rw [hsz7]; exact Nat.lt_of_lt_of_le hg6 hb6.size
      have j3 := hM7.sorts (cap0 := p3') hg05 HLEN.out.2.2.1 fun s hs => ⟨(HLEN.out.2.2.2 s hs).1, fun i hi => by
        unfold mixK
        have h2 := HG.out.nc s hs
        split
        · exact (HLEN.out.2.2.2 _ (rot_lt ts hs)).2 _ (by rw [HG.out.nc _ (rot_lt ts hs)]; exact rot_lt tm (by omega))
        · exact (HLEN.out.2.2.2 s hs).2 i hi⟩
      refine ⟨Nat.le_refl _, _, _, _, _, _, _, rfl, ?_, ?_, ?_⟩
      · exact j1.congr fun i hi => by
          have hi' : i < B.nv := hi
          show (if i < B.nv then B.V ((i + tm) % B.nv) else B.V i) = B.V ((i + tm) % B.nv)
          rw [if_pos hi']
      · exact j2.congr fun i hi => by
          have : i < B.nv := by have h2 := HG.out.nf; have h3 : i < B.nf := hi; omega
          show (if i < B.nv then B.F ((i + tm) % B.nv) else B.F i) = B.F ((i + tm) % B.nv)
          rw [if_pos this]
      · exact SortsAt.congr j3 fun s hs => by
          refine ⟨?_, fun i hi => ?_⟩
          · show B.nc s = B.nc ((s + ts) % B.ns)
            rw [HG.out.nc s hs, HG.out.nc _ (rot_lt ts hs)]
          · have h1 := HKE.out
            have hs' : s < B.ns := hs
            have hc : s < k ∨ (s = k ∧ i < 0) := .inl (by omega)
            unfold mixK mixX
            rw [if_pos hc, if_pos hc]
            exact ⟨rfl, fun _ => rfl⟩

end Go.Proofs.Ytopajgnemeodeaa
