/-
  Works: the example of the laws.
-/
import Derived.Test.YtnnngbnimmcjiaaExp3
import Derived.Test.YtnnngbnimmcjiaaRFits
namespace Go.Proofs.Ytnnngbnimmcjiaa
open Go.RowKit

/-- the example's list -/
def exB : SB := ⟨2, fun i => [(2 : Int), 3].getD i 0, 3, fun i => [(1 : Int), 1, 2].getD i 0, fun i => [(0 : Int), 0, 1].getD i 0, 6, fun i => [(0 : Int), 1, 2, 0, 1, 2].getD i 0, fun i => [(0 : Int), 0, 0, 1, 1, 1].getD i 0⟩
theorem exB_most : eNum exB (sumN exB) = (4, 0) := by decide +kernel
theorem exB_best : eBest exB = ([2, 2], 0) := by decide +kernel
theorem exB_safe : eNum exB (safeN exB) = (2, 0) := by decide +kernel
theorem exB_weak : eList exB (sel (weakP exB) exB.ng) = ([0, 1, 2], 0) := by decide +kernel
theorem exB_lost : eLost exB 2 (fun i => [(0 : Int), 5].getD i 0) 1 = ([1], 0) := by decide +kernel

def exObjs (n : Nat) : List Obj := [
  .cells #[.slice (some ⟨n + 1, 0, none⟩) 2 2, .slice (some ⟨n + 1 + 1, 0, none⟩) 3 3, .slice (some ⟨n + 1 + 1 + 1, 0, none⟩) 6 6] 26,
  .cells #[.int .i64 2, .int .i64 3] 3,
  .cells #[.int .i64 1, .int .i64 0, .int .i64 1, .int .i64 0, .int .i64 2, .int .i64 1] 49,
  .cells #[.int .i64 0, .int .i64 0, .int .i64 1, .int .i64 0, .int .i64 2, .int .i64 0, .int .i64 0, .int .i64 1, .int .i64 1, .int .i64 1, .int .i64 2, .int .i64 1] 43]

theorem list_blk {N : Nat} {W : World} {b n c : Nat} {cs : Array Value} {t : TypeId} {E : Nat → Value → Prop} (h : W.heap[b]? = some (.cells cs t)) (hb : b < N) (hn : n ≤ 140737488351232) (hc : ∀ i, i < n → ∃ r, cs[i]? = some r ∧ E i r) : ListAt N W E (.slice (some ⟨b, 0, none⟩) n c) n :=
  ⟨_, c, rfl, hn, fun _ => ⟨b, 0, rfl, hb, fun i hi => by
    obtain ⟨r, h1, h2⟩ := hc i hi
    exact ⟨r, by rw [Nat.zero_add]; exact cell_blk h i h1, h2⟩⟩⟩
theorem pairs_blk {N : Nat} {W : World} {b n c : Nat} {cs : Array Value} {t : TypeId} {x y : Nat → Int} (h : W.heap[b]? = some (.cells cs t)) (hb : b < N) (hn : n ≤ 140737488351232) (hnc : n ≤ c) (hc : ∀ i, i < n → cs[i * 2]? = some (.int .i64 (x i)) ∧ cs[i * 2 + 1]? = some (.int .i64 (y i))) : PairsAt N W (.slice (some ⟨b, 0, none⟩) n c) n x y :=
  ⟨_, c, rfl, hn, hnc, fun _ => ⟨b, 0, rfl, hb, fun i hi => by rw [Nat.zero_add]; exact ⟨cell_blk h _ (hc i hi).1, cell_blk h _ (hc i hi).2⟩⟩⟩

set_option maxHeartbeats 4000000 in
set_option maxRecDepth 100000 in
theorem example_any (w : World) : Calls Try.prog 48 #[] w fun e w' => ∃ v, e = .returned v ∧ BookAt w'.heap.size w' v exB ∧ Below w.heap.size w w' := by
  go_enter Try.func48, Try.ntmps48
  go_wp2
  change bodyPost _ _ _ _ _ (allocs w (exObjs w.heap.size))
  have k0 := allocs_at (exObjs w.heap.size) w 0 _ rfl
  have k1 := allocs_at (exObjs w.heap.size) w 1 _ rfl
  have k2 := allocs_at (exObjs w.heap.size) w 2 _ rfl
  have k3 := allocs_at (exObjs w.heap.size) w 3 _ rfl
  have hc := cell_blk k0
  have h0 := hc 0 rfl
  have h1 := hc 1 rfl
  have h2 := hc 2 rfl
  rw [Nat.add_zero] at h0 h1 h2
  refine bodyPost_ret (v := .agg #[.slice (some ⟨w.heap.size + 1, 0, none⟩) 2 2, .slice (some ⟨w.heap.size + 1 + 1, 0, none⟩) 3 3, .slice (some ⟨w.heap.size + 1 + 1 + 1, 0, none⟩) 6 6]) (by simp [results, Try.results48, go_sem, h0, h1, h2]) rfl ?_
  have hsz := allocs_size (exObjs w.heap.size) w
  rw [show (exObjs w.heap.size).length = 4 from rfl] at hsz
  have hbel := allocs_below (exObjs w.heap.size) w
  generalize allocs w (exObjs w.heap.size) = W at *
  clear hc h0 h1 h2
  refine ⟨_, rfl, ⟨Nat.le_refl _, _, _, _, _, _, _, rfl, list_blk (n := 2) (c := 2) k1 (by omega) (by omega) (fun i hi => ⟨_, by rcases i with _ | _ | i <;> first | rfl | omega, rfl⟩), pairs_blk (n := 3) (c := 3) k2 (by omega) (by omega) (by omega) (fun i hi => ?_), pairs_blk (n := 6) (c := 6) k3 (by omega) (by omega) (by omega) (fun i hi => ?_)⟩, hbel⟩
  · rcases i with _ | _ | _ | i
    · exact ⟨rfl, rfl⟩
    · exact ⟨rfl, rfl⟩
    · exact ⟨rfl, rfl⟩
    · omega
  · rcases i with _ | _ | _ | _ | _ | _ | i
    · exact ⟨rfl, rfl⟩
    · exact ⟨rfl, rfl⟩
    · exact ⟨rfl, rfl⟩
    · exact ⟨rfl, rfl⟩
    · exact ⟨rfl, rfl⟩
    · exact ⟨rfl, rfl⟩
    · omega

theorem same_lit (l : List Int) (k : Nat) (cs : Array Value) (w0 w : World) (N : Nat) (v : Value) (h : OwnI N w0 v l) (hb : Below w0.heap.size w0 w) (hk : l.length = k) (hk4 : k ≤ 100) (hcs : ∀ i, i < k → cs[i]? = some (.int .i64 (l.getD i 0))) :
    Calls Try.prog 32 #[v, .slice (some ⟨w.heap.size, 0, none⟩) k k] (w.alloc (.cells cs 3)) fun e w' => e = .returned (.bool true) ∧ Below w0.heap.size w0 w' := by
  subst hk
  have h1 : IntsAt (w.heap.size + 1) (w.alloc (.cells cs 3)) v l.length (fun i => l.getD i 0) :=
    IntsAt.mono (h.ints (by omega)) (hb.trans (below_alloc hb.size _)) (Nat.le_succ_of_le hb.size)
  have h2 : IntsAt (w.heap.size + 1) (w.alloc (.cells cs 3)) (.slice (some ⟨w.heap.size, 0, none⟩) l.length l.length) l.length (fun i => l.getD i 0) :=
    list_blk (World.alloc_heap_new _ _) (Nat.lt_succ_self _) (by omega) (fun i hi => ⟨_, hcs i hi, rfl⟩)
  refine (sameInts_any _ _ _ _ _ _ _ _ h1 h2).mono ?_
  rintro e w' ⟨rfl, q, rfl⟩
  refine ⟨ret_bool ?_, below_drewN (hb.trans (below_alloc hb.size _)) q⟩
  unfold sameI
  rw [Bool.and_eq_true, decide_eq_true_eq, allB_true]
  exact ⟨rfl, fun i _ => decide_eq_true rfl⟩

set_option maxRecDepth 100000 in
set_option maxHeartbeats 3200000 in
theorem works_any (w : World) : Calls Try.prog 14 #[] w fun e w' => e = .returned (.bool true) ∧ Below w.heap.size w w' := by
  have HX1 : Hid (∀ i, i < 2 → (#[Value.int .i64 2, .int .i64 2] : Array Value)[i]? = some (.int .i64 ([(2 : Int), 2].getD i 0))) := fun i hi => by rcases i with _ | _ | i <;> first | rfl | omega
  have HX2 : Hid (∀ i, i < 3 → (#[Value.int .i64 0, .int .i64 1, .int .i64 2] : Array Value)[i]? = some (.int .i64 ([(0 : Int), 1, 2].getD i 0))) := fun i hi => by rcases i with _ | _ | _ | i <;> first | rfl | omega
  have HX3 : Hid (∀ i, i < 1 → (#[Value.int .i64 1] : Array Value)[i]? = some (.int .i64 ([(1 : Int)].getD i 0))) := fun i hi => by rcases i with _ | i <;> first | rfl | omega
  go_enter Try.func14, Try.ntmps14
  go_wp2_with (first
    | (go_at_call 48; refine (example_any _).mono ?_; rintro e w1 ⟨v, rfl, hbk, hb1⟩; obtain ⟨a1, z1, a2, z2, a3, z3, rfl⟩ := hbk.form; have HBK1 := Lib.hid hbk; have HB1 := Lib.hid hb1; clear hbk hb1)
    | (go_at_call 15; obtain ⟨w2, hw2, HB2, hsz2, kb⟩ := box1 w1 (.cells #[.slice a1 exB.ns z1, .slice a2 exB.ng z2, .slice a3 exB.nw z3] 26); rw [hw2]; clear hw2; have HBK := Lib.hid (HBK1.out.mono HB2.out (Nat.le_refl _) HB2.out.size); have HB12 : Hid (Below w2.heap.size w2 w2) := Below.refl _ _; have HNS := HB2.out.size; have b0 := cell_blk kb 0 rfl; have b1 := cell_blk kb 1 rfl; have b2 := cell_blk kb 2 rfl; clear kb; refine (kMost_any w1.heap.size _ exB _ HBK.out).mono ?_; rw [exB_most]; rintro e w13 ⟨rfl, hb13⟩; (try clear c12); have HB13 := Lib.hid (bel HB12.out hb13); have c13 := (old_of HB13.out).1; clear hb13)
    | (go_at_call 16; refine (kBest_any w1.heap.size _ exB _ (HBK.out.go HB13.out)).mono ?_; rw [exB_best]; rintro e w14 ⟨v14, rfl, ho14, hb14⟩; have P14 := Lib.hid ho14; clear ho14; (try clear c13); have HB14 := Lib.hid (bel HB13.out hb14); have c14 := (old_of HB14.out).1; clear hb14)
    | (go_at_call 17; refine (kSafe_any w1.heap.size _ exB _ (HBK.out.go HB14.out)).mono ?_; rw [exB_safe]; rintro e w15 ⟨rfl, hb15⟩; have P14b := Lib.hid (own_below P14.out hb15); (try clear c14); have HB15 := Lib.hid (bel HB14.out hb15); have c15 := (old_of HB15.out).1; clear hb15)
    | (go_at_call 31; refine (kWeak_any w1.heap.size _ exB _ (HBK.out.go HB15.out)).mono ?_; rw [exB_weak]; rintro e w16 ⟨v16, rfl, ho16, hb16⟩; have P14c := Lib.hid (own_below P14b.out hb16); have P16 := Lib.hid ho16; clear ho16; (try clear c15); have HB16 := Lib.hid (bel HB15.out hb16); have c16 := (old_of HB16.out).1; clear hb16)
    | (go_at_call 28; obtain ⟨w3, hw3, HB3, hsz3, kl⟩ := box1 w16 (.cells #[.int .i64 0, .int .i64 5] 3); rw [hw3]; clear hw3; have HB163 : Hid (Below w2.heap.size w2 w3) := bel HB16.out HB3.out; have HKL := Lib.hid kl; clear kl; refine (kLost_any w1.heap.size w3.heap.size _ _ exB 2 (fun i => [(0 : Int), 5].getD i 0) 1 _ (HBK.out.go HB163.out) (list_blk HKL.out hsz3 (by omega) (fun i hi => ⟨_, by rcases i with _ | _ | i <;> first | rfl | omega, rfl⟩)) (Nat.le_refl _)).mono ?_; rw [exB_lost]; rintro e w17 ⟨v17, rfl, ho17, hb17⟩; have HC17 : Hid (Below w16.heap.size w16 w17) := bel HB3.out hb17; have P14d := Lib.hid (own_below P14c.out HC17.out); have P16d := Lib.hid (own_below P16.out HC17.out); have P17d := Lib.hid ho17; have HQ17 : Hid (Below w17.heap.size w17 w17) := Below.refl _ _; clear ho17; (try clear c163); have HB17 := Lib.hid (bel HB163.out hb17); have c17 := (old_of HB17.out).1; clear hb17)
    | (go_at_call 32; have hx1 := HX1; clear HX1; refine (same_lit [2, 2] 2 _ w17 w17 _ v14 P14d.out HQ17.out rfl (by decide) hx1.out).mono ?_; rintro e w18 ⟨rfl, hb18⟩; have HQ18 := Lib.hid hb18; clear hb18)
    | (go_at_call 32; have hx2 := HX2; clear HX2; refine (same_lit [0, 1, 2] 3 _ w17 w18 _ v16 P16d.out HQ18.out rfl (by decide) hx2.out).mono ?_; rintro e w19 ⟨rfl, hb19⟩; have HQ19 := Lib.hid hb19; clear hb19)
    | (go_at_call 32; have hx3 := HX3; clear HX3; refine (same_lit [1] 1 _ w17 w19 _ v17 P17d.out HQ19.out rfl (by decide) hx3.out).mono ?_; rintro e w20 ⟨rfl, hb20⟩; have HQ20 := Lib.hid hb20; clear hb20))
  go_ret
  refine ⟨rfl, ?_⟩
  have h1 : Below w.heap.size w w2 := HB1.out.trans (HB2.out.mono HB1.out.size)
  have h2 : Below w.heap.size w w17 := h1.trans (HB17.out.mono h1.size)
  exact h2.trans (HQ20.out.mono h2.size)

end Go.Proofs.Ytnnngbnimmcjiaa
