/-
  Example: the example of the laws.
-/
import Derived.Test.YtbieglmpkljjjaaBest
import Derived.Test.YtbieglmpkljjjaaIdle
import Derived.Test.YtbieglmpkljjjaaIter
namespace Go.Proofs.Ytbieglmpkljjjaa
open Go.RowKit

def exM : List Int := [0, 1, 0, -1, -1, -1, 1, -1, -1, -1]
def exS : List Int := [-1, -1, -1, 0, 1, -1, -1, 3, -1, 2]
def exQ : List Nat := [2, 3, 2, 0, 0, 0, 3, 0, 0, 0]
def exT : List (List Int) := [[1, 2], [3, 4, 5], [5, 6], [], [], [], [7, 8, 9], [], [], []]
def exX : List (List Int) := [[0, 0], [0, 1], [1, 2], [1, 0]]
/-- the example's book -/
def exB : KB := ⟨2, fun i => [(2 : Int), 3].getD i 0, 4, fun _ => 2, fun i j => (exX.getD i []).getD j 0, ⟨10, fun i => exM.getD i 0, fun i => exS.getD i 0, fun i => exQ.getD i 0, fun i j => (exT.getD i []).getD j 0⟩⟩
theorem exB_ok : okKB exB = true := by decide +kernel
theorem exB_walk : eWalk exB 2 (fun i => [(1 : Int), 2].getD i 0) = ([0, 2, 6, 9], 0) := by decide +kernel
theorem exB_right : eRight exB = ([0, 1, 2, 3], 0) := by decide +kernel
theorem exB_idle : eIdle exB = ([2], 0) := by decide +kernel
theorem exB_best : eLeast exB false = (2, 0) := by decide +kernel
theorem exB_mean : eLeast exB true = (6, 0) := by decide +kernel

def exObjs (n : Nat) : List Obj := [
  .cells #[.slice (some ⟨(n + 1), 0, none⟩) 2 2, .slice (some ⟨(n + 1 + 1 + 1 + 1 + 1 + 1), 0, none⟩) 4 4, .slice (some ⟨(n + 1 + 1 + 1 + 1 + 1 + 1 + 1 + 1 + 1 + 1 + 1), 0, none⟩) 10 10] 26,
  .cells #[.int .i64 2, .int .i64 3] 3,
  .cells #[.int .i64 0, .int .i64 0] 3,
  .cells #[.int .i64 0, .int .i64 1] 3,
  .cells #[.int .i64 1, .int .i64 2] 3,
  .cells #[.int .i64 1, .int .i64 0] 3,
  .cells #[.slice (some ⟨(n + 1 + 1), 0, none⟩) 2 2, .slice (some ⟨(n + 1 + 1 + 1), 0, none⟩) 2 2, .slice (some ⟨(n + 1 + 1 + 1 + 1), 0, none⟩) 2 2, .slice (some ⟨(n + 1 + 1 + 1 + 1 + 1), 0, none⟩) 2 2] 22,
  .cells #[.int .i64 1, .int .i64 2] 3,
  .cells #[.int .i64 3, .int .i64 4, .int .i64 5] 3,
  .cells #[.int .i64 5, .int .i64 6] 3,
  .cells #[.int .i64 7, .int .i64 8, .int .i64 9] 3,
  .cells #[.int .i64 0, .int .i64 (-1), .slice (some ⟨(n + 1 + 1 + 1 + 1 + 1 + 1 + 1), 0, none⟩) 2 2, .int .i64 1, .int .i64 (-1), .slice (some ⟨(n + 1 + 1 + 1 + 1 + 1 + 1 + 1 + 1), 0, none⟩) 3 3, .int .i64 0, .int .i64 (-1), .slice (some ⟨(n + 1 + 1 + 1 + 1 + 1 + 1 + 1 + 1 + 1), 0, none⟩) 2 2, .int .i64 (-1), .int .i64 0, .slice none 0 0, .int .i64 (-1), .int .i64 1, .slice none 0 0, .int .i64 (-1), .int .i64 (-1), .slice none 0 0, .int .i64 1, .int .i64 (-1), .slice (some ⟨(n + 1 + 1 + 1 + 1 + 1 + 1 + 1 + 1 + 1 + 1), 0, none⟩) 3 3, .int .i64 (-1), .int .i64 3, .slice none 0 0, .int .i64 (-1), .int .i64 (-1), .slice none 0 0, .int .i64 (-1), .int .i64 2, .slice none 0 0] 41]

theorem list_blk {N : Nat} {W : World} {b n c : Nat} {cs : Array Value} {t : TypeId} {E : Nat → Value → Prop} (h : W.heap[b]? = some (.cells cs t)) (hb : b < N) (hn : n ≤ 140737488351232) (hc : ∀ i, i < n → ∃ r, cs[i]? = some r ∧ E i r) : ListAt N W E (.slice (some ⟨b, 0, none⟩) n c) n :=
  ⟨_, c, rfl, hn, fun _ => ⟨b, 0, rfl, hb, fun i hi => by
    obtain ⟨r, h1, h2⟩ := hc i hi
    exact ⟨r, by rw [Nat.zero_add]; exact cell_blk h i h1, h2⟩⟩⟩

set_option maxHeartbeats 4000000 in
set_option maxRecDepth 100000 in
theorem example_any (w : World) : Calls Try.prog 67 #[] w fun e w' => ∃ v, e = .returned v ∧ BookAt w'.heap.size w' v exB ∧ Below w.heap.size w w' := by
  go_enter Try.func67, Try.ntmps67
  go_wp2
  change bodyPost _ _ _ _ _ (allocs w (exObjs w.heap.size))
  have hc := cell_blk (allocs_at (exObjs w.heap.size) w 0 _ rfl)
  have h0 := hc 0 rfl
  have h1 := hc 1 rfl
  have h2 := hc 2 rfl
  rw [Nat.add_zero] at h0 h1 h2
  refine bodyPost_ret (v := .agg #[.slice (some ⟨w.heap.size + 1, 0, none⟩) 2 2, .slice (some ⟨w.heap.size + 1 + 1 + 1 + 1 + 1 + 1, 0, none⟩) 4 4, .slice (some ⟨w.heap.size + 1 + 1 + 1 + 1 + 1 + 1 + 1 + 1 + 1 + 1 + 1, 0, none⟩) 10 10]) (by simp [results, Try.results67, go_sem, h0, h1, h2]) rfl ?_
  have k0 := allocs_at (exObjs w.heap.size) w 0 _ rfl
  have k1 := allocs_at (exObjs w.heap.size) w 1 _ rfl
  have k2 := allocs_at (exObjs w.heap.size) w 2 _ rfl
  have k3 := allocs_at (exObjs w.heap.size) w 3 _ rfl
  have k4 := allocs_at (exObjs w.heap.size) w 4 _ rfl
  have k5 := allocs_at (exObjs w.heap.size) w 5 _ rfl
  have k6 := allocs_at (exObjs w.heap.size) w 6 _ rfl
  have k7 := allocs_at (exObjs w.heap.size) w 7 _ rfl
  have k8 := allocs_at (exObjs w.heap.size) w 8 _ rfl
  have k9 := allocs_at (exObjs w.heap.size) w 9 _ rfl
  have k10 := allocs_at (exObjs w.heap.size) w 10 _ rfl
  have k11 := allocs_at (exObjs w.heap.size) w 11 _ rfl
  have hsz := allocs_size (exObjs w.heap.size) w
  rw [show (exObjs w.heap.size).length = 12 from rfl] at hsz
  have hbel := allocs_below (exObjs w.heap.size) w
  generalize allocs w (exObjs w.heap.size) = W at *
  clear hc h0 h1 h2
  have s0 := (list_blk (n := 2) (c := 2) k2 (by omega) (by omega) (fun i hi => ⟨_, by rcases i with _ | _ | i <;> first | rfl | omega, rfl⟩) : IntsAt W.heap.size W (.slice (some ⟨w.heap.size + 2, 0, none⟩) 2 2) 2 (exB.X 0))
  have s1 := (list_blk (n := 2) (c := 2) k3 (by omega) (by omega) (fun i hi => ⟨_, by rcases i with _ | _ | i <;> first | rfl | omega, rfl⟩) : IntsAt W.heap.size W (.slice (some ⟨w.heap.size + 3, 0, none⟩) 2 2) 2 (exB.X 1))
  have s2 := (list_blk (n := 2) (c := 2) k4 (by omega) (by omega) (fun i hi => ⟨_, by rcases i with _ | _ | i <;> first | rfl | omega, rfl⟩) : IntsAt W.heap.size W (.slice (some ⟨w.heap.size + 4, 0, none⟩) 2 2) 2 (exB.X 2))
  have s3 := (list_blk (n := 2) (c := 2) k5 (by omega) (by omega) (fun i hi => ⟨_, by rcases i with _ | _ | i <;> first | rfl | omega, rfl⟩) : IntsAt W.heap.size W (.slice (some ⟨w.heap.size + 5, 0, none⟩) 2 2) 2 (exB.X 3))
  have t0 := (list_blk (n := 2) (c := 2) k7 (by omega) (by omega) (fun i hi => ⟨_, by rcases i with _ | _ | _ | i <;> first | rfl | omega, rfl⟩) : IntsAt W.heap.size W (.slice (some ⟨w.heap.size + 7, 0, none⟩) 2 2) 2 (exB.D.T 0))
  have t1 := (list_blk (n := 3) (c := 3) k8 (by omega) (by omega) (fun i hi => ⟨_, by rcases i with _ | _ | _ | i <;> first | rfl | omega, rfl⟩) : IntsAt W.heap.size W (.slice (some ⟨w.heap.size + 8, 0, none⟩) 3 3) 3 (exB.D.T 1))
  have t2 := (list_blk (n := 2) (c := 2) k9 (by omega) (by omega) (fun i hi => ⟨_, by rcases i with _ | _ | _ | i <;> first | rfl | omega, rfl⟩) : IntsAt W.heap.size W (.slice (some ⟨w.heap.size + 9, 0, none⟩) 2 2) 2 (exB.D.T 2))
  have t6 := (list_blk (n := 3) (c := 3) k10 (by omega) (by omega) (fun i hi => ⟨_, by rcases i with _ | _ | _ | i <;> first | rfl | omega, rfl⟩) : IntsAt W.heap.size W (.slice (some ⟨w.heap.size + 10, 0, none⟩) 3 3) 3 (exB.D.T 6))
  have hN : ∀ (i : Nat), exB.D.q i = 0 → IntsAt W.heap.size W (.slice none 0 0) (exB.D.q i) (exB.D.T i) := fun i h => by rw [h]; exact ⟨none, 0, rfl, by omega, fun h => absurd h (Nat.lt_irrefl 0)⟩
  refine ⟨_, rfl, ⟨Nat.le_refl _, _, _, _, _, _, _, rfl, list_blk (n := 2) (c := 2) k1 (by omega) (by omega) (fun i hi => ⟨_, by rcases i with _ | _ | i <;> first | rfl | omega, rfl⟩), list_blk (n := 4) (c := 4) k6 (by omega) (by omega) (fun i hi => ?_), ⟨_, 10, rfl, by decide, fun _ => ⟨w.heap.size + 11, 0, rfl, by omega, fun i hi => ?_⟩⟩⟩, hbel⟩
  · rcases i with _ | _ | _ | _ | i
    · exact ⟨_, rfl, s0⟩
    · exact ⟨_, rfl, s1⟩
    · exact ⟨_, rfl, s2⟩
    · exact ⟨_, rfl, s3⟩
    · omega
  · have hq := cell_blk k11
    rcases i with _ | _ | _ | _ | _ | _ | _ | _ | _ | _ | i
    · exact ⟨hq 0 rfl, hq 1 rfl, _, hq 2 rfl, t0⟩
    · exact ⟨hq 3 rfl, hq 4 rfl, _, hq 5 rfl, t1⟩
    · exact ⟨hq 6 rfl, hq 7 rfl, _, hq 8 rfl, t2⟩
    · exact ⟨hq 9 rfl, hq 10 rfl, _, hq 11 rfl, hN 3 rfl⟩
    · exact ⟨hq 12 rfl, hq 13 rfl, _, hq 14 rfl, hN 4 rfl⟩
    · exact ⟨hq 15 rfl, hq 16 rfl, _, hq 17 rfl, hN 5 rfl⟩
    · exact ⟨hq 18 rfl, hq 19 rfl, _, hq 20 rfl, t6⟩
    · exact ⟨hq 21 rfl, hq 22 rfl, _, hq 23 rfl, hN 7 rfl⟩
    · exact ⟨hq 24 rfl, hq 25 rfl, _, hq 26 rfl, hN 8 rfl⟩
    · exact ⟨hq 27 rfl, hq 28 rfl, _, hq 29 rfl, hN 9 rfl⟩
    · exact absurd hi (by show ¬ _ < 10; omega)

end Go.Proofs.Ytbieglmpkljjjaa

namespace Go.Proofs.Ytbieglmpkljjjaa
open Go.RowKit

theorem same_lit (l : List Int) (k : Nat) (cs : Array Value) (w0 w : World) (N : Nat) (v : Value) (h : OwnI N w0 v l) (hb : Below w0.heap.size w0 w) (hk : l.length = k) (hk4 : k ≤ 100) (hcs : ∀ i, i < k → cs[i]? = some (.int .i64 (l.getD i 0))) :
    Calls Try.prog 44 #[v, .slice (some ⟨w.heap.size, 0, none⟩) k k] (w.alloc (.cells cs 3)) fun e w' => e = .returned (.bool true) ∧ Below w0.heap.size w0 w' := by
  subst hk
  have h1 : IntsAt (w.heap.size + 1) (w.alloc (.cells cs 3)) v l.length (fun i => l.getD i 0) :=
    IntsAt.mono (h.ints (by omega)) (hb.trans (below_alloc hb.size _)) (Nat.le_succ_of_le hb.size)
  have h2 : IntsAt (w.heap.size + 1) (w.alloc (.cells cs 3)) (.slice (some ⟨w.heap.size, 0, none⟩) l.length l.length) l.length (fun i => l.getD i 0) :=
    list_blk (World.alloc_heap_new _ _) (Nat.lt_succ_self _) (by omega) (fun i hi => ⟨_, hcs i hi, rfl⟩)
  refine (sameInts_any _ _ _ _ _ _ _ _ h1 h2).mono ?_
  rintro e w' ⟨rfl, q, rfl⟩
  refine ⟨ret_bool ?_, below_drewN (hb.trans (below_alloc hb.size _)) q⟩
  unfold sameI
  rw [Bool.and_eq_true, decide_eq_true_eq, allB_true]
  exact ⟨rfl, fun i _ => decide_eq_true rfl⟩

set_option maxRecDepth 100000 in
set_option maxHeartbeats 3200000 in
theorem works_any (w : World) : Calls Try.prog 17 #[] w fun e w' => e = .returned (.bool true) ∧ Below w.heap.size w w' := by
  have HX1 : Hid (∀ i, i < 4 → (#[Value.int .i64 0, .int .i64 2, .int .i64 6, .int .i64 9] : Array Value)[i]? = some (.int .i64 ([(0 : Int), 2, 6, 9].getD i 0))) := fun i hi => by rcases i with _ | _ | _ | _ | i <;> first | rfl | omega
  have HX2 : Hid (∀ i, i < 4 → (#[Value.int .i64 0, .int .i64 1, .int .i64 2, .int .i64 3] : Array Value)[i]? = some (.int .i64 ([(0 : Int), 1, 2, 3].getD i 0))) := fun i hi => by rcases i with _ | _ | _ | _ | i <;> first | rfl | omega
  have HX3 : Hid (∀ i, i < 1 → (#[Value.int .i64 2] : Array Value)[i]? = some (.int .i64 ([(2 : Int)].getD i 0))) := fun i hi => by rcases i with _ | i <;> first | rfl | omega
  go_enter Try.func17, Try.ntmps17
  go_wp2_with (first
    | (go_at_call 67; refine (example_any _).mono ?_; rintro e w1 ⟨v, rfl, hbk, hb1⟩; obtain ⟨hle, a1, z1, a2, z2, a3, z3, rfl, _⟩ := id hbk; have HBK1 := Lib.hid hbk; have HB1 := Lib.hid hb1; clear hbk hb1)
    | (go_at_call 18; obtain ⟨w2, hw2, HB2, hsz2, hsz2', kb, kl⟩ := box2 w1 (.cells #[.slice a1 exB.nv z1, .slice a2 exB.ns z2, .slice a3 exB.D.n z3] 26) (.cells #[.int .i64 1, .int .i64 2] 3); rw [hw2]; clear hw2; have HBK := Lib.hid ((HBK1.out.go HB2.out).raise HB2.out.size (Nat.le_refl _)); have HB12 : Hid (Below w2.heap.size w2 w2) := Below.refl _ _; have b0 := cell_blk kb 0 rfl; have b1 := cell_blk kb 1 rfl; have b2 := cell_blk kb 2 rfl; have HKL := Lib.hid kl; clear kb kl; refine (kWalk_any w2.heap.size _ _ exB 2 (fun i => [(1 : Int), 2].getD i 0) _ HBK.out (list_blk HKL.out hsz2' (by omega) (fun i hi => ⟨_, by rcases i with _ | _ | i <;> first | rfl | omega, rfl⟩))).mono ?_; rw [exB_walk]; rintro e w13 ⟨v13, rfl, ho13, hb13⟩; have P13 := Lib.hid ho13; clear ho13; (try clear c12); have HB13 := Lib.hid (bel HB12.out hb13); have c13 := (old_of HB13.out).1; clear hb13)
    | (go_at_call 22; refine (kRight_any w2.heap.size _ exB _ (HBK.out.go HB13.out)).mono ?_; rw [exB_right]; rintro e w14 ⟨v14, rfl, ho14, hb14⟩; have P13b := Lib.hid (own_below P13.out hb14); have P14 := Lib.hid ho14; clear ho14; (try clear c13); have HB14 := Lib.hid (bel HB13.out hb14); have c14 := (old_of HB14.out).1; clear hb14)
    | (go_at_call 27; refine (kIdle_any w2.heap.size _ exB _ (HBK.out.go HB14.out)).mono ?_; rw [exB_idle]; rintro e w15 ⟨v15, rfl, ho15, hb15⟩; have P13c := Lib.hid (own_below P13b.out hb15); have P14c := Lib.hid (own_below P14.out hb15); have P15 := Lib.hid ho15; clear ho15; (try clear c14); have HB15 := Lib.hid (bel HB14.out hb15); have c15 := (old_of HB15.out).1; clear hb15)
    | (go_at_call 32; refine (kBest_any w2.heap.size _ exB _ (HBK.out.go HB15.out)).mono ?_; rw [exB_best]; rintro e w16 ⟨rfl, hb16⟩; have HC16 := Lib.hid hb16; (try clear c15); have HB16 := Lib.hid (bel HB15.out hb16); have c16 := (old_of HB16.out).1; clear hb16)
    | (go_at_call 33; refine (kMean_any w2.heap.size _ exB _ (HBK.out.go HB16.out)).mono ?_; rw [exB_mean]; rintro e w17 ⟨rfl, hb17⟩; have HC17 : Hid (Below w15.heap.size w15 w17) := Lib.hid (bel HC16.out hb17); have P13d := Lib.hid (own_below P13c.out HC17.out); have P14d := Lib.hid (own_below P14c.out HC17.out); have P15d := Lib.hid (own_below P15.out HC17.out); have HQ17 : Hid (Below w17.heap.size w17 w17) := Below.refl _ _; (try clear c16); have HB17 := Lib.hid (bel HB16.out hb17); have c17 := (old_of HB17.out).1; clear hb17)
    | (go_at_call 44; have hx1 := HX1; clear HX1; refine (same_lit [0, 2, 6, 9] 4 _ w17 w17 _ v13 P13d.out HQ17.out rfl (by decide) hx1.out).mono ?_; rintro e w18 ⟨rfl, hb18⟩; have HQ18 := Lib.hid hb18; clear hb18)
    | (go_at_call 44; have hx2 := HX2; clear HX2; refine (same_lit [0, 1, 2, 3] 4 _ w17 w18 _ v14 P14d.out HQ18.out rfl (by decide) hx2.out).mono ?_; rintro e w19 ⟨rfl, hb19⟩; have HQ19 := Lib.hid hb19; clear hb19)
    | (go_at_call 44; have hx3 := HX3; clear HX3; refine (same_lit [2] 1 _ w17 w19 _ v15 P15d.out HQ19.out rfl (by decide) hx3.out).mono ?_; rintro e w20 ⟨rfl, hb20⟩; have HQ20 := Lib.hid hb20; clear hb20))
  go_ret
  refine ⟨rfl, ?_⟩
  have h1 : Below w.heap.size w w2 := HB1.out.trans (HB2.out.mono HB1.out.size)
  have h2 : Below w.heap.size w w17 := h1.trans (HB17.out.mono h1.size)
  exact h2.trans (HQ20.out.mono h2.size)

end Go.Proofs.Ytbieglmpkljjjaa

namespace Go.Proofs.Ytbieglmpkljjjaa
open Go.RowKit

def farN (D : Nd) : Bool := decide (60 < D.n) || anyB D.n fun i => decide (40 < D.q i)

set_option maxHeartbeats 1600000 in
theorem far_any (N : Nat) (v : Value) (D : Nd) (w : World) (h : NodesAt N w v D) :
    Calls Try.prog 31 #[v] w fun e w' => e = .returned (.bool (farN D)) ∧ w' = w := by
  obtain ⟨a, c, rfl, hn, _⟩ := id h
  by_cases h60 : 60 < D.n
  · have h60i : (60 : Int) < (D.n : Int) := by omega
    have HE : Hid (farN D = true) := by unfold Hid farN; rw [decide_eq_true h60]; rfl
    clear h60 h
    go_enter Try.func31, Try.ntmps31
    go_wp2
    go_ret
    exact ⟨ret_bool HE.out.symm, rfl⟩
  · have h60i : ¬ (60 : Int) < (D.n : Int) := by omega
    have HE : Hid (farN D = anyB D.n fun i => decide (40 < D.q i)) := by unfold Hid farN; rw [decide_eq_false h60]; rfl
    have HH := Lib.hid h
    clear h
    go_enter Try.func31, Try.ntmps31
    go_wp2
    go_loop [3] (fun i => ∃ k : Nat, k ≤ D.n ∧ i = .int .i64 k ∧ Hid (∀ j, j < k → ¬ 40 < D.q j)) (fun i => D.n - (intOf i).toNat)
    case atStart => exact ⟨0, Nat.zero_le _, rfl, fun j hj => absurd hj (Nat.not_lt_zero j)⟩
    case round =>
      obtain ⟨k, hk, rfl, hj⟩ := hrel
      by_cases hkn : k < D.n
      · have hki : (k : Int) < (D.n : Int) := by omega
        obtain ⟨b, off, rfl, _, hr⟩ := HH.out.cells (by omega)
        obtain ⟨ai, ci, _, _, hcq, _⟩ := hr k hkn
        clear hr
        by_cases hq : 40 < D.q k
        · have hqi : (40 : Int) < (D.q k : Int) := by omega
          have HT : Hid (farN D = true) := by unfold Hid; rw [HE.out, anyB_true]; exact ⟨k, hkn, decide_eq_true hq⟩
          clear hq
          go_wp2
          go_ret
          exact ⟨ret_bool HT.out.symm, rfl⟩
        · have hqi : ¬ (40 : Int) < (D.q k : Int) := by omega
          have HQ := Lib.hid hq
          clear hq
          go_wp2
          go_round
          case rel => exact ⟨k + 1, by omega, by go_num, fun j hj1 => by
            rcases Nat.lt_succ_iff_lt_or_eq.1 hj1 with h | h
            · exact hj.out j h
            · rw [h]; exact HQ.out⟩
          case measure => simp [intOf]; omega
      · have HT : Hid (farN D = false) := by
          unfold Hid; rw [HE.out, Bool.eq_false_iff]
          intro e
          obtain ⟨j, hj1, hj2⟩ := anyB_true.1 e
          exact hj.out j (by omega) (of_decide_eq_true hj2)
        go_wp2
        go_ret
        exact ⟨ret_bool HT.out.symm, rfl⟩

theorem isKnown0 (w : World) : Calls Try.prog 36 #[.int .i64 0] w fun e w' => e = .returned (.bool true) ∧ w' = w := by
  go_enter Try.func36, Try.ntmps36
  go_wp2
  go_ret
  exact ⟨rfl, rfl⟩
theorem isKnown3 (w : World) : Calls Try.prog 36 #[.int .i64 3] w fun e w' => e = .returned (.bool true) ∧ w' = w := by
  go_enter Try.func36, Try.ntmps36
  go_wp2
  go_ret
  exact ⟨rfl, rfl⟩

/-- a book that is long, or great -/
def farL (B : KB) : Bool := decide (40 < B.nv) || decide (40 < B.ns) || farN B.D
def farX (B : KB) : Bool := anyB B.ns fun i => decide (40 < B.L i)
def farB (B : KB) : Bool := farL B || farX B || ((decide (4 < B.nv) || decide (6 < B.ns)) && okKB B)

set_option maxRecDepth 100000 in
set_option maxHeartbeats 3200000 in
theorem farLong_any (N : Nat) (v : Value) (B : KB) (w : World) (h : BookAt N w v B) (hf : farL B = true) :
    Calls Try.prog 45 #[v] w fun e w' => e = .returned (.bool true) ∧ Below w.heap.size w w' := by
  have h' := h
  obtain ⟨_, a1, z1, a2, z2, a3, z3, rfl, _⟩ := h'
  obtain ⟨ws, hws, HB, hsz, hblk⟩ := box1 w (.cells #[.slice a1 B.nv z1, .slice a2 B.ns z2, .slice a3 B.D.n z3] 26)
  have q0 := cell_blk hblk 0 rfl
  have q1 := cell_blk hblk 1 rfl
  have q2 := cell_blk hblk 2 rfl
  have HBK := Lib.hid (h.go HB.out)
  have HB0 : Hid (Below ws.heap.size ws ws) := Below.refl _ _
  have HNS : Hid (N ≤ ws.heap.size) := HBK.out.1
  have hlens := h.lens
  obtain ⟨hlv, hls, hln⟩ := hlens
  clear hblk h
  have HN := Lib.hid (fun wk hk => far_any N _ B.D wk ((HBK.out.go (wk := wk) hk).nodes))
  by_cases h1 : 40 < B.nv
  · have h1i : (40 : Int) < (B.nv : Int) := by omega
    clear hf h1
    go_enter Try.func45, Try.ntmps45
    go_wp2
    go_ret
    exact ⟨rfl, HB.out⟩
  · have h1i : ¬ (40 : Int) < (B.nv : Int) := by omega
    by_cases h2 : 40 < B.ns
    · have h2i : (40 : Int) < (B.ns : Int) := by omega
      clear hf h1 h2
      go_enter Try.func45, Try.ntmps45
      go_wp2
      go_ret
      exact ⟨rfl, HB.out⟩
    · have h2i : ¬ (40 : Int) < (B.ns : Int) := by omega
      have h3 : Hid (farN B.D = true) := by
        unfold farL at hf; rw [decide_eq_false h1, decide_eq_false h2] at hf; exact hf
      clear hf h1 h2
      go_enter Try.func45, Try.ntmps45
      go_wp2_with (go_at_call 31; refine (HN.out _ (Below.refl _ _)).mono ?_; rw [h3.out]; rintro e wq ⟨rfl, hwq⟩; rw [hwq]; clear hwq wq)
      go_ret
      exact ⟨rfl, HB.out⟩

end Go.Proofs.Ytbieglmpkljjjaa

namespace Go.Proofs.Ytbieglmpkljjjaa
open Go.RowKit

set_option maxRecDepth 100000 in
set_option maxHeartbeats 3200000 in
theorem farShort_any (N : Nat) (v : Value) (B : KB) (w : World) (h : BookAt N w v B) (hf : farL B = false) :
    Calls Try.prog 45 #[v] w fun e w' => e = .returned (.bool (farB B)) ∧ Below w.heap.size w w' := by
  have h' := h
  obtain ⟨_, a1, z1, a2, z2, a3, z3, rfl, _⟩ := h'
  obtain ⟨ws, hws, HB, hsz, hblk⟩ := box1 w (.cells #[.slice a1 B.nv z1, .slice a2 B.ns z2, .slice a3 B.D.n z3] 26)
  have q0 := cell_blk hblk 0 rfl
  have q1 := cell_blk hblk 1 rfl
  have q2 := cell_blk hblk 2 rfl
  have HBK := Lib.hid (h.go HB.out)
  have HB0 : Hid (Below ws.heap.size ws ws) := Below.refl _ _
  have HNS : Hid (N ≤ ws.heap.size) := HBK.out.1
  have hlens := h.lens
  obtain ⟨hlv, hls, hln⟩ := hlens
  clear hblk h
  have HN := Lib.hid (fun wk hk => far_any N _ B.D wk ((HBK.out.go (wk := wk) hk).nodes))
  have hh := hf
  unfold farL at hh
  simp only [Bool.or_eq_false_iff, decide_eq_false_iff_not] at hh
  obtain ⟨⟨h1, h2⟩, h3⟩ := hh
  have h1i : ¬ (40 : Int) < (B.nv : Int) := by omega
  have h2i : ¬ (40 : Int) < (B.ns : Int) := by omega
  have H3 := Lib.hid h3
  have HE : Hid (farB B = (farX B || ((decide (4 < B.nv) || decide (6 < B.ns)) && okKB B))) := by unfold Hid farB; rw [hf]; rfl
  clear h1 h2 h3 hf
  go_enter Try.func45, Try.ntmps45
  go_wp2_with (go_at_call 31; refine (HN.out _ (Below.refl _ _)).mono ?_; rw [H3.out]; rintro e wq ⟨rfl, hwq⟩; rw [hwq]; clear hwq wq)
  clear hws
  go_loop [3] (fun i => ∃ k : Nat, k ≤ B.ns ∧ i = .int .i64 k ∧ Hid (∀ j, j < k → ¬ 40 < B.L j)) (fun i => B.ns - (intOf i).toNat)
  case atStart => exact ⟨0, Nat.zero_le _, rfl, fun j hj => absurd hj (Nat.not_lt_zero j)⟩
  case round =>
    obtain ⟨k, hk, rfl, hj⟩ := hrel
    by_cases hkn : k < B.ns
    · have hki : (k : Int) < (B.ns : Int) := by omega
      obtain ⟨b, off, rfl, _, hr⟩ := HBK.out.sorts.cells (by omega)
      obtain ⟨ai, ci, hcell, _⟩ := hr k hkn
      clear hr
      by_cases hq : 40 < B.L k
      · have hqi : (40 : Int) < (B.L k : Int) := by omega
        have HT : Hid (farB B = true) := by unfold Hid; rw [HE.out, show farX B = true from anyB_true.2 ⟨k, hkn, decide_eq_true hq⟩]; rfl
        clear hq
        go_wp2
        go_ret
        exact ⟨ret_bool HT.out.symm, HB.out⟩
      · have hqi : ¬ (40 : Int) < (B.L k : Int) := by omega
        have HQ := Lib.hid hq
        clear hq
        go_wp2
        go_round
        case rel => exact ⟨k + 1, by omega, by go_num, fun j hj1 => by
          rcases Nat.lt_succ_iff_lt_or_eq.1 hj1 with h | h
          · exact hj.out j h
          · rw [h]; exact HQ.out⟩
        case measure => simp [intOf]; omega
    · have HX : Hid (farX B = false) := by
        unfold Hid; rw [Bool.eq_false_iff]
        intro e
        obtain ⟨j, hj1, hj2⟩ := anyB_true.1 e
        exact hj.out j (by omega) (of_decide_eq_true hj2)
      have HE2 : Hid (farB B = ((decide (4 < B.nv) || decide (6 < B.ns)) && okKB B)) := by unfold Hid; rw [HE.out, HX.out]; rfl
      by_cases g1 : 4 < B.nv
      · have g1i : (4 : Int) < (B.nv : Int) := by omega
        have HE3 : Hid (farB B = okKB B) := by unfold Hid; rw [HE2.out, decide_eq_true g1]; simp
        clear g1
        cases hv : okKB B with
        | false =>
          have HA : Hid (chk B = 20) := chk_no hv
          have HF : Hid (farB B = false) := HE3.out.trans hv
          clear hv
          go_wp2_with (go_at_call 47; refine (rCheck_any N _ B _ (HBK.out.go HB0.out)).mono ?_; rintro e w1 ⟨rfl, hb1⟩; rw [HA.out]; (try clear c0); have HB1 := Lib.hid (bel HB0.out hb1); have c1 := (old_of HB1.out).1; clear hb1)
          go_ret
          exact ⟨ret_bool HF.out.symm, fin HB.out HB1.out⟩
        | true =>
          have HA : Hid (chk B = 0) := chk_yes hv
          have HF : Hid (farB B = true) := HE3.out.trans hv
          clear hv
          go_wp2_with (go_at_call 47; refine (rCheck_any N _ B _ (HBK.out.go HB0.out)).mono ?_; rintro e w1 ⟨rfl, hb1⟩; rw [HA.out]; (try clear c0); have HB1 := Lib.hid (bel HB0.out hb1); have c1 := (old_of HB1.out).1; clear hb1)
          go_ret
          exact ⟨ret_bool HF.out.symm, fin HB.out HB1.out⟩
      · have g1i : ¬ (4 : Int) < (B.nv : Int) := by omega
        by_cases g2 : 6 < B.ns
        · have g2i : (6 : Int) < (B.ns : Int) := by omega
          have HE3 : Hid (farB B = okKB B) := by unfold Hid; rw [HE2.out, decide_eq_true g2]; simp
          clear g1 g2
          cases hv : okKB B with
          | false =>
            have HA : Hid (chk B = 20) := chk_no hv
            have HF : Hid (farB B = false) := HE3.out.trans hv
            clear hv
            go_wp2_with (go_at_call 47; refine (rCheck_any N _ B _ (HBK.out.go HB0.out)).mono ?_; rintro e w1 ⟨rfl, hb1⟩; rw [HA.out]; (try clear c0); have HB1 := Lib.hid (bel HB0.out hb1); have c1 := (old_of HB1.out).1; clear hb1)
            go_ret
            exact ⟨ret_bool HF.out.symm, fin HB.out HB1.out⟩
          | true =>
            have HA : Hid (chk B = 0) := chk_yes hv
            have HF : Hid (farB B = true) := HE3.out.trans hv
            clear hv
            go_wp2_with (go_at_call 47; refine (rCheck_any N _ B _ (HBK.out.go HB0.out)).mono ?_; rintro e w1 ⟨rfl, hb1⟩; rw [HA.out]; (try clear c0); have HB1 := Lib.hid (bel HB0.out hb1); have c1 := (old_of HB1.out).1; clear hb1)
            go_ret
            exact ⟨ret_bool HF.out.symm, fin HB.out HB1.out⟩
        · have g2i : ¬ (6 : Int) < (B.ns : Int) := by omega
          have HF : Hid (farB B = false) := by unfold Hid; rw [HE2.out, decide_eq_false g1, decide_eq_false g2]; rfl
          clear g1 g2
          go_wp2
          go_ret
          exact ⟨ret_bool HF.out.symm, HB.out⟩

theorem Far_any (N : Nat) (v : Value) (B : KB) (w : World) (h : BookAt N w v B) :
    Calls Try.prog 45 #[v] w fun e w' => e = .returned (.bool (farB B)) ∧ Below w.heap.size w w' := by
  cases hf : farL B with
  | false => exact farShort_any N v B w h hf
  | true =>
    have e : farB B = true := by unfold farB; rw [hf]; rfl
    rw [e]; exact farLong_any N v B w h hf

def readyB (B : KB) : Bool := !farB B && okKB B

set_option maxHeartbeats 1600000 in
theorem ready_any (N : Nat) (v : Value) (B : KB) (w : World) (h : BookAt N w v B) :
    Calls Try.prog 15 #[v] w fun e w' => e = .returned (.bool (readyB B)) ∧ Below w.heap.size w w' := by
  have h' := h
  obtain ⟨_, a1, z1, a2, z2, a3, z3, rfl, _⟩ := h'
  obtain ⟨ws, hws, HB, hsz, hblk⟩ := box1 w (.cells #[.slice a1 B.nv z1, .slice a2 B.ns z2, .slice a3 B.D.n z3] 26)
  have q0 := cell_blk hblk 0 rfl
  have q1 := cell_blk hblk 1 rfl
  have q2 := cell_blk hblk 2 rfl
  have HBK := Lib.hid (h.go HB.out)
  have HB0 : Hid (Below ws.heap.size ws ws) := Below.refl _ _
  have HNS : Hid (N ≤ ws.heap.size) := HBK.out.1
  have hlens := h.lens
  obtain ⟨hlv, hls, hln⟩ := hlens
  clear hblk h
  cases hf : farB B with
  | true =>
    have HF := Lib.hid hf
    have HR : Hid (readyB B = false) := by unfold Hid readyB; rw [hf]; rfl
    clear hf
    go_enter Try.func15, Try.ntmps15
    go_wp2_with (go_at_call 45; refine (Far_any N _ B _ (HBK.out.go HB0.out)).mono ?_; rintro e w1 ⟨rfl, hb1⟩; rw [HF.out]; (try clear c0); have HB1 := Lib.hid (bel HB0.out hb1); have c1 := (old_of HB1.out).1; clear hb1)
    go_ret
    exact ⟨ret_bool HR.out.symm, fin HB.out HB1.out⟩
  | false =>
    have HF := Lib.hid hf
    have HR0 : Hid (readyB B = okKB B) := by unfold Hid readyB; rw [hf]; rfl
    clear hf
    cases hv : okKB B with
    | false =>
      have HA : Hid (chk B = 20) := chk_no hv
      have HR : Hid (readyB B = false) := HR0.out.trans hv
      clear hv
      go_enter Try.func15, Try.ntmps15
      go_wp2_with (first
        | (go_at_call 45; refine (Far_any N _ B _ (HBK.out.go HB0.out)).mono ?_; rintro e w1 ⟨rfl, hb1⟩; rw [HF.out]; (try clear c0); have HB1 := Lib.hid (bel HB0.out hb1); have c1 := (old_of HB1.out).1; clear hb1)
        | (go_at_call 47; refine (rCheck_any N _ B _ (HBK.out.go HB1.out)).mono ?_; rintro e w2 ⟨rfl, hb2⟩; rw [HA.out]; (try clear c1); have HB2 := Lib.hid (bel HB1.out hb2); have c2 := (old_of HB2.out).1; clear hb2))
      go_ret
      exact ⟨ret_bool HR.out.symm, fin HB.out HB2.out⟩
    | true =>
      have HA : Hid (chk B = 0) := chk_yes hv
      have HR : Hid (readyB B = true) := HR0.out.trans hv
      clear hv
      go_enter Try.func15, Try.ntmps15
      go_wp2_with (first
        | (go_at_call 45; refine (Far_any N _ B _ (HBK.out.go HB0.out)).mono ?_; rintro e w1 ⟨rfl, hb1⟩; rw [HF.out]; (try clear c0); have HB1 := Lib.hid (bel HB0.out hb1); have c1 := (old_of HB1.out).1; clear hb1)
        | (go_at_call 47; refine (rCheck_any N _ B _ (HBK.out.go HB1.out)).mono ?_; rintro e w2 ⟨rfl, hb2⟩; rw [HA.out]; (try clear c1); have HB2 := Lib.hid (bel HB1.out hb2); have c2 := (old_of HB2.out).1; clear hb2))
      go_ret
      exact ⟨ret_bool HR.out.symm, fin HB.out HB2.out⟩

end Go.Proofs.Ytbieglmpkljjjaa
