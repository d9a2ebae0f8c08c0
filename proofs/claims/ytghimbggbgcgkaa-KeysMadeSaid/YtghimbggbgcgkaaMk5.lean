/-
  Mk5: the maker for every set; a new maker.
-/
import Derived.Test.YtghimbggbgcgkaaMk4
namespace Go.Proofs.Ytghimbggbgcgkaa
open Go.RowKit Go.Maps

theorem maker_says (B : KB) (hG : GoodB B) (bk b pb Mb N base : Nat) : ∀ f, SaysN B bk b pb Mb N base f := by
  intro f
  induction f with
  | zero => intro s n w v l rows ss hs hsf h _ _; exact node_small B bk b pb Mb N base s n w v l rows ss hs (by omega) h
  | succ f ih =>
    intro s n w v l rows ss hs hsf h h40 hn
    by_cases h1 : (mems s).length ≤ 1
    · exact node_small B bk b pb Mb N base s n w v l rows ss hs h1 h
    · exact node_big B hG bk b pb Mb N base f (place_says B bk b pb Mb N base f ih) s n w v l rows ss hs h1 hsf h h40 hn
theorem place_all (B : KB) (hG : GoodB B) (bk b pb Mb N base : Nat) : SaysP B bk b pb Mb N base 8 := place_says B bk b pb Mb N base 8 (maker_says B hG bk b pb Mb N base 8)

set_option maxRecDepth 100000 in
set_option maxHeartbeats 1600000 in
theorem newMaker_any (N : Nat) (B : KB) (a1 a2 a3 : Option Addr) (z1 z2 z3 : Nat) (w : World) (h : BookAt N w (.agg #[.slice a1 B.nv z1, .slice a2 B.ns z2, .slice a3 B.D.n z3]) B) (hG : GoodB B) :
    Calls Try.prog 87 #[.agg #[.slice a1 B.nv z1, .slice a2 B.ns z2, .slice a3 B.D.n z3]] w fun e w' => ∃ bk b pb Mb, e = .returned (.pointer (some ⟨Mb, 0, none⟩)) ∧ St B bk b pb Mb N w'.heap.size 0 w' (.slice none 0 0) [] [] [] ∧ w.heap.size ≤ Mb ∧ w.heap.size ≤ b ∧ w.heap.size ≤ pb ∧ Below w.heap.size w w' := by
  have hmm : ∀ w, (Instr.makeMap 99 none).run Try.prog w = .ok (.map (some w.heap.size)) (w.alloc (.map #[] 0)) := fun w => rfl
  obtain ⟨ws, hws, HB, hsz, hblk⟩ := box1 w (.cells #[.slice a1 B.nv z1, .slice a2 B.ns z2, .slice a3 B.D.n z3] 26)
  have q0 := cell_blk hblk 0 rfl
  have q1 := cell_blk hblk 1 rfl
  have q2 := cell_blk hblk 2 rfl
  have hnv5 := hG.nv
  have HBK := Lib.hid (h.go HB.out)
  clear h hblk
  go_enter Try.func87, Try.ntmps87
  go_wp2_with (go_at_call 81; (try rw [hws]); refine (searchNames_any _ _ _ _ _ _ _ _ _ _ _ hnv5).mono ?_; rintro e w2 ⟨rfl, hbk, hmp, hb2⟩; unfold seaV; have HBK2 := Lib.hid hbk; have HMP := Lib.hid hmp; have HB2 := Lib.hid hb2; clear hbk hmp hb2)
  have hN := HBK.out.1
  obtain ⟨w', hw', HB3, hsz3, hsz4, k0, k1⟩ := box2 w2 (.map #[] 0) (.cells (makA B.nv ws.heap.size (ws.heap.size + 2) w2.heap.size (.slice none 0 0)) 144)
  have hbk2 : ws.heap.size < w2.heap.size := heap_lt HBK2.out
  have hmp2 : ws.heap.size + 2 < w2.heap.size := heap_lt HMP.out
  have hse := sea_env (mean := false) (W' := w') hN HBK2.out HMP.out (HBK.out.go HB2.out) HB3.out
  have hsz' : w'.heap.size = w2.heap.size + 2 := by rw [← hw']; simp
  have hws' := HB2.out.size
  have hw0 := HB.out.size
  go_ret
  refine ⟨ws.heap.size, ws.heap.size + 2, w2.heap.size, w2.heap.size + 1, rfl, ?_, by omega, by omega, by omega, ?_⟩
  · show St B _ _ _ _ N ((w2.alloc (.map #[] 0)).alloc (.cells (makA B.nv ws.heap.size (ws.heap.size + 2) w2.heap.size (.slice none 0 0)) 144)).heap.size 0 ((w2.alloc (.map #[] 0)).alloc (.cells (makA B.nv ws.heap.size (ws.heap.size + 2) w2.heap.size (.slice none 0 0)) 144)) _ _ _ _
    rw [hw']
    exact {
      box := k1
      nodes := World.ownsRow_nil _ _ _ _
      rest := {
        env := hse.1
        found := hse.2
        places := by
          refine ⟨.map [], ?_, fun s _ hh => by simp [has] at hh, fun i s h => by cases h⟩
          obtain ⟨es, cl, h1, F, h3, h4⟩ := World.ownsMap_made (H := Unit) w2 Try.prog 104 (plainElem Try.prog 3)
          rw [World.alloc_heap_new] at h1
          cases h1
          exact ⟨#[], 0, k0, F, h3, h4⟩
        rlen := rfl
        slen := rfl
        lists := fun i r row h => by cases h
        apart := fun i j a c g _ h => by cases h
        good := fun i s r h => by cases h
        ord := by omega
        le := Nat.le_refl _ } }
  · show Below _ _ ((w2.alloc (.map #[] 0)).alloc (.cells (makA B.nv ws.heap.size (ws.heap.size + 2) w2.heap.size (.slice none 0 0)) 144))
    rw [hw']
    exact fin HB.out (fin HB2.out HB3.out)


end Go.Proofs.Ytghimbggbgcgkaa
