/-
  JKZ: open, isOpen of a jury.
-/
import Derived.Test.YtffnlimgjnhmpaaJIter
import Derived.Sort.CutIn
namespace Go.Proofs.Ytffnlimgjnhmpaa
open Go.RowKit Go.Shelf

attribute [local go_sem] Oper.semAt_some

/-- nothing waits -/
def noneO (S : JB) : Prop := ∀ i, i < S.np → ∀ k : Nat, (k : Int) < S.J → opn S i k = false
/-- what may change between two rounds -/
def Chg (_W A B : World) : Prop := Below A.heap.size A B

set_option maxRecDepth 100000 in
set_option maxHeartbeats 4000000 in
theorem open_seq (n : Nat) (hn : 1 ≤ n) (N : Nat) (v : Value) (S : JB) (w : World) (h : ShowAt N w v S) (hG : GoodS S) :
    SeqS Fence.wide n Try.prog 91 #[v] (fun x : Nat × Nat => #[.agg #[.int .i64 x.1, .int .i64 x.2]]) Chg (fun _ _ => True) (noneO S) (¬ noneO S) w := by
  intro l J Jx W hW hJa hJxa hY h0
  obtain ⟨a1, c1, rfl⟩ := h.form
  obtain ⟨ws, hws, HBs, hsz, hblk⟩ := box1 W (.cells #[.int .i64 S.J, .int .i64 S.D, .int .i64 S.Z, .slice a1 S.np c1] 74)
  have q0 := cell_blk hblk 0 rfl
  have q1 := cell_blk hblk 1 rfl
  have q2 := cell_blk hblk 2 rfl
  have q3 := cell_blk hblk 3 rfl
  have HBK := Lib.hid ((h.go hW).go HBs.out)
  have HJ0 : Hid (J [] ws) := hJa _ _ _ h0 HBs.out
  have HJA := Lib.hid hJa
  have HJX := Lib.hid hJxa
  have HY := Lib.hid hY
  have HG := Lib.hid hG
  have hn6 : S.np ≤ 6 := hG.np
  have hj1 := hG.J1
  have hj5 := hG.J5
  obtain ⟨jn, hjn⟩ : ∃ jn : Nat, S.J = jn := ⟨S.J.toNat, by omega⟩
  have HJN := Lib.hid hjn
  have HSQ : Hid (∀ W', Below ws.heap.size ws W' → W'.cell? ⟨W.heap.size, 0, none⟩ = some (.int .i64 S.J) ∧ W'.cell? ⟨W.heap.size, 1, none⟩ = some (.int .i64 S.D) ∧ W'.cell? ⟨W.heap.size, 2, none⟩ = some (.int .i64 S.Z) ∧ W'.cell? ⟨W.heap.size, 3, none⟩ = some (.slice a1 S.np c1)) := fun W' hW' => ⟨(hW'.cell (p := ⟨W.heap.size, 0, none⟩) hsz).trans q0, (hW'.cell (p := ⟨W.heap.size, 1, none⟩) hsz).trans q1, (hW'.cell (p := ⟨W.heap.size, 2, none⟩) hsz).trans q2, (hW'.cell (p := ⟨W.heap.size, 3, none⟩) hsz).trans q3⟩
  clear h hW hJa hJxa hY hG hblk hjn h0
  refine callsIn_of_wp Try.func91 rfl trivial ?_ rfl
  simp only [Try.ntmps91, List.size_toArray, List.length_cons, List.length_nil, Nat.reduceAdd, Nat.reduceSub, Array.replicate_succ, Array.replicate_zero, List.push_toArray, List.append_toArray, List.nil_append, List.cons_append]
  gi_upto_region 1 with fail
  (try rw [hws])
  clear hws
  gi_wp2
  gi_loopw [11] (fun i wr => ∃ k : Nat, k ≤ S.np ∧ i = .int .i64 k ∧ Hid (∀ i', i' < k → ∀ j : Nat, (j : Int) < S.J → opn S i' j = false) ∧ Hid (J [] wr) ∧ Hid (Below ws.heap.size ws wr)) (fun i _ => S.np - (intOf i).toNat)
  case atStart => exact ⟨0, Nat.zero_le _, rfl, fun i' h => absurd h (Nat.not_lt_zero _), HJ0, Below.refl _ _⟩
  case round =>
    obtain ⟨k, hk, rfl, HN, HJr, HBr⟩ := hrel
    obtain ⟨r0, r1, r2, r3⟩ := HSQ.out wr HBr.out
    by_cases hkn : k < S.np
    · have hki : (k : Int) < (S.np : Int) := by omega
      gi_wp2
      have HKN := Lib.hid hkn
      have HWr : Hid (Below wr.heap.size wr wr) := Below.refl _ _
      clear r0 r1 r2 r3
      obtain ⟨wk, hwk⟩ : ∃ wk, wk = wr := ⟨_, rfl⟩
      subst hwk
      gi_loopw [17] (fun i wr => ∃ m : Nat, m ≤ jn ∧ i = .int .i64 m ∧ Hid (∀ j, j < m → opn S k j = false) ∧ Hid (J [] wr) ∧ Hid (Below ws.heap.size ws wr)) (fun i _ => jn - (intOf i).toNat)
      case atStart => exact ⟨0, Nat.zero_le _, rfl, fun j h => absurd h (Nat.not_lt_zero _), HJr, HBr⟩
      case round =>
        obtain ⟨m, hm, rfl, HM, HJm, HBm⟩ := hrel
        have hj5' : jn ≤ 5 := by have := HJN.out; omega
        by_cases hmn : m < jn
        · have hmi : (m : Int) < S.J := by have := HJN.out; omega
          obtain ⟨wa, hwa, HBa, hsza, hblka⟩ := box1 wr (.cells #[.int .i64 0, .int .i64 0] 46)
          have HZa := Lib.hid hblka
          have z0 := cell_blk hblka 0 rfl
          have z1 := cell_blk hblka 1 rfl
          have f0 := free_blk hblka 0
          have f1 := free_blk hblka 1
          have hml : m < (S.pts k).length := by have := HG.out.len k hkn; omega
          clear hblka
          gi_upto_region 8 with fail
          (try rw [hwa])
          obtain ⟨w2, hw2, hz2, ho2, hb2⟩ := put2o HZa.out (.int .i64 k) (.int .i64 m)
          rw [hw2]
          have HB2r : Hid (Below wr.heap.size wr w2) := HBa.out.trans hb2
          have HB2 : Hid (Below ws.heap.size ws w2) := bel HBm.out HB2r.out
          obtain ⟨r0, r1, r2, r3⟩ := HSQ.out w2 HB2.out
          have m0 := cell_blk hz2 0 rfl
          have m1 := cell_blk hz2 1 rfl
          have HJ2 : Hid (J [] w2) := HJA.out _ _ _ HJm.out HB2r.out
          have HZ2 := Lib.hid hz2
          have hw2lt := heap_lt hz2
          clear hw2 hz2 ho2 hb2 z0 z1 f0 f1 hwa HZa
          cases ho : opn S k m with
          | true =>
            have HO := Lib.hid ho
            clear ho
            gi_wp2_with (first | (intro f hf; cases hf; done) | (refine ⟨trivial, ?_⟩; gi_at_call 63; refine (callsIn_wide.2 (kwaits_any N _ S k m _ (HBK.out.go HB2.out) hkn hml)).mono ?_; rw [HO.out]; rintro e w3 ⟨rfl, hb3⟩; have HB3 := Lib.hid hb3; have HJ3 : Hid (J [] w3) := HJA.out _ _ _ HJ2.out hb3; have n0 := (hb3.cell (p := ⟨wr.heap.size, 0, none⟩) hw2lt).trans m0; have n1 := (hb3.cell (p := ⟨wr.heap.size, 1, none⟩) hw2lt).trans m1; clear hb3 m0 m1 r0 r1 r2 r3; obtain ⟨fn, tmps, assign, body, hy, hR⟩ := HY.out (k, m) w3 HJ3.out trivial))
            refine hR.mono ?_
            rintro e w4 ⟨rfl, hj4⟩
            have HNO : Hid (¬ noneO S) := fun hno => by have := hno k hkn m hmi; rw [HO.out] at this; cases this
            have HJ4 := Lib.hid hj4
            clear hj4 hR hy n0 n1
            gi_wp2
            refine bodyPost_ret (results_none rfl _ _ _) rfl ?_
            exact ⟨⟨_, rfl⟩, .inr ⟨HNO.out, _, HJ4.out⟩⟩
          | false =>
            have HO := Lib.hid ho
            have HE : Hid (∀ j, j < m + 1 → opn S k j = false) := fun j hj => by
              by_cases e : j = m
              · subst e; exact HO.out
              · exact HM.out j (by omega)
            clear ho
            gi_wp2_with (first | (intro f hf; cases hf; done) | (refine ⟨trivial, ?_⟩; gi_at_call 63; refine (callsIn_wide.2 (kwaits_any N _ S k m _ (HBK.out.go HB2.out) hkn hml)).mono ?_; rw [HO.out]; rintro e w3 ⟨rfl, hb3⟩; have HB3 := Lib.hid hb3; have HJ3 : Hid (J [] w3) := HJA.out _ _ _ HJ2.out hb3; clear hb3 m0 m1 r0 r1 r2 r3))
            refine ⟨(fun f hf => by cases hf), ?_⟩
            gi_wp2
            go_roundw
            case rel => exact ⟨m + 1, by omega, by go_num, HE.out, HJ3.out, bel HB2.out HB3.out⟩
            case measure => simp [intOf]; omega
        · have hmi : ¬ (m : Int) < S.J := by have := HJN.out; omega
          have HE : Hid (∀ i', i' < k + 1 → ∀ j : Nat, (j : Int) < S.J → opn S i' j = false) := fun i' hi j hj => by
            by_cases e : i' = k
            · subst e; exact HM.out j (by have := HJN.out; omega)
            · exact HN.out i' (by omega) j hj
          gi_wp2
          go_roundw
          case rel => exact ⟨k + 1, by omega, by go_num, HE.out, HJm, HBm⟩
          case measure => simp [intOf]; omega
    · have hki : ¬ (k : Int) < (S.np : Int) := by omega
      have HE : Hid (noneO S) := fun i hi j hj => HN.out i (by omega) j hj
      gi_wp2
      go_end0
      exact ⟨⟨_, rfl⟩, .inl ⟨HE.out, HJr.out⟩⟩

end Go.Proofs.Ytffnlimgjnhmpaa
