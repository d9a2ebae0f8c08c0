/-
  JKEn: enterClosed; Rank, Decide of package judges.
-/
import Derived.Test.YtffnlimgjnhmpaaJIsO
import Derived.Test.YtffnlimgjnhmpaaJKY
import Derived.Test.YtffnlimgjnhmpaaJKV
import Derived.Test.YtffnlimgjnhmpaaJKH
namespace Go.Proofs.Ytffnlimgjnhmpaa
open Go.RowKit

set_option maxHeartbeats 3200000 in
set_option maxRecDepth 100000 in
theorem enterClosed_any (N : Nat) (v : Value) (S : JB) (er : Int) (w : World) (h : ShowAt N w v S) (her : errC (okS S) true (allIn S) = er) :
    Calls Try.prog 66 #[v] w fun e w' => e = .returned (.tuple #[entV er v, .int .i64 er]) ∧ Below w.heap.size w w' := by
  obtain ⟨a1, c1, rfl⟩ := h.form
  obtain ⟨ws, hws, HB, hsz, hsz1, hblk, hblk1⟩ := box2 w (.cells #[.int .i64 S.J, .int .i64 S.D, .int .i64 S.Z, .slice a1 S.np c1] 24) (.cells #[.int .i64 0, .int .i64 0, .int .i64 0, .slice none 0 0] 74)
  have q0 := cell_blk hblk 0 rfl
  have q1 := cell_blk hblk 1 rfl
  have q2 := cell_blk hblk 2 rfl
  have q3 := cell_blk hblk 3 rfl
  have HNZ : Hid (N ≤ w.heap.size) := h.1
  have HBK := Lib.hid (h.go HB.out)
  have HB0 : Hid (Below ws.heap.size ws ws) := Below.refl _ _
  have HNS : Hid (N ≤ ws.heap.size) := HBK.out.1
  have HZ1 := Lib.hid hblk1
  have hlen := h.len
  have HSQ : Hid (∀ W, Below ws.heap.size ws W → (W.cell? ⟨w.heap.size, 0, none⟩ = some (.int .i64 S.J) ∧ W.cell? ⟨w.heap.size, 1, none⟩ = some (.int .i64 S.D) ∧ W.cell? ⟨w.heap.size, 2, none⟩ = some (.int .i64 S.Z) ∧ W.cell? ⟨w.heap.size, 3, none⟩ = some (.slice a1 S.np c1))) := fun W hW => ⟨(hW.cell (p := ⟨w.heap.size, 0, none⟩) hsz).trans q0, (hW.cell (p := ⟨w.heap.size, 1, none⟩) hsz).trans q1, (hW.cell (p := ⟨w.heap.size, 2, none⟩) hsz).trans q2, (hW.cell (p := ⟨w.heap.size, 3, none⟩) hsz).trans q3⟩
  clear hblk hblk1 h
  cases hok : okS S with
  | false =>
    rw [hok] at her
    have he : er = 80 := her.symm
    subst he
    rw [entV_no (by decide)]
    go_enter Try.func66, Try.ntmps66
    go_upto_region 2 with (go_at_call 68; refine (enter_no N _ S _ HBK.out hok).mono ?_; rintro e w1 ⟨rfl, hb1⟩; have HB1 : Hid (Below ws.heap.size ws w1) := (bel HB0.out hb1); clear hb1; obtain ⟨wo, hwo, HBo, hszo, hblko⟩ := box1 w1 (.cells #[.int .i64 0, .int .i64 0, .int .i64 0, .slice none 0 0] 74); have HZo := Lib.hid hblko; have z0 := cell_blk hblko 0 rfl; have z1 := cell_blk hblko 1 rfl; have z2 := cell_blk hblko 2 rfl; have z3 := cell_blk hblko 3 rfl; have f0 := free_blk hblko 0; have f1 := free_blk hblko 1; have f2 := free_blk hblko 2; have f3 := free_blk hblko 3; clear hblko)
    obtain ⟨w2, hw2, hz2, ho2, hb2⟩ := put4o HZo.out (.int .i64 0) (.int .i64 0) (.int .i64 0) (.slice none 0 0)
    rw [hw2]
    have HB2 : Hid (Below ws.heap.size ws w2) := HB1.out.trans ((HBo.out.trans hb2).mono HB1.out.size)
    have HZ2 := Lib.hid hz2
    have hs12 : w1.heap.size < w2.heap.size := Nat.lt_of_lt_of_le hszo hb2.size
    clear hw2 ho2 hb2 z0 z1 z2 z3 f0 f1 f2 f3 hwo HZo HBo hszo
    obtain ⟨jb, hjb⟩ : ∃ jb, w1.heap.size = jb := ⟨_, rfl⟩
    rw [hjb] at hz2 HZ2 hs12 ⊢
    have HJB : Hid (ws.heap.size ≤ jb) := by rw [← hjb]; exact HB1.out.size
    have j0 := cell_blk hz2 0 rfl
    have j1 := cell_blk hz2 1 rfl
    have j2 := cell_blk hz2 2 rfl
    have j3 := cell_blk hz2 3 rfl
    clear hz2 hjb
    have HZr := Lib.hid ((HB2.out.block _ hsz1).trans HZ1.out)
    have g0 := free_blk HZr.out 0
    have g1 := free_blk HZr.out 1
    have g2 := free_blk HZr.out 2
    have g3 := free_blk HZr.out 3
    have k0 := cell_blk HZr.out 0 rfl
    have k1 := cell_blk HZr.out 1 rfl
    have k2 := cell_blk HZr.out 2 rfl
    have k3 := cell_blk HZr.out 3 rfl
    have hjne : w.heap.size + 1 < jb := by have := HJB.out; omega
    go_wp2_with fail
    obtain ⟨w4, hw4, hz4, ho4, hb4⟩ := put4o HZr.out (.int .i64 0) (.int .i64 0) (.int .i64 0) (.slice none 0 0)
    rw [hw4]
    have s0 := cell_blk hz4 0 rfl
    have s1 := cell_blk hz4 1 rfl
    have s2 := cell_blk hz4 2 rfl
    have s3 := cell_blk hz4 3 rfl
    exact bodyPost_ret (v := .tuple #[.agg #[(.int .i64 0), (.int .i64 0), (.int .i64 0), (.slice none 0 0)], .int .i64 80]) (by simp [results, Try.results66, go_sem, s0, s1, s2, s3]) rfl ⟨rfl, HB.out.trans ((HB2.out.mono HB.out.size).trans (hb4.mono (by omega)))⟩
  | true =>
    rw [hok] at her
    have HGS := Lib.hid (okS_good hok)
    cases hin : allIn S with
    | true =>
      rw [hin] at her
      have he : er = 0 := her.symm
      subst he
      rw [entV_ok]
      have HIN := Lib.hid hin
      clear her hin
      go_enter Try.func66, Try.ntmps66
      go_upto_region 2 with (go_at_call 68; refine (enter_ok N _ S _ HBK.out hok).mono ?_; rintro e w1 ⟨rfl, hb1⟩; have HB1 : Hid (Below ws.heap.size ws w1) := (bel HB0.out hb1); clear hb1; obtain ⟨wo, hwo, HBo, hszo, hblko⟩ := box1 w1 (.cells #[.int .i64 0, .int .i64 0, .int .i64 0, .slice none 0 0] 74); have HZo := Lib.hid hblko; have z0 := cell_blk hblko 0 rfl; have z1 := cell_blk hblko 1 rfl; have z2 := cell_blk hblko 2 rfl; have z3 := cell_blk hblko 3 rfl; have f0 := free_blk hblko 0; have f1 := free_blk hblko 1; have f2 := free_blk hblko 2; have f3 := free_blk hblko 3; clear hblko)
      obtain ⟨w2, hw2, hz2, ho2, hb2⟩ := put4o HZo.out (.int .i64 S.J) (.int .i64 S.D) (.int .i64 S.Z) (.slice a1 S.np c1)
      rw [hw2]
      have HB2 : Hid (Below ws.heap.size ws w2) := HB1.out.trans ((HBo.out.trans hb2).mono HB1.out.size)
      have HZ2 := Lib.hid hz2
      have hs12 : w1.heap.size < w2.heap.size := Nat.lt_of_lt_of_le hszo hb2.size
      clear hw2 ho2 hb2 z0 z1 z2 z3 f0 f1 f2 f3 hwo HZo HBo hszo
      obtain ⟨jb, hjb⟩ : ∃ jb, w1.heap.size = jb := ⟨_, rfl⟩
      rw [hjb] at hz2 HZ2 hs12 ⊢
      have HJB : Hid (ws.heap.size ≤ jb) := by rw [← hjb]; exact HB1.out.size
      have j0 := cell_blk hz2 0 rfl
      have j1 := cell_blk hz2 1 rfl
      have j2 := cell_blk hz2 2 rfl
      have j3 := cell_blk hz2 3 rfl
      clear hz2 hjb
      go_upto_region 2 with fail
      have hjw : jb < w2.heap.size := heap_lt HZ2.out
      have hsz2 : w.heap.size + 1 < w2.heap.size := Nat.lt_of_lt_of_le hsz1 HB2.out.size
      have HZq := Lib.hid ((HB2.out.block _ hsz1).trans HZ1.out)
      go_wp2_with (go_at_call 70; refine (isOpen_any N _ S _ (HBK.out.go HB2.out) HGS.out).mono ?_; rw [HIN.out]; rintro e w3 ⟨rfl, hb3⟩; have HB3 : Hid (Below ws.heap.size ws w3) := bel HB2.out hb3; have HJ3 := Lib.hid ((hb3.block _ hjw).trans HZ2.out); have HZr := Lib.hid ((hb3.block _ hsz2).trans HZq.out); clear j0 j1 j2 j3; have j0 := cell_blk HJ3.out 0 rfl; have j1 := cell_blk HJ3.out 1 rfl; have j2 := cell_blk HJ3.out 2 rfl; have j3 := cell_blk HJ3.out 3 rfl; have g0 := free_blk HZr.out 0; have g1 := free_blk HZr.out 1; have g2 := free_blk HZr.out 2; have g3 := free_blk HZr.out 3; have k0 := cell_blk HZr.out 0 rfl; have k1 := cell_blk HZr.out 1 rfl; have k2 := cell_blk HZr.out 2 rfl; have k3 := cell_blk HZr.out 3 rfl; have hjne : w.heap.size + 1 < jb := (by have := HJB.out; omega); clear hb3)
      obtain ⟨w4, hw4, hz4, ho4, hb4⟩ := put4o HZr.out (.int .i64 S.J) (.int .i64 S.D) (.int .i64 S.Z) (.slice a1 S.np c1)
      rw [hw4]
      have s0 := cell_blk hz4 0 rfl
      have s1 := cell_blk hz4 1 rfl
      have s2 := cell_blk hz4 2 rfl
      have s3 := cell_blk hz4 3 rfl
      exact bodyPost_ret (v := .tuple #[.agg #[(.int .i64 S.J), (.int .i64 S.D), (.int .i64 S.Z), (.slice a1 S.np c1)], .int .i64 0]) (by simp [results, Try.results66, go_sem, s0, s1, s2, s3]) rfl ⟨rfl, HB.out.trans ((HB3.out.mono HB.out.size).trans (hb4.mono (by omega)))⟩
    | false =>
      rw [hin] at her
      have he : er = 81 := her.symm
      subst he
      rw [entV_no (by decide)]
      have HIN := Lib.hid hin
      clear her hin
      go_enter Try.func66, Try.ntmps66
      go_upto_region 2 with (go_at_call 68; refine (enter_ok N _ S _ HBK.out hok).mono ?_; rintro e w1 ⟨rfl, hb1⟩; have HB1 : Hid (Below ws.heap.size ws w1) := (bel HB0.out hb1); clear hb1; obtain ⟨wo, hwo, HBo, hszo, hblko⟩ := box1 w1 (.cells #[.int .i64 0, .int .i64 0, .int .i64 0, .slice none 0 0] 74); have HZo := Lib.hid hblko; have z0 := cell_blk hblko 0 rfl; have z1 := cell_blk hblko 1 rfl; have z2 := cell_blk hblko 2 rfl; have z3 := cell_blk hblko 3 rfl; have f0 := free_blk hblko 0; have f1 := free_blk hblko 1; have f2 := free_blk hblko 2; have f3 := free_blk hblko 3; clear hblko)
      obtain ⟨w2, hw2, hz2, ho2, hb2⟩ := put4o HZo.out (.int .i64 S.J) (.int .i64 S.D) (.int .i64 S.Z) (.slice a1 S.np c1)
      rw [hw2]
      have HB2 : Hid (Below ws.heap.size ws w2) := HB1.out.trans ((HBo.out.trans hb2).mono HB1.out.size)
      have HZ2 := Lib.hid hz2
      have hs12 : w1.heap.size < w2.heap.size := Nat.lt_of_lt_of_le hszo hb2.size
      clear hw2 ho2 hb2 z0 z1 z2 z3 f0 f1 f2 f3 hwo HZo HBo hszo
      obtain ⟨jb, hjb⟩ : ∃ jb, w1.heap.size = jb := ⟨_, rfl⟩
      rw [hjb] at hz2 HZ2 hs12 ⊢
      have HJB : Hid (ws.heap.size ≤ jb) := by rw [← hjb]; exact HB1.out.size
      have j0 := cell_blk hz2 0 rfl
      have j1 := cell_blk hz2 1 rfl
      have j2 := cell_blk hz2 2 rfl
      have j3 := cell_blk hz2 3 rfl
      clear hz2 hjb
      go_upto_region 2 with fail
      have hjw : jb < w2.heap.size := heap_lt HZ2.out
      have hsz2 : w.heap.size + 1 < w2.heap.size := Nat.lt_of_lt_of_le hsz1 HB2.out.size
      have HZq := Lib.hid ((HB2.out.block _ hsz1).trans HZ1.out)
      go_wp2_with (go_at_call 70; refine (isOpen_any N _ S _ (HBK.out.go HB2.out) HGS.out).mono ?_; rw [HIN.out]; rintro e w3 ⟨rfl, hb3⟩; have HB3 : Hid (Below ws.heap.size ws w3) := bel HB2.out hb3; have HJ3 := Lib.hid ((hb3.block _ hjw).trans HZ2.out); have HZr := Lib.hid ((hb3.block _ hsz2).trans HZq.out); clear j0 j1 j2 j3; have j0 := cell_blk HJ3.out 0 rfl; have j1 := cell_blk HJ3.out 1 rfl; have j2 := cell_blk HJ3.out 2 rfl; have j3 := cell_blk HJ3.out 3 rfl; have g0 := free_blk HZr.out 0; have g1 := free_blk HZr.out 1; have g2 := free_blk HZr.out 2; have g3 := free_blk HZr.out 3; have k0 := cell_blk HZr.out 0 rfl; have k1 := cell_blk HZr.out 1 rfl; have k2 := cell_blk HZr.out 2 rfl; have k3 := cell_blk HZr.out 3 rfl; have hjne : w.heap.size + 1 < jb := (by have := HJB.out; omega); clear hb3)
      obtain ⟨w4, hw4, hz4, ho4, hb4⟩ := put4o HZr.out (.int .i64 0) (.int .i64 0) (.int .i64 0) (.slice none 0 0)
      rw [hw4]
      have s0 := cell_blk hz4 0 rfl
      have s1 := cell_blk hz4 1 rfl
      have s2 := cell_blk hz4 2 rfl
      have s3 := cell_blk hz4 3 rfl
      exact bodyPost_ret (v := .tuple #[.agg #[(.int .i64 0), (.int .i64 0), (.int .i64 0), (.slice none 0 0)], .int .i64 81]) (by simp [results, Try.results66, go_sem, s0, s1, s2, s3]) rfl ⟨rfl, HB.out.trans ((HB3.out.mono HB.out.size).trans (hb4.mono (by omega)))⟩
theorem enterClosed_ok (N : Nat) (v : Value) (S : JB) (w : World) (h : ShowAt N w v S) (her : errC (okS S) true (allIn S) = 0) :
    Calls Try.prog 66 #[v] w fun e w' => e = .returned (.tuple #[v, .int .i64 0]) ∧ Below w.heap.size w w' := enterClosed_any N v S 0 w h her
theorem enterClosed_no (N : Nat) (v : Value) (S : JB) (er : Int) (w : World) (h : ShowAt N w v S) (her : errC (okS S) true (allIn S) = er) (h0 : er ≠ 0) :
    Calls Try.prog 66 #[v] w fun e w' => e = .returned (.tuple #[.agg #[.int .i64 0, .int .i64 0, .int .i64 0, .slice none 0 0], .int .i64 er]) ∧ Below w.heap.size w w' := by
  have := enterClosed_any N v S er w h her
  rwa [entV_no h0] at this

set_option maxHeartbeats 3200000 in
set_option maxRecDepth 100000 in
theorem kRank_any (N : Nat) (v : Value) (S : JB) (er : Int) (w : World) (h : ShowAt N w v S) (her : errC (okS S) true (allIn S) = er) :
    Calls Try.prog 39 #[v] w fun e w' => ∃ u, e = .returned (.tuple #[u, .int .i64 er]) ∧ LI w'.heap.size w' u (spL er (rnk S S.np)) ∧ Below w.heap.size w w' := by
  obtain ⟨a1, c1, rfl⟩ := h.form
  obtain ⟨ws, hws, HB, hsz, hblk⟩ := box1 w (.cells #[.int .i64 S.J, .int .i64 S.D, .int .i64 S.Z, .slice a1 S.np c1] 24)
  have q0 := cell_blk hblk 0 rfl
  have q1 := cell_blk hblk 1 rfl
  have q2 := cell_blk hblk 2 rfl
  have q3 := cell_blk hblk 3 rfl
  have HNZ : Hid (N ≤ w.heap.size) := h.1
  have HBK := Lib.hid (h.go HB.out)
  have HB0 : Hid (Below ws.heap.size ws ws) := Below.refl _ _
  have HNS : Hid (N ≤ ws.heap.size) := HBK.out.1
  have hlen := h.len
  clear hblk h
  by_cases h0 : er = 0
  · subst h0
    obtain ⟨hok, _, hin⟩ := errC_ok her
    have HGS := Lib.hid (okS_good hok)
    have HIN := Lib.hid hin
    clear hok hin
    go_enter Try.func39, Try.ntmps39
    go_upto_region 2 with (go_at_call 66; refine (enterClosed_ok N _ S _ HBK.out her).mono ?_; rintro e w1 ⟨rfl, hb1⟩; have HB1 : Hid (Below ws.heap.size ws w1) := (bel HB0.out hb1); clear hb1; obtain ⟨wo, hwo, HBo, hszo, hblko⟩ := box1 w1 (.cells #[.int .i64 0, .int .i64 0, .int .i64 0, .slice none 0 0] 74); have HZo := Lib.hid hblko; have z0 := cell_blk hblko 0 rfl; have z1 := cell_blk hblko 1 rfl; have z2 := cell_blk hblko 2 rfl; have z3 := cell_blk hblko 3 rfl; have f0 := free_blk hblko 0; have f1 := free_blk hblko 1; have f2 := free_blk hblko 2; have f3 := free_blk hblko 3; clear hblko)
    obtain ⟨w2, hw2, hz2, ho2, hb2⟩ := put4o HZo.out (.int .i64 S.J) (.int .i64 S.D) (.int .i64 S.Z) (.slice a1 S.np c1)
    rw [hw2]
    have HB2 : Hid (Below ws.heap.size ws w2) := HB1.out.trans ((HBo.out.trans hb2).mono HB1.out.size)
    have HZ2 := Lib.hid hz2
    have hs12 : w1.heap.size < w2.heap.size := Nat.lt_of_lt_of_le hszo hb2.size
    clear hw2 ho2 hb2 z0 z1 z2 z3 f0 f1 f2 f3 hwo HZo HBo hszo
    obtain ⟨jb, hjb⟩ : ∃ jb, w1.heap.size = jb := ⟨_, rfl⟩
    rw [hjb] at hz2 HZ2 hs12 ⊢
    have HJB : Hid (ws.heap.size ≤ jb) := by rw [← hjb]; exact HB1.out.size
    have j0 := cell_blk hz2 0 rfl
    have j1 := cell_blk hz2 1 rfl
    have j2 := cell_blk hz2 2 rfl
    have j3 := cell_blk hz2 3 rfl
    clear hz2 hjb
    go_wp2_with (go_at_call 72; refine (krank_any N _ S _ (HBK.out.go HB2.out) HGS.out.rj HGS.out.np HIN.out).mono ?_; rintro e w3 ⟨u, rfl, hl3, hb3⟩; have HL3 := Lib.hid hl3; have HB3 : Hid (Below ws.heap.size ws w3) := bel HB2.out hb3; clear hl3 hb3)
    go_ret2
    exact ⟨u, rfl, by first | exact HL3.out | exact HL3.out.li (by have := HGS.out.J5; have := sel_len (fun k => !decide (getL (withoutJ S k) = getL S)) S.J.toNat; unfold dec; omega), fin HB.out HB3.out⟩
  · have HSP : Hid (spL er (rnk S S.np) = []) := spL_no h0 _
    have hne : (er != 0) = true := by simpa using h0
    have HCN := Lib.hid (fun W (hW : Below ws.heap.size ws W) => enterClosed_no N _ S er W (HBK.out.go hW) her h0)
    clear h0
    go_enter Try.func39, Try.ntmps39
    go_upto_region 2 with (go_at_call 66; refine (HCN.out _ HB0.out).mono ?_; rintro e w1 ⟨rfl, hb1⟩; have HB1 : Hid (Below ws.heap.size ws w1) := (bel HB0.out hb1); clear hb1; obtain ⟨wo, hwo, HBo, hszo, hblko⟩ := box1 w1 (.cells #[.int .i64 0, .int .i64 0, .int .i64 0, .slice none 0 0] 74); have HZo := Lib.hid hblko; have z0 := cell_blk hblko 0 rfl; have z1 := cell_blk hblko 1 rfl; have z2 := cell_blk hblko 2 rfl; have z3 := cell_blk hblko 3 rfl; have f0 := free_blk hblko 0; have f1 := free_blk hblko 1; have f2 := free_blk hblko 2; have f3 := free_blk hblko 3; clear hblko)
    obtain ⟨w2, hw2, hz2, ho2, hb2⟩ := put4o HZo.out (.int .i64 0) (.int .i64 0) (.int .i64 0) (.slice none 0 0)
    rw [hw2]
    have HB2 : Hid (Below ws.heap.size ws w2) := HB1.out.trans ((HBo.out.trans hb2).mono HB1.out.size)
    have HZ2 := Lib.hid hz2
    have hs12 : w1.heap.size < w2.heap.size := Nat.lt_of_lt_of_le hszo hb2.size
    clear hw2 ho2 hb2 z0 z1 z2 z3 f0 f1 f2 f3 hwo HZo HBo hszo
    obtain ⟨jb, hjb⟩ : ∃ jb, w1.heap.size = jb := ⟨_, rfl⟩
    rw [hjb] at hz2 HZ2 hs12 ⊢
    have HJB : Hid (ws.heap.size ≤ jb) := by rw [← hjb]; exact HB1.out.size
    have j0 := cell_blk hz2 0 rfl
    have j1 := cell_blk hz2 1 rfl
    have j2 := cell_blk hz2 2 rfl
    have j3 := cell_blk hz2 3 rfl
    clear hz2 hjb
    go_wp2_with fail
    go_ret2
    exact ⟨_, rfl, by rw [HSP.out]; exact (OwnI.nil 0 _).li (by simp), fin HB.out HB2.out⟩
set_option maxHeartbeats 3200000 in
set_option maxRecDepth 100000 in
theorem kDecide_any (N : Nat) (v : Value) (S : JB) (er : Int) (w : World) (h : ShowAt N w v S) (her : errC (okS S) true (allIn S) = er) :
    Calls Try.prog 32 #[v] w fun e w' => ∃ u, e = .returned (.tuple #[u, .int .i64 er]) ∧ LI w'.heap.size w' u (spL er (dec S)) ∧ Below w.heap.size w w' := by
  obtain ⟨a1, c1, rfl⟩ := h.form
  obtain ⟨ws, hws, HB, hsz, hblk⟩ := box1 w (.cells #[.int .i64 S.J, .int .i64 S.D, .int .i64 S.Z, .slice a1 S.np c1] 24)
  have q0 := cell_blk hblk 0 rfl
  have q1 := cell_blk hblk 1 rfl
  have q2 := cell_blk hblk 2 rfl
  have q3 := cell_blk hblk 3 rfl
  have HNZ : Hid (N ≤ w.heap.size) := h.1
  have HBK := Lib.hid (h.go HB.out)
  have HB0 : Hid (Below ws.heap.size ws ws) := Below.refl _ _
  have HNS : Hid (N ≤ ws.heap.size) := HBK.out.1
  have hlen := h.len
  clear hblk h
  by_cases h0 : er = 0
  · subst h0
    obtain ⟨hok, _, hin⟩ := errC_ok her
    have HGS := Lib.hid (okS_good hok)
    have HIN := Lib.hid hin
    clear hok hin
    go_enter Try.func32, Try.ntmps32
    go_upto_region 2 with (go_at_call 66; refine (enterClosed_ok N _ S _ HBK.out her).mono ?_; rintro e w1 ⟨rfl, hb1⟩; have HB1 : Hid (Below ws.heap.size ws w1) := (bel HB0.out hb1); clear hb1; obtain ⟨wo, hwo, HBo, hszo, hblko⟩ := box1 w1 (.cells #[.int .i64 0, .int .i64 0, .int .i64 0, .slice none 0 0] 74); have HZo := Lib.hid hblko; have z0 := cell_blk hblko 0 rfl; have z1 := cell_blk hblko 1 rfl; have z2 := cell_blk hblko 2 rfl; have z3 := cell_blk hblko 3 rfl; have f0 := free_blk hblko 0; have f1 := free_blk hblko 1; have f2 := free_blk hblko 2; have f3 := free_blk hblko 3; clear hblko)
    obtain ⟨w2, hw2, hz2, ho2, hb2⟩ := put4o HZo.out (.int .i64 S.J) (.int .i64 S.D) (.int .i64 S.Z) (.slice a1 S.np c1)
    rw [hw2]
    have HB2 : Hid (Below ws.heap.size ws w2) := HB1.out.trans ((HBo.out.trans hb2).mono HB1.out.size)
    have HZ2 := Lib.hid hz2
    have hs12 : w1.heap.size < w2.heap.size := Nat.lt_of_lt_of_le hszo hb2.size
    clear hw2 ho2 hb2 z0 z1 z2 z3 f0 f1 f2 f3 hwo HZo HBo hszo
    obtain ⟨jb, hjb⟩ : ∃ jb, w1.heap.size = jb := ⟨_, rfl⟩
    rw [hjb] at hz2 HZ2 hs12 ⊢
    have HJB : Hid (ws.heap.size ≤ jb) := by rw [← hjb]; exact HB1.out.size
    have j0 := cell_blk hz2 0 rfl
    have j1 := cell_blk hz2 1 rfl
    have j2 := cell_blk hz2 2 rfl
    have j3 := cell_blk hz2 3 rfl
    clear hz2 hjb
    go_wp2_with (go_at_call 67; refine (kdecide_any N _ S _ (HBK.out.go HB2.out) HGS.out HIN.out).mono ?_; rintro e w3 ⟨u, rfl, hl3, hb3⟩; have HL3 := Lib.hid hl3; have HB3 : Hid (Below ws.heap.size ws w3) := bel HB2.out hb3; clear hl3 hb3)
    go_ret2
    exact ⟨u, rfl, by first | exact HL3.out | exact HL3.out.li (by have := HGS.out.J5; have := sel_len (fun k => !decide (getL (withoutJ S k) = getL S)) S.J.toNat; unfold dec; omega), fin HB.out HB3.out⟩
  · have HSP : Hid (spL er (dec S) = []) := spL_no h0 _
    have hne : (er != 0) = true := by simpa using h0
    have HCN := Lib.hid (fun W (hW : Below ws.heap.size ws W) => enterClosed_no N _ S er W (HBK.out.go hW) her h0)
    clear h0
    go_enter Try.func32, Try.ntmps32
    go_upto_region 2 with (go_at_call 66; refine (HCN.out _ HB0.out).mono ?_; rintro e w1 ⟨rfl, hb1⟩; have HB1 : Hid (Below ws.heap.size ws w1) := (bel HB0.out hb1); clear hb1; obtain ⟨wo, hwo, HBo, hszo, hblko⟩ := box1 w1 (.cells #[.int .i64 0, .int .i64 0, .int .i64 0, .slice none 0 0] 74); have HZo := Lib.hid hblko; have z0 := cell_blk hblko 0 rfl; have z1 := cell_blk hblko 1 rfl; have z2 := cell_blk hblko 2 rfl; have z3 := cell_blk hblko 3 rfl; have f0 := free_blk hblko 0; have f1 := free_blk hblko 1; have f2 := free_blk hblko 2; have f3 := free_blk hblko 3; clear hblko)
    obtain ⟨w2, hw2, hz2, ho2, hb2⟩ := put4o HZo.out (.int .i64 0) (.int .i64 0) (.int .i64 0) (.slice none 0 0)
    rw [hw2]
    have HB2 : Hid (Below ws.heap.size ws w2) := HB1.out.trans ((HBo.out.trans hb2).mono HB1.out.size)
    have HZ2 := Lib.hid hz2
    have hs12 : w1.heap.size < w2.heap.size := Nat.lt_of_lt_of_le hszo hb2.size
    clear hw2 ho2 hb2 z0 z1 z2 z3 f0 f1 f2 f3 hwo HZo HBo hszo
    obtain ⟨jb, hjb⟩ : ∃ jb, w1.heap.size = jb := ⟨_, rfl⟩
    rw [hjb] at hz2 HZ2 hs12 ⊢
    have HJB : Hid (ws.heap.size ≤ jb) := by rw [← hjb]; exact HB1.out.size
    have j0 := cell_blk hz2 0 rfl
    have j1 := cell_blk hz2 1 rfl
    have j2 := cell_blk hz2 2 rfl
    have j3 := cell_blk hz2 3 rfl
    clear hz2 hjb
    go_wp2_with fail
    go_ret2
    exact ⟨_, rfl, by rw [HSP.out]; exact (OwnI.nil 0 _).li (by simp), fin HB.out HB2.out⟩

end Go.Proofs.Ytffnlimgjnhmpaa
