/-
  JTrn2: a show whose judges and plates come later by some, the first ones last; who decides then (no memory).
-/
import Derived.Test.YtffnlimgjnhmpaaJTrn
namespace Go.Proofs.Ytffnlimgjnhmpaa

def shf (a n i : Nat) : Nat := (i + a) % n
def shb (a n j : Nat) : Nat := (j + (n - a % n)) % n
theorem md2 {x n : Nat} (h : x < 2 * n) : x % n = if x < n then x else x - n := by
  split
  · rename_i h1; exact Nat.mod_eq_of_lt h1
  · rename_i h1
    rw [Nat.mod_eq_sub_mod (by omega), Nat.mod_eq_of_lt (by omega)]
theorem shf_eq {a n i : Nat} (hi : i < n) : shf a n i = if i + a % n < n then i + a % n else i + a % n - n := by
  have h := Nat.mod_lt a (show 0 < n by omega)
  unfold shf
  rw [Nat.add_mod, Nat.mod_eq_of_lt hi, md2 (by omega)]
theorem shb_eq {a n j : Nat} (hj : j < n) : shb a n j = if a % n ≤ j then j - a % n else j + n - a % n := by
  have h := Nat.mod_lt a (show 0 < n by omega)
  unfold shb
  by_cases h0 : a % n = 0
  · rw [h0, Nat.sub_zero, md2 (by omega)]
    split <;> split <;> omega
  · rw [md2 (by omega)]
    split <;> split <;> omega
theorem shf_lt {a n i : Nat} (hi : i < n) : shf a n i < n := Nat.mod_lt _ (by omega)
theorem shb_lt {a n j : Nat} (hj : j < n) : shb a n j < n := Nat.mod_lt _ (by omega)
theorem shf_inj {a n i j : Nat} (hi : i < n) (hj : j < n) (h : shf a n i = shf a n j) : i = j := by
  have h1 := Nat.mod_lt a (show 0 < n by omega)
  rw [shf_eq hi, shf_eq hj] at h
  split at h <;> split at h <;> omega
theorem shb_inj {a n i j : Nat} (hi : i < n) (hj : j < n) (h : shb a n i = shb a n j) : i = j := by
  have h1 := Nat.mod_lt a (show 0 < n by omega)
  rw [shb_eq hi, shb_eq hj] at h
  split at h <;> split at h <;> omega
theorem shf_shb {a n j : Nat} (hj : j < n) : shf a n (shb a n j) = j := by
  have h1 := Nat.mod_lt a (show 0 < n by omega)
  rw [shf_eq (shb_lt hj), shb_eq hj]
  split <;> split <;> omega
theorem shb_shf {a n i : Nat} (hi : i < n) : shb a n (shf a n i) = i := by
  have h1 := Nat.mod_lt a (show 0 < n by omega)
  rw [shb_eq (shf_lt hi), shf_eq hi]
  split <;> split <;> omega
/-- a row whose numbers come later by b, and the first ones last -/
def rotL (b : Nat) (l : List Int) : List Int := (List.range l.length).map fun j => l.getD (shb b l.length j) 0
theorem rotL_len (b : Nat) (l : List Int) : (rotL b l).length = l.length := by simp [rotL]
theorem rotL_at (b : Nat) {l : List Int} {j : Nat} (hj : j < l.length) : (rotL b l).getD j 0 = l.getD (shb b l.length j) 0 := by
  unfold rotL
  rw [List.getD_eq_getElem?_getD, List.getElem?_map, List.getElem?_range hj]; rfl
theorem list_range (l : List Int) : (List.range l.length).map (fun j => l.getD j 0) = l := by
  apply List.ext_getElem
  · simp
  · intro i h1 h2
    simp [List.getD, List.getElem?_eq_getElem h2]
theorem rotL_perm (b : Nat) (l : List Int) : (rotL b l).Perm l := by
  have h := range_turn (n := l.length) (f := shb b l.length) (g := shf b l.length) (fun i hi => shb_lt hi) (fun i j hi hj e => shb_inj hi hj e) (fun j hj => ⟨shf_lt hj, shb_shf hj⟩)
  have h2 := h.map fun j => l.getD j 0
  rw [List.map_map, list_range] at h2
  exact h2
theorem erase_perm {l : List Int} {i : Nat} (h : i < l.length) : (l[i] :: l.eraseIdx i).Perm l := by
  rw [List.eraseIdx_eq_take_drop_succ]
  have e : l = l.take i ++ l[i] :: l.drop (i + 1) := by rw [List.getElem_cons_drop, List.take_append_drop]
  conv => rhs; rw [e]
  exact List.perm_middle.symm
theorem rotL_erase {b k : Nat} {l : List Int} (hk : k < l.length) : ((rotL b l).eraseIdx (shf b l.length k)).Perm (l.eraseIdx k) := by
  have hs : shf b l.length k < (rotL b l).length := by rw [rotL_len]; exact shf_lt hk
  have h1 := erase_perm hs
  have h2 := erase_perm hk
  have e : (rotL b l)[shf b l.length k] = l[k] := by
    have := rotL_at b (l := l) (j := shf b l.length k) (shf_lt hk)
    rw [shb_shf hk, List.getD_eq_getElem?_getD, List.getElem?_eq_getElem hs, List.getD_eq_getElem?_getD, List.getElem?_eq_getElem hk] at this
    exact this
  rw [e] at h1
  exact (h1.trans ((rotL_perm b l).trans h2.symm)).cons_inv
/-- the show in another order -/
def turnS (S : JB) (a b : Nat) : JB := { S with sz := fun j => S.sz (shb a S.np j), pts := fun j => rotL b (S.pts (shb a S.np j)) }
theorem turn_trn (S : JB) (a b : Nat) : Trn S (turnS S a b) (shf a S.np) (shb a S.np) :=
  ⟨rfl, rfl, rfl, rfl, fun i hi => shf_lt hi, fun i j hi hj e => shf_inj hi hj e, fun j hj => ⟨shb_lt hj, shf_shb hj⟩,
    fun i hi => by show S.sz (shb a S.np (shf a S.np i)) = _; rw [shb_shf hi],
    fun i hi => by show (rotL b (S.pts (shb a S.np (shf a S.np i)))).Perm _; rw [shb_shf hi]; exact rotL_perm b _⟩
theorem turn_without {S : JB} (hG : GoodS S) (a b : Nat) {k n : Nat} (hn : S.J = n) (hk : k < n) : Trn (withoutJ S k) (withoutJ (turnS S a b) (shf b n k)) (shf a S.np) (shb a S.np) :=
  ⟨rfl, rfl, rfl, rfl, fun i hi => shf_lt hi, fun i j hi hj e => shf_inj hi hj e, fun j hj => ⟨shb_lt hj, shf_shb hj⟩,
    fun i hi => by show S.sz (shb a S.np (shf a S.np i)) = S.sz i; rw [shb_shf (show i < S.np from hi)],
    fun i hi => by
      show ((rotL b (S.pts (shb a S.np (shf a S.np i)))).eraseIdx (shf b n k)).Perm ((S.pts i).eraseIdx k)
      rw [shb_shf (show i < S.np from hi)]
      have hl : (S.pts i).length = n := by have := hG.len i hi; omega
      have := rotL_erase (b := b) (k := k) (l := S.pts i) (by omega)
      rw [hl] at this
      exact this⟩
/-- who decides, in a list -/
def dcP (S : JB) (k : Nat) : Bool := !decide (getL (withoutJ S k) = getL S)
theorem dec_turn {S : JB} (hG : GoodS S) (a b : Nat) {k n : Nat} (hn : S.J = n) (hk : k < n) : dcP (turnS S a b) (shf b n k) = dcP S k := by
  unfold dcP
  rw [(turn_trn S a b).same (turn_without hG a b hn hk) rfl]
theorem dec_len {S : JB} (hG : GoodS S) (a b : Nat) : (dec (turnS S a b)).length = (dec S).length := by
  obtain ⟨n, hn⟩ : ∃ n : Nat, S.J = n := ⟨S.J.toNat, by have := hG.J1; omega⟩
  show (sel (dcP (turnS S a b)) S.J.toNat).length = (sel (dcP S) S.J.toNat).length
  rw [sel_cnt, sel_cnt, show S.J.toNat = n by omega]
  exact cnt_turn (f := shf b n) (g := shb b n) (fun i hi => shf_lt hi) (fun i j hi hj e => shf_inj hi hj e) (fun j hj => ⟨shb_lt hj, shf_shb hj⟩) fun i hi => dec_turn hG a b hn hi
theorem dec_mem {S : JB} (hG : GoodS S) (a b : Nat) {x : Int} (hx : x ∈ dec S) : ∃ k n : Nat, x = k ∧ S.J = n ∧ k < n ∧ ((shf b n k : Nat) : Int) ∈ dec (turnS S a b) := by
  obtain ⟨n, hn⟩ : ∃ n : Nat, S.J = n := ⟨S.J.toNat, by have := hG.J1; omega⟩
  have hx' : x ∈ sel (dcP S) S.J.toNat := hx
  rw [mem_sel] at hx'
  obtain ⟨k, hk, hp, rfl⟩ := hx'
  have hkn : k < n := by omega
  refine ⟨k, n, rfl, hn, hkn, ?_⟩
  show _ ∈ sel (dcP (turnS S a b)) S.J.toNat
  rw [mem_sel]
  exact ⟨shf b n k, by have := shf_lt (a := b) hkn; omega, by rw [dec_turn hG a b hn hkn]; exact hp, rfl⟩

end Go.Proofs.Ytffnlimgjnhmpaa
