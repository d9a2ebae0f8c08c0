/-
  From data to memory and back: what a law's arguments are in a world, and what is left of them behind a call that turned nothing below the heap's old size.
-/
import Derived.Test.YtffnlimgjnhmpaaJBase
import Derived.Test.YtffnlimgjnhmpaaRows
import Derived.ProofKit
import Derived.OpenShut
import Derived.Carry
import Derived.ChangeSame
import Derived.SizedLaws
import Derived.Deep.Slices
namespace Go.Proofs.Ytffnlimgjnhmpaa
open Go.RowKit Go.WideShapes Go.ChangeShapes Go.WideElems

section
variable {H : Type} {enc : TypeId × Value → H} {P : Program}

theorem trodAll_lt : ∀ {ts : List TypeId} {w : World} {b : Nat} {sp : Nat → Bool} {hd : Bool} {vs : List Value} {ds : List (DataW H)} {ps : List MemPlace}, DataW.TrodAll enc P w b sp hd ts vs ds ps → ds.length = ts.length ∧ vs.length = ts.length
  | [], _, _, _, _, [], [], _, _ => ⟨rfl, rfl⟩
  | [], _, _, _, _, [], _ :: _, _, h => h.elim
  | [], _, _, _, _, _ :: _, _, _, h => h.elim
  | _ :: _, _, _, _, _, [], _, _, h => h.elim
  | _ :: _, _, _, _, _, _ :: _, [], _, h => h.elim
  | _ :: ts, _, _, _, _, _ :: _, _ :: _, _, h => by
    obtain ⟨_, _, _, h2, _⟩ := h
    have := trodAll_lt h2
    simp [this.1, this.2]

theorem trodAll_stays (hl : laidOutB P = true) {W W' : World} {sp' : Nat → Bool} : ∀ {ts : List TypeId} {vs : List Value} {ds : List (DataW H)} {ps : List MemPlace}, (∀ t ∈ ts, P.readableRec t = true ∧ t < P.types.size) →
    DataW.TrodAll enc P W 0 (fun _ => true) true ts vs ds ps → (∀ p ∈ ps, W.sameAt W' p) → (∀ p ∈ ps, sp' p.block = true) → DataW.TrodAll enc P W' 0 sp' true ts vs ds ps
  | [], [], [], _, _, h, _, _ => h
  | [], [], _ :: _, _, _, h, _, _ => h.elim
  | [], _ :: _, _, _, _, h, _, _ => h.elim
  | _ :: _, [], _, _, _, h, _, _ => h.elim
  | _ :: _, _ :: _, [], _, _, h, _, _ => h.elim
  | t :: ts, v :: vs, d :: ds, ps, hr, h, hs, hp => by
    obtain ⟨p, q, h1, h2, rfl⟩ := h
    have ht := hr t (by simp)
    exact ⟨p, q, Trod_stays hl ht.1 ht.2 h1 (fun x hx => hs x (by simp [hx])) (fun x hx => hp x (by simp [hx])),
      trodAll_stays hl (fun u hu => hr u (by simp [hu])) h2 (fun x hx => hs x (by simp [hx])) (fun x hx => hp x (by simp [hx])), rfl⟩

theorem law_post {f : Func} {s : ChangeSpec} {apart fresh handsOn again : Bool} {W W' : World} {args : Array Value} {ds gs : List (DataW H)} {before : List MemPlace} {tb : TypeId}
    (hl : laidOutB P = true) (hrd : (f.params.toList.all fun t => P.readableRec t && decide (t < P.types.size)) = true) (hvars : s.vars = []) (hgs : gs = [])
    (hfn : s.fn H ds = { results := [.lit (.bool true)], args := ds }) (hrt : f.resultTypes = #[tb]) (hub : P.underlying tb = some .bool)
    (hW : DataW.Whole enc P f.params.toList s.vars apart W args.toList ds gs before) (hb : Below W.heap.size W W') :
    s.post enc P f apart fresh handsOn again W args (.bool true) W' := by
  subst hgs
  have hlt : ∀ p ∈ before, p.block < W.heap.size := fun p hp => hW.lt p hp
  have hold : ∀ p ∈ before, (fun b => decide (b < W.heap.size)) p.block = true := fun p hp => by simpa using hlt p hp
  have hWW := hW
  obtain ⟨p, q, hA, hV, rfl, hz, hn⟩ := hWW
  rw [hvars] at hV
  obtain ⟨_, rfl⟩ := trodVars_none hV
  simp only [List.append_nil] at hlt hold hz hn hW
  have hrd' : ∀ t ∈ f.params.toList, P.readableRec t = true ∧ t < P.types.size := fun t ht => by
    have := List.all_eq_true.1 hrd t ht
    simpa using this
  have hargs : ∀ sp : Nat → Bool, (∀ x ∈ p, sp x.block = true) → DataW.TrodAll enc P W' 0 sp true f.params.toList args.toList ds p := fun sp hsp =>
    trodAll_stays hl hrd' hA (fun x hx => hb.same (hlt x hx)) hsp
  have hres : ∀ (b : Nat) (sp : Nat → Bool) (hd : Bool), DataW.TrodAll enc P W' b sp hd f.resultTypes.toList ((Value.bool true).resultList f.resultTypes.size) [.lit (.bool true)] [] := fun b sp hd => by
    rw [hrt]
    exact trodAll_cons_mk (shut_bool hub _) trodAll_mk0
  have hfn' : s.fn H (ds ++ []) = { results := [.lit (.bool true)], args := ds } := by rw [List.append_nil]; exact hfn
  refine ⟨ds, [], p, [], p, [], hW, ?_, ?_, ?_, World.keptBut_mono (fun x hx => ⟨hx, Or.inr (Or.inl hx)⟩) (hb.frame (· ∈ p)), fun _ => ?_⟩
  · rw [hfn']; exact hres _ _ _
  · rw [hfn']; exact hargs _ hold
  · rw [hfn', hvars]; exact rfl
  · refine ⟨ok_one hrt rfl (okWide_bool_mk hub _), [.lit (.bool true)] ++ ds, [], ([] ++ p) ++ [], ⟨[] ++ p, [], ?_, ?_, rfl, ?_, ?_⟩, ?_⟩
    · exact trodAll_append (hargs _ (fun _ _ => rfl)) (hres _ _ _)
    · rw [hvars]; exact rfl
    · intro b off hp
      have hin : MemPlace.cell b off ∈ p := by simpa using hp
      rw [hb.frozen (hlt _ hin)]
      exact hz b off hin
    · intro ha
      simpa using hn ha
    · intro x hx _
      simpa using hx

theorem weightsAll_mem {t : TypeId} : ∀ {l : List (DataW H)} {d : DataW H}, d ∈ l → ∀ n ∈ d.weights P t, n ∈ DataW.weightsAll P t l
  | [], _, h, _, _ => by cases h
  | x :: l, d, h, n, hn => by
    simp only [DataW.weightsAll, List.mem_append]
    rcases List.mem_cons.1 h with rfl | h
    · exact Or.inl hn
    · exact Or.inr (weightsAll_mem h n hn)

theorem weightsEach_mem {ts : List TypeId} {ds : List (DataW H)} {j : Nat} {t : TypeId} {d : DataW H} (ht : ts[j]? = some t) (hd : ds[j]? = some d) : ∀ n ∈ d.weights P t, n ∈ DataW.weightsEach P ts ds :=
  DataW.weights_mem_each ht hd

/-- A slice, opened at every index: 'E x r' says what a cell r holds. -/
theorem open_list {α : Type} [Inhabited α] (E : α → Value → Prop) {w : World} {t e : TypeId} {held : Bool} {fuel : Nat} {cs : List Value} {d : DataW H} {ps : List MemPlace}
    (ht : P.underlying t = some (.slice e)) (ce : P.cellsOf e = 1) (he : 1 ≤ P.bytesOf e)
    (h : DataW.trod enc P w 0 (fun _ => true) held fuel t cs = some (d, ps)) (hw : ∀ n ∈ d.weights P t, n ≤ reachBytes) (hlt : ∀ p ∈ ps, p.block < w.heap.size)
    (hE : ∀ V D Pl m, DataW.trod enc P w 0 (fun _ => true) held m e [V] = some (D, Pl) → (∀ n ∈ D.weights P e, n ≤ reachBytes) → (∀ p ∈ Pl, p.block < w.heap.size) → ∃ x, E x V) :
    ∃ ao n cap, ∃ X : Nat → α, cs = [.slice ao n cap] ∧ ListAt w.heap.size w (fun i r => E (X i) r) (.slice ao n cap) n := by
  rcases Deep.open_slice1 ht ce h with ⟨rfl, hx⟩ | ⟨a, len, cap, m, k, V, D, Pl, rfl, hb, hl, hm, hmm, hx, hcell⟩
  · exact ⟨none, 0, 0, fun _ => default, rfl, none, 0, rfl, by decide, fun h0 => absurd h0 (Nat.lt_irrefl 0)⟩
  · simp only [if_true] at hmm
    subst hmm
    simp only [Prod.mk.injEq] at hx
    obtain ⟨rfl, rfl⟩ := hx
    have h1 : (len + (m - len)) * P.bytesOf e ≤ reachBytes := hw _ (by simp [DataW.weights, ht])
    have h2 : m ≤ 140737488351232 := by
      have e1 : len + (m - len) = m := by omega
      rw [e1] at h1
      have e2 : m * 1 ≤ m * P.bytesOf e := Nat.mul_le_mul_left _ he
      have e3 : reachBytes = 140737488351232 := rfl
      omega
    have each : ∀ i, i < len → ∃ x, E x (V i) := fun i hi => by
      obtain ⟨_, c2⟩ := hcell i (by omega)
      refine hE _ _ _ _ c2 (fun n hn => hw n ?_) (fun p hp => hlt p ?_)
      · simp only [DataW.weights, ht, List.mem_cons, List.mem_append]
        exact Or.inr (Or.inl (weightsAll_mem (List.mem_map.2 ⟨i, by simpa using hi, rfl⟩) n hn))
      · simp only [List.mem_append, List.mem_flatMap, List.mem_range]
        exact Or.inr ⟨i, by omega, hp⟩
    obtain ⟨X, hX⟩ := Deep.choose_lt each
    refine ⟨some a, len, m, X, rfl, some a, m, rfl, by omega, fun h0 => ?_⟩
    have hsp : a.spot = none := by
      have := (hcell 0 (by omega)).1
      have e0 : a.add 0 = a := rfl
      rw [e0] at this
      unfold World.cell? at this
      split at this
      · split at this
        · cases this
        · rename_i hs; cases hh : a.spot with
          | none => rfl
          | some _ => simp [hh] at hs
      · cases this
    obtain ⟨b, off, spot⟩ := a
    simp only at hsp
    subst hsp
    refine ⟨b, off, rfl, hlt (.cell b (off + 0)) ?_, fun i hi => ⟨V i, ?_, hX i hi⟩⟩
    · simp only [List.mem_append, MemPlace.row, List.mem_map, List.mem_range]
      exact Or.inl ⟨0, by omega, rfl⟩
    · have := (hcell i (by omega)).1
      have e : (⟨b, off, none⟩ : Addr).add i = ⟨b, off + i, none⟩ := by unfold Addr.add; split <;> simp_all
      rwa [e] at this

theorem open_ints' {w : World} {t e : TypeId} {held : Bool} {fuel : Nat} {cs : List Value} {d : DataW H} {ps : List MemPlace}
    (ht : P.underlying t = some (.slice e)) (hi : P.underlying e = some (.int .i64)) (ce : P.cellsOf e = 1) (he : 1 ≤ P.bytesOf e)
    (h : DataW.trod enc P w 0 (fun _ => true) held fuel t cs = some (d, ps)) (hw : ∀ n ∈ d.weights P t, n ≤ reachBytes) (hlt : ∀ p ∈ ps, p.block < w.heap.size) :
    ∃ ao n cap X, cs = [.slice ao n cap] ∧ IntsAt w.heap.size w (.slice ao n cap) n X :=
  open_list (fun (x : Int) r => r = .int .i64 x) ht ce he h hw hlt fun V D Pl m hv _ _ => by
    obtain ⟨n, h1, _⟩ := DataW.trod_int hi hv
    exact ⟨n, by simpa using h1⟩

theorem open_rows {w : World} {t e q : TypeId} {held : Bool} {fuel : Nat} {cs : List Value} {d : DataW H} {ps : List MemPlace}
    (ht : P.underlying t = some (.slice e)) (hq : P.underlying e = some (.slice q)) (hi : P.underlying q = some (.int .i64)) (ce : P.cellsOf e = 1) (he : 1 ≤ P.bytesOf e) (cq : P.cellsOf q = 1) (hb : 1 ≤ P.bytesOf q)
    (h : DataW.trod enc P w 0 (fun _ => true) held fuel t cs = some (d, ps)) (hw : ∀ n ∈ d.weights P t, n ≤ reachBytes) (hlt : ∀ p ∈ ps, p.block < w.heap.size) :
    ∃ ao n cap L X, cs = [.slice ao n cap] ∧ RowsAt w.heap.size w (.slice ao n cap) n L X := by
  obtain ⟨ao, n, cap, X, hcs, hl⟩ := open_list (fun (x : Nat × (Nat → Int)) r => IntsAt w.heap.size w r x.1 x.2) ht ce he h hw hlt fun V D Pl m hv h1 h2 => by
    obtain ⟨a, n, c, X, e1, e2⟩ := open_ints' hq hi cq hb hv h1 h2
    obtain rfl : V = .slice a n c := by simpa using e1
    exact ⟨(n, X), e2⟩
  exact ⟨ao, n, cap, fun i => (X i).1, fun i => (X i).2, hcs, hl⟩

end
end Go.Proofs.Ytffnlimgjnhmpaa
