/-
  No cell of these rows narrows 'for every input' (looked for: loops, veiled, ifaces, maps, wideKeys, modest, calm, conditions, laid).
  DERIVED. THE GIVEN ROWS OF THIS SEAT. 12 by the template 'for every input the law returns true; each argument reads behind the call as it read before'; 0 by the template 'total and deterministic' (their statements: YtbieglmpkljjjaaTotals.lean).
  GIVEN WITH THE SEED: the statements are not yours to turn. If you find one false, say at which input.
  Laid BY PROGRAM, IN A SANDBOX (cutbox-rows.mjs): the forced cells as the released guide's own fill.sh prints them over the translation e58120ee6ac8172c… (all of the seat's roots in one cut). By AI agents, Wed Nov 11 2026. No macro, syntax, notation, axiom, sorry.
-/
import Derived.Test.YtbieglmpkljjjaaChecked
import GoSem.Claim
import GoSem.ClaimJoined
import GoSem.ClaimMapViews
import Derived.JoinedTies
import Derived.KernelRfl
namespace Go.Proofs.Ytbieglmpkljjjaa
/- THE CELL 'sum', in the pinned program and in every row, IS THE sha256 OF THE DUMP (.gsa) THAT YtbieglmpkljjjaaProg.lean LOADS. Nothing in Lean hashes anything: it is a label: what it is worth is what the hold of that sum in a sandbox is worth. -/
noncomputable def Try.pinned : Pinned := { name := "ytbieglmpkljjjaa", sum := "e58120ee6ac8172ceb960ad3c3245c1d65975b9945e67572222b9368e894866a", checked := Try.checked }
namespace Rows
def none {H : Type} : Left H := { results := [], args := [] }

/-- 'pippinlaw02.KeysEach': WHATEVER THE INPUT: true; the input reads as it did. -/
def keysEachSpec : ChangeSpec := { name := "keysEach", fn := fun _ => fun
  | [d1, d2] => { results := [.lit (.bool true)], args := [d1, d2] }
  | _ => none }
def keysEachRow : OpenClaim := { program := "ytbieglmpkljjjaa", sum := "e58120ee6ac8172ceb960ad3c3245c1d65975b9945e67572222b9368e894866a", func := "pippin/pippinlaw02.KeysEach", spec := "keysEach", unfollowed := true, recurses := true, plainKeys := false, apart := false }
def KeysEachSaid : Prop := keysEachRow.holds Try.pinned (OpenSpec.ofChange keysEachSpec)

/-- ITS FALSE NEIGHBOUR: 'it returns false'. Refute it at one input. -/
def keysEachWrong : ChangeSpec := { name := "keysEach", fn := fun _ => fun
  | [d1, d2] => { results := [.lit (.bool false)], args := [d1, d2] }
  | _ => none }
def KeysEachWrongFalsely : Prop := keysEachRow.holds Try.pinned (OpenSpec.ofChange keysEachWrong)

/-- 'pippinlaw02.KeysTwice': WHATEVER THE INPUT: true; the input reads as it did. -/
def keysTwiceSpec : ChangeSpec := { name := "keysTwice", fn := fun _ => fun
  | [d1, d2] => { results := [.lit (.bool true)], args := [d1, d2] }
  | _ => none }
def keysTwiceRow : OpenClaim := { program := "ytbieglmpkljjjaa", sum := "e58120ee6ac8172ceb960ad3c3245c1d65975b9945e67572222b9368e894866a", func := "pippin/pippinlaw02.KeysTwice", spec := "keysTwice", unfollowed := true, recurses := true, plainKeys := false, apart := false }
def KeysTwiceSaid : Prop := keysTwiceRow.holds Try.pinned (OpenSpec.ofChange keysTwiceSpec)

/-- ITS FALSE NEIGHBOUR: 'it returns false'. Refute it at one input. -/
def keysTwiceWrong : ChangeSpec := { name := "keysTwice", fn := fun _ => fun
  | [d1, d2] => { results := [.lit (.bool false)], args := [d1, d2] }
  | _ => none }
def KeysTwiceWrongFalsely : Prop := keysTwiceRow.holds Try.pinned (OpenSpec.ofChange keysTwiceWrong)

/-- 'pippinlaw02.KeysDeep': WHATEVER THE INPUT: true; the input reads as it did. -/
def keysDeepSpec : ChangeSpec := { name := "keysDeep", fn := fun _ => fun
  | [d] => { results := [.lit (.bool true)], args := [d] }
  | _ => none }
def keysDeepRow : OpenClaim := { program := "ytbieglmpkljjjaa", sum := "e58120ee6ac8172ceb960ad3c3245c1d65975b9945e67572222b9368e894866a", func := "pippin/pippinlaw02.KeysDeep", spec := "keysDeep", unfollowed := true, recurses := true, plainKeys := false, apart := false }
def KeysDeepSaid : Prop := keysDeepRow.holds Try.pinned (OpenSpec.ofChange keysDeepSpec)

/-- ITS FALSE NEIGHBOUR: 'it returns false'. Refute it at one input. -/
def keysDeepWrong : ChangeSpec := { name := "keysDeep", fn := fun _ => fun
  | [d] => { results := [.lit (.bool false)], args := [d] }
  | _ => none }
def KeysDeepWrongFalsely : Prop := keysDeepRow.holds Try.pinned (OpenSpec.ofChange keysDeepWrong)

/-- 'pippinlaw02.KeysMade': WHATEVER THE INPUT: true; the input reads as it did. -/
def keysMadeSpec : ChangeSpec := { name := "keysMade", fn := fun _ => fun
  | [d1, d2] => { results := [.lit (.bool true)], args := [d1, d2] }
  | _ => none }
def keysMadeRow : OpenClaim := { program := "ytbieglmpkljjjaa", sum := "e58120ee6ac8172ceb960ad3c3245c1d65975b9945e67572222b9368e894866a", func := "pippin/pippinlaw02.KeysMade", spec := "keysMade", unfollowed := true, recurses := true, plainKeys := false, apart := false }
def KeysMadeSaid : Prop := keysMadeRow.holds Try.pinned (OpenSpec.ofChange keysMadeSpec)

/-- ITS FALSE NEIGHBOUR: 'it returns false'. Refute it at one input. -/
def keysMadeWrong : ChangeSpec := { name := "keysMade", fn := fun _ => fun
  | [d1, d2] => { results := [.lit (.bool false)], args := [d1, d2] }
  | _ => none }
def KeysMadeWrongFalsely : Prop := keysMadeRow.holds Try.pinned (OpenSpec.ofChange keysMadeWrong)

/-- 'pippinlaw02.KeysLess': WHATEVER THE INPUT: true; the input reads as it did. -/
def keysLessSpec : ChangeSpec := { name := "keysLess", fn := fun _ => fun
  | [d1, d2, d3] => { results := [.lit (.bool true)], args := [d1, d2, d3] }
  | _ => none }
def keysLessRow : OpenClaim := { program := "ytbieglmpkljjjaa", sum := "e58120ee6ac8172ceb960ad3c3245c1d65975b9945e67572222b9368e894866a", func := "pippin/pippinlaw02.KeysLess", spec := "keysLess", unfollowed := true, recurses := true, plainKeys := false, apart := false }
def KeysLessSaid : Prop := keysLessRow.holds Try.pinned (OpenSpec.ofChange keysLessSpec)

/-- ITS FALSE NEIGHBOUR: 'it returns false'. Refute it at one input. -/
def keysLessWrong : ChangeSpec := { name := "keysLess", fn := fun _ => fun
  | [d1, d2, d3] => { results := [.lit (.bool false)], args := [d1, d2, d3] }
  | _ => none }
def KeysLessWrongFalsely : Prop := keysLessRow.holds Try.pinned (OpenSpec.ofChange keysLessWrong)

/-- 'pippinlaw02.KeysOrder': WHATEVER THE INPUT: true; the input reads as it did. -/
def keysOrderSpec : ChangeSpec := { name := "keysOrder", fn := fun _ => fun
  | [d1, d2, d3] => { results := [.lit (.bool true)], args := [d1, d2, d3] }
  | _ => none }
def keysOrderRow : OpenClaim := { program := "ytbieglmpkljjjaa", sum := "e58120ee6ac8172ceb960ad3c3245c1d65975b9945e67572222b9368e894866a", func := "pippin/pippinlaw02.KeysOrder", spec := "keysOrder", unfollowed := true, recurses := true, plainKeys := false, apart := false }
def KeysOrderSaid : Prop := keysOrderRow.holds Try.pinned (OpenSpec.ofChange keysOrderSpec)

/-- ITS FALSE NEIGHBOUR: 'it returns false'. Refute it at one input. -/
def keysOrderWrong : ChangeSpec := { name := "keysOrder", fn := fun _ => fun
  | [d1, d2, d3] => { results := [.lit (.bool false)], args := [d1, d2, d3] }
  | _ => none }
def KeysOrderWrongFalsely : Prop := keysOrderRow.holds Try.pinned (OpenSpec.ofChange keysOrderWrong)

/-- 'pippinlaw02.KeysWalk': WHATEVER THE INPUT: true; the input reads as it did. -/
def keysWalkSpec : ChangeSpec := { name := "keysWalk", fn := fun _ => fun
  | [d1, d2, d3] => { results := [.lit (.bool true)], args := [d1, d2, d3] }
  | _ => none }
def keysWalkRow : OpenClaim := { program := "ytbieglmpkljjjaa", sum := "e58120ee6ac8172ceb960ad3c3245c1d65975b9945e67572222b9368e894866a", func := "pippin/pippinlaw02.KeysWalk", spec := "keysWalk", unfollowed := true, recurses := true, plainKeys := false, apart := false }
def KeysWalkSaid : Prop := keysWalkRow.holds Try.pinned (OpenSpec.ofChange keysWalkSpec)

/-- ITS FALSE NEIGHBOUR: 'it returns false'. Refute it at one input. -/
def keysWalkWrong : ChangeSpec := { name := "keysWalk", fn := fun _ => fun
  | [d1, d2, d3] => { results := [.lit (.bool false)], args := [d1, d2, d3] }
  | _ => none }
def KeysWalkWrongFalsely : Prop := keysWalkRow.holds Try.pinned (OpenSpec.ofChange keysWalkWrong)

/-- 'pippinlaw02.KeysRight': WHATEVER THE INPUT: true; the input reads as it did. -/
def keysRightSpec : ChangeSpec := { name := "keysRight", fn := fun _ => fun
  | [d] => { results := [.lit (.bool true)], args := [d] }
  | _ => none }
def keysRightRow : OpenClaim := { program := "ytbieglmpkljjjaa", sum := "e58120ee6ac8172ceb960ad3c3245c1d65975b9945e67572222b9368e894866a", func := "pippin/pippinlaw02.KeysRight", spec := "keysRight", unfollowed := true, recurses := true, plainKeys := false, apart := false }
def KeysRightSaid : Prop := keysRightRow.holds Try.pinned (OpenSpec.ofChange keysRightSpec)

/-- ITS FALSE NEIGHBOUR: 'it returns false'. Refute it at one input. -/
def keysRightWrong : ChangeSpec := { name := "keysRight", fn := fun _ => fun
  | [d] => { results := [.lit (.bool false)], args := [d] }
  | _ => none }
def KeysRightWrongFalsely : Prop := keysRightRow.holds Try.pinned (OpenSpec.ofChange keysRightWrong)

/-- 'pippinlaw02.KeysShort': WHATEVER THE INPUT: true; the input reads as it did. -/
def keysShortSpec : ChangeSpec := { name := "keysShort", fn := fun _ => fun
  | [d1, d2, d3] => { results := [.lit (.bool true)], args := [d1, d2, d3] }
  | _ => none }
def keysShortRow : OpenClaim := { program := "ytbieglmpkljjjaa", sum := "e58120ee6ac8172ceb960ad3c3245c1d65975b9945e67572222b9368e894866a", func := "pippin/pippinlaw02.KeysShort", spec := "keysShort", unfollowed := true, recurses := true, plainKeys := false, apart := false }
def KeysShortSaid : Prop := keysShortRow.holds Try.pinned (OpenSpec.ofChange keysShortSpec)

/-- ITS FALSE NEIGHBOUR: 'it returns false'. Refute it at one input. -/
def keysShortWrong : ChangeSpec := { name := "keysShort", fn := fun _ => fun
  | [d1, d2, d3] => { results := [.lit (.bool false)], args := [d1, d2, d3] }
  | _ => none }
def KeysShortWrongFalsely : Prop := keysShortRow.holds Try.pinned (OpenSpec.ofChange keysShortWrong)

/-- 'pippinlaw02.KeysBest': WHATEVER THE INPUT: true; the input reads as it did. -/
def keysBestSpec : ChangeSpec := { name := "keysBest", fn := fun _ => fun
  | [d] => { results := [.lit (.bool true)], args := [d] }
  | _ => none }
def keysBestRow : OpenClaim := { program := "ytbieglmpkljjjaa", sum := "e58120ee6ac8172ceb960ad3c3245c1d65975b9945e67572222b9368e894866a", func := "pippin/pippinlaw02.KeysBest", spec := "keysBest", unfollowed := true, recurses := true, plainKeys := false, apart := false }
def KeysBestSaid : Prop := keysBestRow.holds Try.pinned (OpenSpec.ofChange keysBestSpec)

/-- ITS FALSE NEIGHBOUR: 'it returns false'. Refute it at one input. -/
def keysBestWrong : ChangeSpec := { name := "keysBest", fn := fun _ => fun
  | [d] => { results := [.lit (.bool false)], args := [d] }
  | _ => none }
def KeysBestWrongFalsely : Prop := keysBestRow.holds Try.pinned (OpenSpec.ofChange keysBestWrong)

/-- 'pippintop.TopKeyed': WHATEVER THE INPUT: true; the input reads as it did. -/
def topKeyedSpec : ChangeSpec := { name := "topKeyed", fn := fun _ => fun
  | [d1, d2] => { results := [.lit (.bool true)], args := [d1, d2] }
  | _ => none }
def topKeyedRow : OpenClaim := { program := "ytbieglmpkljjjaa", sum := "e58120ee6ac8172ceb960ad3c3245c1d65975b9945e67572222b9368e894866a", func := "pippin/pippintop.TopKeyed", spec := "topKeyed", unfollowed := true, recurses := true, plainKeys := false, apart := false }
def TopKeyedSaid : Prop := topKeyedRow.holds Try.pinned (OpenSpec.ofChange topKeyedSpec)

/-- ITS FALSE NEIGHBOUR: 'it returns false'. Refute it at one input. -/
def topKeyedWrong : ChangeSpec := { name := "topKeyed", fn := fun _ => fun
  | [d1, d2] => { results := [.lit (.bool false)], args := [d1, d2] }
  | _ => none }
def TopKeyedWrongFalsely : Prop := topKeyedRow.holds Try.pinned (OpenSpec.ofChange topKeyedWrong)

/-- 'pippintop.TopAsked': WHATEVER THE INPUT: true; the input reads as it did. -/
def topAskedSpec : ChangeSpec := { name := "topAsked", fn := fun _ => fun
  | [d] => { results := [.lit (.bool true)], args := [d] }
  | _ => none }
def topAskedRow : OpenClaim := { program := "ytbieglmpkljjjaa", sum := "e58120ee6ac8172ceb960ad3c3245c1d65975b9945e67572222b9368e894866a", func := "pippin/pippintop.TopAsked", spec := "topAsked", unfollowed := true, recurses := true, plainKeys := false, apart := false }
def TopAskedSaid : Prop := topAskedRow.holds Try.pinned (OpenSpec.ofChange topAskedSpec)

/-- ITS FALSE NEIGHBOUR: 'it returns false'. Refute it at one input. -/
def topAskedWrong : ChangeSpec := { name := "topAsked", fn := fun _ => fun
  | [d] => { results := [.lit (.bool false)], args := [d] }
  | _ => none }
def TopAskedWrongFalsely : Prop := topAskedRow.holds Try.pinned (OpenSpec.ofChange topAskedWrong)

/- THE SECOND FORM. 'bulk': how many values and letters a reading holds, each counted each time it is reached (what is shared counts as often as it is met; a slice's spare places count too). A statement '..UptoSaid' is the law's where the arguments, and the package variables that the reading takes, are together of bulk at most 1048576: NARROWER than '..Said'. Prove '..Said' where nothing that the law and all that it calls make is longer than what came in: it says more and counts as full. Else prove '..UptoSaid'. A law counts once. -/
mutual
def uptoBulk {H : Type} : DataW H → Nat
  | .lit (.string bytes) => bytes.length + 1
  | .lit _ => 1
  | .nil => 1
  | .ptr d => uptoBulk d + 1
  | .slice elems spare => uptoBulkAll elems + uptoBulkAll spare + 1
  | .agg parts => uptoBulkAll parts + 1
  | .iface _ d => uptoBulk d + 1
  | .map entries => uptoBulkEntries entries + 1
  | .held _ => 1
def uptoBulkAll {H : Type} : List (DataW H) → Nat
  | [] => 0
  | d :: r => uptoBulk d + uptoBulkAll r
def uptoBulkEntries {H : Type} : List (Lit × DataW H) → Nat
  | [] => 0
  | x :: r => uptoBulkEntry x + uptoBulkEntries r
def uptoBulkEntry {H : Type} : Lit × DataW H → Nat
  | (.string bytes, d) => bytes.length + uptoBulk d + 1
  | (_, d) => uptoBulk d + 1
 end
def uptoSmall : (H : Type) → List (DataW H) → Bool := fun _ ds => decide (uptoBulkAll ds ≤ 1048576)
def OpenSpec.upto (s : _root_.Go.ChangeSpec) : _root_.Go.OpenSpec := { _root_.Go.OpenSpec.ofChange s with cond := some uptoSmall }

/-- 'pippinlaw02.KeysEach', WHERE WHAT IT READS IS OF BULK AT MOST 1048576: true; the input reads as it did. -/
def keysEachUptoRow : OpenClaim := { program := "ytbieglmpkljjjaa", sum := "e58120ee6ac8172ceb960ad3c3245c1d65975b9945e67572222b9368e894866a", func := "pippin/pippinlaw02.KeysEach", spec := "keysEach", unfollowed := true, recurses := true, plainKeys := false, apart := false, narrowed := true }
def KeysEachUptoSaid : Prop := keysEachUptoRow.holds Try.pinned (OpenSpec.upto keysEachSpec)

/-- 'pippinlaw02.KeysTwice', WHERE WHAT IT READS IS OF BULK AT MOST 1048576: true; the input reads as it did. -/
def keysTwiceUptoRow : OpenClaim := { program := "ytbieglmpkljjjaa", sum := "e58120ee6ac8172ceb960ad3c3245c1d65975b9945e67572222b9368e894866a", func := "pippin/pippinlaw02.KeysTwice", spec := "keysTwice", unfollowed := true, recurses := true, plainKeys := false, apart := false, narrowed := true }
def KeysTwiceUptoSaid : Prop := keysTwiceUptoRow.holds Try.pinned (OpenSpec.upto keysTwiceSpec)

/-- 'pippinlaw02.KeysDeep', WHERE WHAT IT READS IS OF BULK AT MOST 1048576: true; the input reads as it did. -/
def keysDeepUptoRow : OpenClaim := { program := "ytbieglmpkljjjaa", sum := "e58120ee6ac8172ceb960ad3c3245c1d65975b9945e67572222b9368e894866a", func := "pippin/pippinlaw02.KeysDeep", spec := "keysDeep", unfollowed := true, recurses := true, plainKeys := false, apart := false, narrowed := true }
def KeysDeepUptoSaid : Prop := keysDeepUptoRow.holds Try.pinned (OpenSpec.upto keysDeepSpec)

/-- 'pippinlaw02.KeysMade', WHERE WHAT IT READS IS OF BULK AT MOST 1048576: true; the input reads as it did. -/
def keysMadeUptoRow : OpenClaim := { program := "ytbieglmpkljjjaa", sum := "e58120ee6ac8172ceb960ad3c3245c1d65975b9945e67572222b9368e894866a", func := "pippin/pippinlaw02.KeysMade", spec := "keysMade", unfollowed := true, recurses := true, plainKeys := false, apart := false, narrowed := true }
def KeysMadeUptoSaid : Prop := keysMadeUptoRow.holds Try.pinned (OpenSpec.upto keysMadeSpec)

/-- 'pippinlaw02.KeysLess', WHERE WHAT IT READS IS OF BULK AT MOST 1048576: true; the input reads as it did. -/
def keysLessUptoRow : OpenClaim := { program := "ytbieglmpkljjjaa", sum := "e58120ee6ac8172ceb960ad3c3245c1d65975b9945e67572222b9368e894866a", func := "pippin/pippinlaw02.KeysLess", spec := "keysLess", unfollowed := true, recurses := true, plainKeys := false, apart := false, narrowed := true }
def KeysLessUptoSaid : Prop := keysLessUptoRow.holds Try.pinned (OpenSpec.upto keysLessSpec)

/-- 'pippinlaw02.KeysOrder', WHERE WHAT IT READS IS OF BULK AT MOST 1048576: true; the input reads as it did. -/
def keysOrderUptoRow : OpenClaim := { program := "ytbieglmpkljjjaa", sum := "e58120ee6ac8172ceb960ad3c3245c1d65975b9945e67572222b9368e894866a", func := "pippin/pippinlaw02.KeysOrder", spec := "keysOrder", unfollowed := true, recurses := true, plainKeys := false, apart := false, narrowed := true }
def KeysOrderUptoSaid : Prop := keysOrderUptoRow.holds Try.pinned (OpenSpec.upto keysOrderSpec)

/-- 'pippinlaw02.KeysWalk', WHERE WHAT IT READS IS OF BULK AT MOST 1048576: true; the input reads as it did. -/
def keysWalkUptoRow : OpenClaim := { program := "ytbieglmpkljjjaa", sum := "e58120ee6ac8172ceb960ad3c3245c1d65975b9945e67572222b9368e894866a", func := "pippin/pippinlaw02.KeysWalk", spec := "keysWalk", unfollowed := true, recurses := true, plainKeys := false, apart := false, narrowed := true }
def KeysWalkUptoSaid : Prop := keysWalkUptoRow.holds Try.pinned (OpenSpec.upto keysWalkSpec)

/-- 'pippinlaw02.KeysRight', WHERE WHAT IT READS IS OF BULK AT MOST 1048576: true; the input reads as it did. -/
def keysRightUptoRow : OpenClaim := { program := "ytbieglmpkljjjaa", sum := "e58120ee6ac8172ceb960ad3c3245c1d65975b9945e67572222b9368e894866a", func := "pippin/pippinlaw02.KeysRight", spec := "keysRight", unfollowed := true, recurses := true, plainKeys := false, apart := false, narrowed := true }
def KeysRightUptoSaid : Prop := keysRightUptoRow.holds Try.pinned (OpenSpec.upto keysRightSpec)

/-- 'pippinlaw02.KeysShort', WHERE WHAT IT READS IS OF BULK AT MOST 1048576: true; the input reads as it did. -/
def keysShortUptoRow : OpenClaim := { program := "ytbieglmpkljjjaa", sum := "e58120ee6ac8172ceb960ad3c3245c1d65975b9945e67572222b9368e894866a", func := "pippin/pippinlaw02.KeysShort", spec := "keysShort", unfollowed := true, recurses := true, plainKeys := false, apart := false, narrowed := true }
def KeysShortUptoSaid : Prop := keysShortUptoRow.holds Try.pinned (OpenSpec.upto keysShortSpec)

/-- 'pippinlaw02.KeysBest', WHERE WHAT IT READS IS OF BULK AT MOST 1048576: true; the input reads as it did. -/
def keysBestUptoRow : OpenClaim := { program := "ytbieglmpkljjjaa", sum := "e58120ee6ac8172ceb960ad3c3245c1d65975b9945e67572222b9368e894866a", func := "pippin/pippinlaw02.KeysBest", spec := "keysBest", unfollowed := true, recurses := true, plainKeys := false, apart := false, narrowed := true }
def KeysBestUptoSaid : Prop := keysBestUptoRow.holds Try.pinned (OpenSpec.upto keysBestSpec)

/-- 'pippintop.TopKeyed', WHERE WHAT IT READS IS OF BULK AT MOST 1048576: true; the input reads as it did. -/
def topKeyedUptoRow : OpenClaim := { program := "ytbieglmpkljjjaa", sum := "e58120ee6ac8172ceb960ad3c3245c1d65975b9945e67572222b9368e894866a", func := "pippin/pippintop.TopKeyed", spec := "topKeyed", unfollowed := true, recurses := true, plainKeys := false, apart := false, narrowed := true }
def TopKeyedUptoSaid : Prop := topKeyedUptoRow.holds Try.pinned (OpenSpec.upto topKeyedSpec)

/-- 'pippintop.TopAsked', WHERE WHAT IT READS IS OF BULK AT MOST 1048576: true; the input reads as it did. -/
def topAskedUptoRow : OpenClaim := { program := "ytbieglmpkljjjaa", sum := "e58120ee6ac8172ceb960ad3c3245c1d65975b9945e67572222b9368e894866a", func := "pippin/pippintop.TopAsked", spec := "topAsked", unfollowed := true, recurses := true, plainKeys := false, apart := false, narrowed := true }
def TopAskedUptoSaid : Prop := topAskedUptoRow.holds Try.pinned (OpenSpec.upto topAskedSpec)

end Rows
end Go.Proofs.Ytbieglmpkljjjaa
