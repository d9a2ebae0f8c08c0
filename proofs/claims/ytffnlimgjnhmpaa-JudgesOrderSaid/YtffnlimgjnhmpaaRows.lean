/-
  No cell of these rows narrows 'for every input' (looked for: loops, veiled, ifaces, maps, wideKeys, modest, calm, conditions, laid).
  DERIVED. THE GIVEN ROWS OF THIS SEAT. 9 by the template 'for every input the law returns true; each argument reads behind the call as it read before'; 0 by the template 'total and deterministic' (their statements: YtffnlimgjnhmpaaTotals.lean).
  GIVEN WITH THE SEED: the statements are not yours to turn. If you find one false, say at which input.
  Laid BY PROGRAM, IN A SANDBOX (cutbox-rows.mjs): the forced cells as the released guide's own fill.sh prints them over the translation 3328506fead9fdc0… (all of the seat's roots in one cut). By AI agents, Wed Nov 11 2026. No macro, syntax, notation, axiom, sorry.
-/
import Derived.Test.YtffnlimgjnhmpaaChecked
import GoSem.Claim
import GoSem.ClaimJoined
import GoSem.ClaimMapViews
import Derived.JoinedTies
import Derived.KernelRfl
namespace Go.Proofs.Ytffnlimgjnhmpaa
/- THE CELL 'sum', in the pinned program and in every row, IS THE sha256 OF THE DUMP (.gsa) THAT YtffnlimgjnhmpaaProg.lean LOADS. Nothing in Lean hashes anything: it is a label: what it is worth is what the hold of that sum in a sandbox is worth. -/
noncomputable def Try.pinned : Pinned := { name := "ytffnlimgjnhmpaa", sum := "3328506fead9fdc025f2414020402e724cda42e262332bd9258d21b715f12373", checked := Try.checked }
namespace Rows
def none {H : Type} : Left H := { results := [], args := [] }

/-- 'pippinlaw08.JudgesEach': WHATEVER THE INPUT: true; the input reads as it did. -/
def judgesEachSpec : ChangeSpec := { name := "judgesEach", fn := fun _ => fun
  | [d1, d2] => { results := [.lit (.bool true)], args := [d1, d2] }
  | _ => none }
def judgesEachRow : OpenClaim := { program := "ytffnlimgjnhmpaa", sum := "3328506fead9fdc025f2414020402e724cda42e262332bd9258d21b715f12373", func := "pippin/pippinlaw08.JudgesEach", spec := "judgesEach", unfollowed := true, recurses := true, apart := false }
def JudgesEachSaid : Prop := judgesEachRow.holds Try.pinned (OpenSpec.ofChange judgesEachSpec)

/-- ITS FALSE NEIGHBOUR: 'it returns false'. Refute it at one input. -/
def judgesEachWrong : ChangeSpec := { name := "judgesEach", fn := fun _ => fun
  | [d1, d2] => { results := [.lit (.bool false)], args := [d1, d2] }
  | _ => none }
def JudgesEachWrongFalsely : Prop := judgesEachRow.holds Try.pinned (OpenSpec.ofChange judgesEachWrong)

/-- 'pippinlaw08.JudgesIn': WHATEVER THE INPUT: true; the input reads as it did. -/
def judgesInSpec : ChangeSpec := { name := "judgesIn", fn := fun _ => fun
  | [d1, d2, d3] => { results := [.lit (.bool true)], args := [d1, d2, d3] }
  | _ => none }
def judgesInRow : OpenClaim := { program := "ytffnlimgjnhmpaa", sum := "3328506fead9fdc025f2414020402e724cda42e262332bd9258d21b715f12373", func := "pippin/pippinlaw08.JudgesIn", spec := "judgesIn", unfollowed := true, recurses := true, apart := false }
def JudgesInSaid : Prop := judgesInRow.holds Try.pinned (OpenSpec.ofChange judgesInSpec)

/-- ITS FALSE NEIGHBOUR: 'it returns false'. Refute it at one input. -/
def judgesInWrong : ChangeSpec := { name := "judgesIn", fn := fun _ => fun
  | [d1, d2, d3] => { results := [.lit (.bool false)], args := [d1, d2, d3] }
  | _ => none }
def JudgesInWrongFalsely : Prop := judgesInRow.holds Try.pinned (OpenSpec.ofChange judgesInWrong)

/-- 'pippinlaw08.JudgesOrder': WHATEVER THE INPUT: true; the input reads as it did. -/
def judgesOrderSpec : ChangeSpec := { name := "judgesOrder", fn := fun _ => fun
  | [d1, d2, d3] => { results := [.lit (.bool true)], args := [d1, d2, d3] }
  | _ => none }
def judgesOrderRow : OpenClaim := { program := "ytffnlimgjnhmpaa", sum := "3328506fead9fdc025f2414020402e724cda42e262332bd9258d21b715f12373", func := "pippin/pippinlaw08.JudgesOrder", spec := "judgesOrder", unfollowed := true, recurses := true, apart := false }
def JudgesOrderSaid : Prop := judgesOrderRow.holds Try.pinned (OpenSpec.ofChange judgesOrderSpec)

/-- ITS FALSE NEIGHBOUR: 'it returns false'. Refute it at one input. -/
def judgesOrderWrong : ChangeSpec := { name := "judgesOrder", fn := fun _ => fun
  | [d1, d2, d3] => { results := [.lit (.bool false)], args := [d1, d2, d3] }
  | _ => none }
def JudgesOrderWrongFalsely : Prop := judgesOrderRow.holds Try.pinned (OpenSpec.ofChange judgesOrderWrong)

/-- 'pippinlaw08.JudgesMore': WHATEVER THE INPUT: true; the input reads as it did. -/
def judgesMoreSpec : ChangeSpec := { name := "judgesMore", fn := fun _ => fun
  | [d1, d2] => { results := [.lit (.bool true)], args := [d1, d2] }
  | _ => none }
def judgesMoreRow : OpenClaim := { program := "ytffnlimgjnhmpaa", sum := "3328506fead9fdc025f2414020402e724cda42e262332bd9258d21b715f12373", func := "pippin/pippinlaw08.JudgesMore", spec := "judgesMore", unfollowed := true, recurses := true, apart := false }
def JudgesMoreSaid : Prop := judgesMoreRow.holds Try.pinned (OpenSpec.ofChange judgesMoreSpec)

/-- ITS FALSE NEIGHBOUR: 'it returns false'. Refute it at one input. -/
def judgesMoreWrong : ChangeSpec := { name := "judgesMore", fn := fun _ => fun
  | [d1, d2] => { results := [.lit (.bool false)], args := [d1, d2] }
  | _ => none }
def JudgesMoreWrongFalsely : Prop := judgesMoreRow.holds Try.pinned (OpenSpec.ofChange judgesMoreWrong)

/-- 'pippinlaw08.JudgesEnough': WHATEVER THE INPUT: true; the input reads as it did. -/
def judgesEnoughSpec : ChangeSpec := { name := "judgesEnough", fn := fun _ => fun
  | [d1, d2, d3] => { results := [.lit (.bool true)], args := [d1, d2, d3] }
  | _ => none }
def judgesEnoughRow : OpenClaim := { program := "ytffnlimgjnhmpaa", sum := "3328506fead9fdc025f2414020402e724cda42e262332bd9258d21b715f12373", func := "pippin/pippinlaw08.JudgesEnough", spec := "judgesEnough", unfollowed := true, recurses := true, apart := false }
def JudgesEnoughSaid : Prop := judgesEnoughRow.holds Try.pinned (OpenSpec.ofChange judgesEnoughSpec)

/-- ITS FALSE NEIGHBOUR: 'it returns false'. Refute it at one input. -/
def judgesEnoughWrong : ChangeSpec := { name := "judgesEnough", fn := fun _ => fun
  | [d1, d2, d3] => { results := [.lit (.bool false)], args := [d1, d2, d3] }
  | _ => none }
def JudgesEnoughWrongFalsely : Prop := judgesEnoughRow.holds Try.pinned (OpenSpec.ofChange judgesEnoughWrong)

/-- 'pippinlaw08.JudgesRoom': WHATEVER THE INPUT: true; the input reads as it did. -/
def judgesRoomSpec : ChangeSpec := { name := "judgesRoom", fn := fun _ => fun
  | [d1, d2, d3] => { results := [.lit (.bool true)], args := [d1, d2, d3] }
  | _ => none }
def judgesRoomRow : OpenClaim := { program := "ytffnlimgjnhmpaa", sum := "3328506fead9fdc025f2414020402e724cda42e262332bd9258d21b715f12373", func := "pippin/pippinlaw08.JudgesRoom", spec := "judgesRoom", unfollowed := true, recurses := true, apart := false }
def JudgesRoomSaid : Prop := judgesRoomRow.holds Try.pinned (OpenSpec.ofChange judgesRoomSpec)

/-- ITS FALSE NEIGHBOUR: 'it returns false'. Refute it at one input. -/
def judgesRoomWrong : ChangeSpec := { name := "judgesRoom", fn := fun _ => fun
  | [d1, d2, d3] => { results := [.lit (.bool false)], args := [d1, d2, d3] }
  | _ => none }
def JudgesRoomWrongFalsely : Prop := judgesRoomRow.holds Try.pinned (OpenSpec.ofChange judgesRoomWrong)

/-- 'pippinlaw08.JudgesTotal': WHATEVER THE INPUT: true; the input reads as it did. -/
def judgesTotalSpec : ChangeSpec := { name := "judgesTotal", fn := fun _ => fun
  | [d1, d2, d3] => { results := [.lit (.bool true)], args := [d1, d2, d3] }
  | _ => none }
def judgesTotalRow : OpenClaim := { program := "ytffnlimgjnhmpaa", sum := "3328506fead9fdc025f2414020402e724cda42e262332bd9258d21b715f12373", func := "pippin/pippinlaw08.JudgesTotal", spec := "judgesTotal", unfollowed := true, recurses := true, apart := false }
def JudgesTotalSaid : Prop := judgesTotalRow.holds Try.pinned (OpenSpec.ofChange judgesTotalSpec)

/-- ITS FALSE NEIGHBOUR: 'it returns false'. Refute it at one input. -/
def judgesTotalWrong : ChangeSpec := { name := "judgesTotal", fn := fun _ => fun
  | [d1, d2, d3] => { results := [.lit (.bool false)], args := [d1, d2, d3] }
  | _ => none }
def JudgesTotalWrongFalsely : Prop := judgesTotalRow.holds Try.pinned (OpenSpec.ofChange judgesTotalWrong)

/-- 'pippinlaw08.JudgesPlace': WHATEVER THE INPUT: true; the input reads as it did. -/
def judgesPlaceSpec : ChangeSpec := { name := "judgesPlace", fn := fun _ => fun
  | [d1, d2] => { results := [.lit (.bool true)], args := [d1, d2] }
  | _ => none }
def judgesPlaceRow : OpenClaim := { program := "ytffnlimgjnhmpaa", sum := "3328506fead9fdc025f2414020402e724cda42e262332bd9258d21b715f12373", func := "pippin/pippinlaw08.JudgesPlace", spec := "judgesPlace", unfollowed := true, recurses := true, apart := false }
def JudgesPlaceSaid : Prop := judgesPlaceRow.holds Try.pinned (OpenSpec.ofChange judgesPlaceSpec)

/-- ITS FALSE NEIGHBOUR: 'it returns false'. Refute it at one input. -/
def judgesPlaceWrong : ChangeSpec := { name := "judgesPlace", fn := fun _ => fun
  | [d1, d2] => { results := [.lit (.bool false)], args := [d1, d2] }
  | _ => none }
def JudgesPlaceWrongFalsely : Prop := judgesPlaceRow.holds Try.pinned (OpenSpec.ofChange judgesPlaceWrong)

/-- 'pippinlaw08.JudgesRank': WHATEVER THE INPUT: true; the input reads as it did. -/
def judgesRankSpec : ChangeSpec := { name := "judgesRank", fn := fun _ => fun
  | [d1, d2] => { results := [.lit (.bool true)], args := [d1, d2] }
  | _ => none }
def judgesRankRow : OpenClaim := { program := "ytffnlimgjnhmpaa", sum := "3328506fead9fdc025f2414020402e724cda42e262332bd9258d21b715f12373", func := "pippin/pippinlaw08.JudgesRank", spec := "judgesRank", unfollowed := true, recurses := true, apart := false }
def JudgesRankSaid : Prop := judgesRankRow.holds Try.pinned (OpenSpec.ofChange judgesRankSpec)

/-- ITS FALSE NEIGHBOUR: 'it returns false'. Refute it at one input. -/
def judgesRankWrong : ChangeSpec := { name := "judgesRank", fn := fun _ => fun
  | [d1, d2] => { results := [.lit (.bool false)], args := [d1, d2] }
  | _ => none }
def JudgesRankWrongFalsely : Prop := judgesRankRow.holds Try.pinned (OpenSpec.ofChange judgesRankWrong)

/- THE SECOND FORM. 'bulk': how many values and letters a reading holds, each counted each time it is reached (what is shared counts as often as it is met; a slice's spare places count too). A statement '..UptoSaid' is the law's where the arguments, and the package variables that the reading takes, are together of bulk at most 1048576: NARROWER than '..Said'. Prove '..Said' where nothing that the law and all that it calls make is longer than what came in: it says more and counts as full. Else prove '..UptoSaid'. A law counts once. -/
mutual
def uptoBulk {H : Type} : DataW H → Nat
  | .lit (.string bytes) => bytes.length + 1
  | .lit _ => 1
  | .nil => 1
  | .ptr d => uptoBulk d + 1
  | .slice elems spare => uptoBulkAll elems + uptoBulkAll spare + 1
  | .agg parts => uptoBulkAll parts + 1
  | .iface _ d => uptoBulk d + 1
  | .map entries => uptoBulkEntries entries + 1
  | .held _ => 1
def uptoBulkAll {H : Type} : List (DataW H) → Nat
  | [] => 0
  | d :: r => uptoBulk d + uptoBulkAll r
def uptoBulkEntries {H : Type} : List (Lit × DataW H) → Nat
  | [] => 0
  | x :: r => uptoBulkEntry x + uptoBulkEntries r
def uptoBulkEntry {H : Type} : Lit × DataW H → Nat
  | (.string bytes, d) => bytes.length + uptoBulk d + 1
  | (_, d) => uptoBulk d + 1
 end
def uptoSmall : (H : Type) → List (DataW H) → Bool := fun _ ds => decide (uptoBulkAll ds ≤ 1048576)
def OpenSpec.upto (s : _root_.Go.ChangeSpec) : _root_.Go.OpenSpec := { _root_.Go.OpenSpec.ofChange s with cond := some uptoSmall }

/-- 'pippinlaw08.JudgesEach', WHERE WHAT IT READS IS OF BULK AT MOST 1048576: true; the input reads as it did. -/
def judgesEachUptoRow : OpenClaim := { program := "ytffnlimgjnhmpaa", sum := "3328506fead9fdc025f2414020402e724cda42e262332bd9258d21b715f12373", func := "pippin/pippinlaw08.JudgesEach", spec := "judgesEach", unfollowed := true, recurses := true, apart := false, narrowed := true }
def JudgesEachUptoSaid : Prop := judgesEachUptoRow.holds Try.pinned (OpenSpec.upto judgesEachSpec)

/-- 'pippinlaw08.JudgesIn', WHERE WHAT IT READS IS OF BULK AT MOST 1048576: true; the input reads as it did. -/
def judgesInUptoRow : OpenClaim := { program := "ytffnlimgjnhmpaa", sum := "3328506fead9fdc025f2414020402e724cda42e262332bd9258d21b715f12373", func := "pippin/pippinlaw08.JudgesIn", spec := "judgesIn", unfollowed := true, recurses := true, apart := false, narrowed := true }
def JudgesInUptoSaid : Prop := judgesInUptoRow.holds Try.pinned (OpenSpec.upto judgesInSpec)

/-- 'pippinlaw08.JudgesOrder', WHERE WHAT IT READS IS OF BULK AT MOST 1048576: true; the input reads as it did. -/
def judgesOrderUptoRow : OpenClaim := { program := "ytffnlimgjnhmpaa", sum := "3328506fead9fdc025f2414020402e724cda42e262332bd9258d21b715f12373", func := "pippin/pippinlaw08.JudgesOrder", spec := "judgesOrder", unfollowed := true, recurses := true, apart := false, narrowed := true }
def JudgesOrderUptoSaid : Prop := judgesOrderUptoRow.holds Try.pinned (OpenSpec.upto judgesOrderSpec)

/-- 'pippinlaw08.JudgesMore', WHERE WHAT IT READS IS OF BULK AT MOST 1048576: true; the input reads as it did. -/
def judgesMoreUptoRow : OpenClaim := { program := "ytffnlimgjnhmpaa", sum := "3328506fead9fdc025f2414020402e724cda42e262332bd9258d21b715f12373", func := "pippin/pippinlaw08.JudgesMore", spec := "judgesMore", unfollowed := true, recurses := true, apart := false, narrowed := true }
def JudgesMoreUptoSaid : Prop := judgesMoreUptoRow.holds Try.pinned (OpenSpec.upto judgesMoreSpec)

/-- 'pippinlaw08.JudgesEnough', WHERE WHAT IT READS IS OF BULK AT MOST 1048576: true; the input reads as it did. -/
def judgesEnoughUptoRow : OpenClaim := { program := "ytffnlimgjnhmpaa", sum := "3328506fead9fdc025f2414020402e724cda42e262332bd9258d21b715f12373", func := "pippin/pippinlaw08.JudgesEnough", spec := "judgesEnough", unfollowed := true, recurses := true, apart := false, narrowed := true }
def JudgesEnoughUptoSaid : Prop := judgesEnoughUptoRow.holds Try.pinned (OpenSpec.upto judgesEnoughSpec)

/-- 'pippinlaw08.JudgesRoom', WHERE WHAT IT READS IS OF BULK AT MOST 1048576: true; the input reads as it did. -/
def judgesRoomUptoRow : OpenClaim := { program := "ytffnlimgjnhmpaa", sum := "3328506fead9fdc025f2414020402e724cda42e262332bd9258d21b715f12373", func := "pippin/pippinlaw08.JudgesRoom", spec := "judgesRoom", unfollowed := true, recurses := true, apart := false, narrowed := true }
def JudgesRoomUptoSaid : Prop := judgesRoomUptoRow.holds Try.pinned (OpenSpec.upto judgesRoomSpec)

/-- 'pippinlaw08.JudgesTotal', WHERE WHAT IT READS IS OF BULK AT MOST 1048576: true; the input reads as it did. -/
def judgesTotalUptoRow : OpenClaim := { program := "ytffnlimgjnhmpaa", sum := "3328506fead9fdc025f2414020402e724cda42e262332bd9258d21b715f12373", func := "pippin/pippinlaw08.JudgesTotal", spec := "judgesTotal", unfollowed := true, recurses := true, apart := false, narrowed := true }
def JudgesTotalUptoSaid : Prop := judgesTotalUptoRow.holds Try.pinned (OpenSpec.upto judgesTotalSpec)

/-- 'pippinlaw08.JudgesPlace', WHERE WHAT IT READS IS OF BULK AT MOST 1048576: true; the input reads as it did. -/
def judgesPlaceUptoRow : OpenClaim := { program := "ytffnlimgjnhmpaa", sum := "3328506fead9fdc025f2414020402e724cda42e262332bd9258d21b715f12373", func := "pippin/pippinlaw08.JudgesPlace", spec := "judgesPlace", unfollowed := true, recurses := true, apart := false, narrowed := true }
def JudgesPlaceUptoSaid : Prop := judgesPlaceUptoRow.holds Try.pinned (OpenSpec.upto judgesPlaceSpec)

/-- 'pippinlaw08.JudgesRank', WHERE WHAT IT READS IS OF BULK AT MOST 1048576: true; the input reads as it did. -/
def judgesRankUptoRow : OpenClaim := { program := "ytffnlimgjnhmpaa", sum := "3328506fead9fdc025f2414020402e724cda42e262332bd9258d21b715f12373", func := "pippin/pippinlaw08.JudgesRank", spec := "judgesRank", unfollowed := true, recurses := true, apart := false, narrowed := true }
def JudgesRankUptoSaid : Prop := judgesRankUptoRow.holds Try.pinned (OpenSpec.upto judgesRankSpec)

end Rows
end Go.Proofs.Ytffnlimgjnhmpaa
