/-
  No cell of these rows narrows 'for every input' (looked for: loops, veiled, ifaces, maps, wideKeys, modest, calm, conditions, laid).
  DERIVED. THE GIVEN ROWS OF THIS SEAT. 6 by the template 'for every input the law returns true; each argument reads behind the call as it read before'; 0 by the template 'total and deterministic' (their statements: YtoophkmnppoppaaTotals.lean).
  GIVEN WITH THE SEED: the statements are not yours to turn. If you find one false, say at which input.
  Laid BY PROGRAM, IN A SANDBOX (cutbox-rows.mjs): the forced cells as the released guide's own fill.sh prints them over the translation f94d5621a7becc19… (all of the seat's roots in one cut). By AI agents, Wed Nov 11 2026. No macro, syntax, notation, axiom, sorry.
-/
import Derived.Test.YtoophkmnppoppaaChecked
import GoSem.Claim
import GoSem.ClaimJoined
import GoSem.ClaimMapViews
import Derived.JoinedTies
import Derived.KernelRfl
namespace Go.Proofs.Ytoophkmnppoppaa
/- THE CELL 'sum', in the pinned program and in every row, IS THE sha256 OF THE DUMP (.gsa) THAT YtoophkmnppoppaaProg.lean LOADS. Nothing in Lean hashes anything: it is a label: what it is worth is what the hold of that sum in a sandbox is worth. -/
noncomputable def Try.pinned : Pinned := { name := "ytoophkmnppoppaa", sum := "f94d5621a7becc198217a3c2d69a13799378e63103fa3d8c1b01e280811976d8", checked := Try.checked }
namespace Rows
def none {H : Type} : Left H := { results := [], args := [] }

/-- 'flagstonelaw10.ModelDoes': WHATEVER THE INPUT: true; the input reads as it did. -/
def modelDoesSpec : ChangeSpec := { name := "modelDoes", fn := fun _ => fun
  | [d1, d2] => { results := [.lit (.bool true)], args := [d1, d2] }
  | _ => none }
def modelDoesRow : OpenClaim := { program := "ytoophkmnppoppaa", sum := "f94d5621a7becc198217a3c2d69a13799378e63103fa3d8c1b01e280811976d8", func := "flagstone/flagstonelaw10.ModelDoes", spec := "modelDoes", unfollowed := true, recurses := true, apart := false }
def ModelDoesSaid : Prop := modelDoesRow.holds Try.pinned (OpenSpec.ofChange modelDoesSpec)

/-- ITS FALSE NEIGHBOUR: 'it returns false'. Refute it at one input. -/
def modelDoesWrong : ChangeSpec := { name := "modelDoes", fn := fun _ => fun
  | [d1, d2] => { results := [.lit (.bool false)], args := [d1, d2] }
  | _ => none }
def ModelDoesWrongFalsely : Prop := modelDoesRow.holds Try.pinned (OpenSpec.ofChange modelDoesWrong)

/-- 'flagstonelaw10.ModelMay': WHATEVER THE INPUT: true; the input reads as it did. -/
def modelMaySpec : ChangeSpec := { name := "modelMay", fn := fun _ => fun
  | [d1, d2, d3, d4] => { results := [.lit (.bool true)], args := [d1, d2, d3, d4] }
  | _ => none }
def modelMayRow : OpenClaim := { program := "ytoophkmnppoppaa", sum := "f94d5621a7becc198217a3c2d69a13799378e63103fa3d8c1b01e280811976d8", func := "flagstone/flagstonelaw10.ModelMay", spec := "modelMay", unfollowed := true, recurses := true, apart := false }
def ModelMaySaid : Prop := modelMayRow.holds Try.pinned (OpenSpec.ofChange modelMaySpec)

/-- ITS FALSE NEIGHBOUR: 'it returns false'. Refute it at one input. -/
def modelMayWrong : ChangeSpec := { name := "modelMay", fn := fun _ => fun
  | [d1, d2, d3, d4] => { results := [.lit (.bool false)], args := [d1, d2, d3, d4] }
  | _ => none }
def ModelMayWrongFalsely : Prop := modelMayRow.holds Try.pinned (OpenSpec.ofChange modelMayWrong)

/-- 'flagstonelaw10.ModelReads': WHATEVER THE INPUT: true; the input reads as it did. -/
def modelReadsSpec : ChangeSpec := { name := "modelReads", fn := fun _ => fun
  | [d1, d2, d3] => { results := [.lit (.bool true)], args := [d1, d2, d3] }
  | _ => none }
def modelReadsRow : OpenClaim := { program := "ytoophkmnppoppaa", sum := "f94d5621a7becc198217a3c2d69a13799378e63103fa3d8c1b01e280811976d8", func := "flagstone/flagstonelaw10.ModelReads", spec := "modelReads", unfollowed := true, recurses := true, apart := false }
def ModelReadsSaid : Prop := modelReadsRow.holds Try.pinned (OpenSpec.ofChange modelReadsSpec)

/-- ITS FALSE NEIGHBOUR: 'it returns false'. Refute it at one input. -/
def modelReadsWrong : ChangeSpec := { name := "modelReads", fn := fun _ => fun
  | [d1, d2, d3] => { results := [.lit (.bool false)], args := [d1, d2, d3] }
  | _ => none }
def ModelReadsWrongFalsely : Prop := modelReadsRow.holds Try.pinned (OpenSpec.ofChange modelReadsWrong)

/-- 'flagstonelaw10.ModelReverts': WHATEVER THE INPUT: true; the input reads as it did. -/
def modelRevertsSpec : ChangeSpec := { name := "modelReverts", fn := fun _ => fun
  | [d1, d2, d3] => { results := [.lit (.bool true)], args := [d1, d2, d3] }
  | _ => none }
def modelRevertsRow : OpenClaim := { program := "ytoophkmnppoppaa", sum := "f94d5621a7becc198217a3c2d69a13799378e63103fa3d8c1b01e280811976d8", func := "flagstone/flagstonelaw10.ModelReverts", spec := "modelReverts", unfollowed := true, recurses := true, apart := false }
def ModelRevertsSaid : Prop := modelRevertsRow.holds Try.pinned (OpenSpec.ofChange modelRevertsSpec)

/-- ITS FALSE NEIGHBOUR: 'it returns false'. Refute it at one input. -/
def modelRevertsWrong : ChangeSpec := { name := "modelReverts", fn := fun _ => fun
  | [d1, d2, d3] => { results := [.lit (.bool false)], args := [d1, d2, d3] }
  | _ => none }
def ModelRevertsWrongFalsely : Prop := modelRevertsRow.holds Try.pinned (OpenSpec.ofChange modelRevertsWrong)

/-- 'flagstonelaw10.ModelDrops': WHATEVER THE INPUT: true; the input reads as it did. -/
def modelDropsSpec : ChangeSpec := { name := "modelDrops", fn := fun _ => fun
  | [d1, d2, d3, d4] => { results := [.lit (.bool true)], args := [d1, d2, d3, d4] }
  | _ => none }
def modelDropsRow : OpenClaim := { program := "ytoophkmnppoppaa", sum := "f94d5621a7becc198217a3c2d69a13799378e63103fa3d8c1b01e280811976d8", func := "flagstone/flagstonelaw10.ModelDrops", spec := "modelDrops", unfollowed := true, recurses := true, apart := false }
def ModelDropsSaid : Prop := modelDropsRow.holds Try.pinned (OpenSpec.ofChange modelDropsSpec)

/-- ITS FALSE NEIGHBOUR: 'it returns false'. Refute it at one input. -/
def modelDropsWrong : ChangeSpec := { name := "modelDrops", fn := fun _ => fun
  | [d1, d2, d3, d4] => { results := [.lit (.bool false)], args := [d1, d2, d3, d4] }
  | _ => none }
def ModelDropsWrongFalsely : Prop := modelDropsRow.holds Try.pinned (OpenSpec.ofChange modelDropsWrong)

/-- 'flagstonelaw10.ModelOwn': WHATEVER THE INPUT: true; the input reads as it did. -/
def modelOwnSpec : ChangeSpec := { name := "modelOwn", fn := fun _ => fun
  | [d1, d2] => { results := [.lit (.bool true)], args := [d1, d2] }
  | _ => none }
def modelOwnRow : OpenClaim := { program := "ytoophkmnppoppaa", sum := "f94d5621a7becc198217a3c2d69a13799378e63103fa3d8c1b01e280811976d8", func := "flagstone/flagstonelaw10.ModelOwn", spec := "modelOwn", unfollowed := true, recurses := true, apart := false }
def ModelOwnSaid : Prop := modelOwnRow.holds Try.pinned (OpenSpec.ofChange modelOwnSpec)

/-- ITS FALSE NEIGHBOUR: 'it returns false'. Refute it at one input. -/
def modelOwnWrong : ChangeSpec := { name := "modelOwn", fn := fun _ => fun
  | [d1, d2] => { results := [.lit (.bool false)], args := [d1, d2] }
  | _ => none }
def ModelOwnWrongFalsely : Prop := modelOwnRow.holds Try.pinned (OpenSpec.ofChange modelOwnWrong)

/- THE SECOND FORM. 'bulk': how many values and letters a reading holds, each counted each time it is reached (what is shared counts as often as it is met; a slice's spare places count too). A statement '..UptoSaid' is the law's where the arguments, and the package variables that the reading takes, are together of bulk at most 1048576: NARROWER than '..Said'. Prove '..Said' where nothing that the law and all that it calls make is longer than what came in: it says more and counts as full. Else prove '..UptoSaid'. A law counts once. -/
mutual
def uptoBulk {H : Type} : DataW H → Nat
  | .lit (.string bytes) => bytes.length + 1
  | .lit _ => 1
  | .nil => 1
  | .ptr d => uptoBulk d + 1
  | .slice elems spare => uptoBulkAll elems + uptoBulkAll spare + 1
  | .agg parts => uptoBulkAll parts + 1
  | .iface _ d => uptoBulk d + 1
  | .map entries => uptoBulkEntries entries + 1
  | .held _ => 1
def uptoBulkAll {H : Type} : List (DataW H) → Nat
  | [] => 0
  | d :: r => uptoBulk d + uptoBulkAll r
def uptoBulkEntries {H : Type} : List (Lit × DataW H) → Nat
  | [] => 0
  | x :: r => uptoBulkEntry x + uptoBulkEntries r
def uptoBulkEntry {H : Type} : Lit × DataW H → Nat
  | (.string bytes, d) => bytes.length + uptoBulk d + 1
  | (_, d) => uptoBulk d + 1
 end
def uptoSmall : (H : Type) → List (DataW H) → Bool := fun _ ds => decide (uptoBulkAll ds ≤ 1048576)
def OpenSpec.upto (s : _root_.Go.ChangeSpec) : _root_.Go.OpenSpec := { _root_.Go.OpenSpec.ofChange s with cond := some uptoSmall }

/-- 'flagstonelaw10.ModelDoes', WHERE WHAT IT READS IS OF BULK AT MOST 1048576: true; the input reads as it did. -/
def modelDoesUptoRow : OpenClaim := { program := "ytoophkmnppoppaa", sum := "f94d5621a7becc198217a3c2d69a13799378e63103fa3d8c1b01e280811976d8", func := "flagstone/flagstonelaw10.ModelDoes", spec := "modelDoes", unfollowed := true, recurses := true, apart := false, narrowed := true }
def ModelDoesUptoSaid : Prop := modelDoesUptoRow.holds Try.pinned (OpenSpec.upto modelDoesSpec)

/-- 'flagstonelaw10.ModelMay', WHERE WHAT IT READS IS OF BULK AT MOST 1048576: true; the input reads as it did. -/
def modelMayUptoRow : OpenClaim := { program := "ytoophkmnppoppaa", sum := "f94d5621a7becc198217a3c2d69a13799378e63103fa3d8c1b01e280811976d8", func := "flagstone/flagstonelaw10.ModelMay", spec := "modelMay", unfollowed := true, recurses := true, apart := false, narrowed := true }
def ModelMayUptoSaid : Prop := modelMayUptoRow.holds Try.pinned (OpenSpec.upto modelMaySpec)

/-- 'flagstonelaw10.ModelReads', WHERE WHAT IT READS IS OF BULK AT MOST 1048576: true; the input reads as it did. -/
def modelReadsUptoRow : OpenClaim := { program := "ytoophkmnppoppaa", sum := "f94d5621a7becc198217a3c2d69a13799378e63103fa3d8c1b01e280811976d8", func := "flagstone/flagstonelaw10.ModelReads", spec := "modelReads", unfollowed := true, recurses := true, apart := false, narrowed := true }
def ModelReadsUptoSaid : Prop := modelReadsUptoRow.holds Try.pinned (OpenSpec.upto modelReadsSpec)

/-- 'flagstonelaw10.ModelReverts', WHERE WHAT IT READS IS OF BULK AT MOST 1048576: true; the input reads as it did. -/
def modelRevertsUptoRow : OpenClaim := { program := "ytoophkmnppoppaa", sum := "f94d5621a7becc198217a3c2d69a13799378e63103fa3d8c1b01e280811976d8", func := "flagstone/flagstonelaw10.ModelReverts", spec := "modelReverts", unfollowed := true, recurses := true, apart := false, narrowed := true }
def ModelRevertsUptoSaid : Prop := modelRevertsUptoRow.holds Try.pinned (OpenSpec.upto modelRevertsSpec)

/-- 'flagstonelaw10.ModelDrops', WHERE WHAT IT READS IS OF BULK AT MOST 1048576: true; the input reads as it did. -/
def modelDropsUptoRow : OpenClaim := { program := "ytoophkmnppoppaa", sum := "f94d5621a7becc198217a3c2d69a13799378e63103fa3d8c1b01e280811976d8", func := "flagstone/flagstonelaw10.ModelDrops", spec := "modelDrops", unfollowed := true, recurses := true, apart := false, narrowed := true }
def ModelDropsUptoSaid : Prop := modelDropsUptoRow.holds Try.pinned (OpenSpec.upto modelDropsSpec)

/-- 'flagstonelaw10.ModelOwn', WHERE WHAT IT READS IS OF BULK AT MOST 1048576: true; the input reads as it did. -/
def modelOwnUptoRow : OpenClaim := { program := "ytoophkmnppoppaa", sum := "f94d5621a7becc198217a3c2d69a13799378e63103fa3d8c1b01e280811976d8", func := "flagstone/flagstonelaw10.ModelOwn", spec := "modelOwn", unfollowed := true, recurses := true, apart := false, narrowed := true }
def ModelOwnUptoSaid : Prop := modelOwnUptoRow.holds Try.pinned (OpenSpec.upto modelOwnSpec)

end Rows
end Go.Proofs.Ytoophkmnppoppaa
