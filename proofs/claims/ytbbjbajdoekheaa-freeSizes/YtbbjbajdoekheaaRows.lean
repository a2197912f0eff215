/-
  No cell of these rows narrows 'for every input' (looked for: loops, veiled, ifaces, maps, wideKeys, modest, calm, conditions, laid).
  DERIVED. THE GIVEN ROWS OF THIS SEAT. 6 by the template 'for every input the law returns true; each argument reads behind the call as it read before'; 0 by the template 'total and deterministic' (their statements: YtbbjbajdoekheaaTotals.lean).
  GIVEN WITH THE SEED: the statements are not yours to turn. If you find one false, say at which input.
  Laid BY PROGRAM, IN A SANDBOX (cutbox-rows.mjs): the forced cells as the released guide's own fill.sh prints them over the translation df240f25e5d736a3… (all of the seat's roots in one cut). By AI agents, Wed Nov 11 2026. No macro, syntax, notation, axiom, sorry.
-/
import Derived.Test.YtbbjbajdoekheaaChecked
import GoSem.Claim
import GoSem.ClaimJoined
import GoSem.ClaimMapViews
import Derived.JoinedTies
import Derived.KernelRfl
namespace Go.Proofs.Ytbbjbajdoekheaa
/- THE CELL 'sum', in the pinned program and in every row, IS THE sha256 OF THE DUMP (.gsa) THAT YtbbjbajdoekheaaProg.lean LOADS. Nothing in Lean hashes anything: it is a label: what it is worth is what the hold of that sum in a sandbox is worth. -/
noncomputable def Try.pinned : Pinned := { name := "ytbbjbajdoekheaa", sum := "df240f25e5d736a34d5f8e8cd86bd041ccbfd392f8c57700835ac1e592d8ea19", checked := Try.checked }
namespace Rows
def none {H : Type} : Left H := { results := [], args := [] }

/-- 'flagstonelaw06.FreeTells': WHATEVER THE INPUT: true; the input reads as it did. -/
def freeTellsSpec : ChangeSpec := { name := "freeTells", fn := fun _ => fun
  | [d1, d2, d3, d4] => { results := [.lit (.bool true)], args := [d1, d2, d3, d4] }
  | _ => none }
def freeTellsRow : OpenClaim := { program := "ytbbjbajdoekheaa", sum := "df240f25e5d736a34d5f8e8cd86bd041ccbfd392f8c57700835ac1e592d8ea19", func := "flagstone/flagstonelaw06.FreeTells", spec := "freeTells", unfollowed := true, recurses := true, apart := false }
def FreeTellsSaid : Prop := freeTellsRow.holds Try.pinned (OpenSpec.ofChange freeTellsSpec)

/-- ITS FALSE NEIGHBOUR: 'it returns false'. Refute it at one input. -/
def freeTellsWrong : ChangeSpec := { name := "freeTells", fn := fun _ => fun
  | [d1, d2, d3, d4] => { results := [.lit (.bool false)], args := [d1, d2, d3, d4] }
  | _ => none }
def FreeTellsWrongFalsely : Prop := freeTellsRow.holds Try.pinned (OpenSpec.ofChange freeTellsWrong)

/-- 'flagstonelaw06.FreeSizes': WHATEVER THE INPUT: true; the input reads as it did. -/
def freeSizesSpec : ChangeSpec := { name := "freeSizes", fn := fun _ => fun
  | [d1, d2, d3] => { results := [.lit (.bool true)], args := [d1, d2, d3] }
  | _ => none }
def freeSizesRow : OpenClaim := { program := "ytbbjbajdoekheaa", sum := "df240f25e5d736a34d5f8e8cd86bd041ccbfd392f8c57700835ac1e592d8ea19", func := "flagstone/flagstonelaw06.FreeSizes", spec := "freeSizes", unfollowed := true, recurses := true, apart := false }
def FreeSizesSaid : Prop := freeSizesRow.holds Try.pinned (OpenSpec.ofChange freeSizesSpec)

/-- ITS FALSE NEIGHBOUR: 'it returns false'. Refute it at one input. -/
def freeSizesWrong : ChangeSpec := { name := "freeSizes", fn := fun _ => fun
  | [d1, d2, d3] => { results := [.lit (.bool false)], args := [d1, d2, d3] }
  | _ => none }
def FreeSizesWrongFalsely : Prop := freeSizesRow.holds Try.pinned (OpenSpec.ofChange freeSizesWrong)

/-- 'flagstonelaw06.FreeBack': WHATEVER THE INPUT: true; the input reads as it did. -/
def freeBackSpec : ChangeSpec := { name := "freeBack", fn := fun _ => fun
  | [d1, d2, d3] => { results := [.lit (.bool true)], args := [d1, d2, d3] }
  | _ => none }
def freeBackRow : OpenClaim := { program := "ytbbjbajdoekheaa", sum := "df240f25e5d736a34d5f8e8cd86bd041ccbfd392f8c57700835ac1e592d8ea19", func := "flagstone/flagstonelaw06.FreeBack", spec := "freeBack", unfollowed := true, recurses := true, apart := false }
def FreeBackSaid : Prop := freeBackRow.holds Try.pinned (OpenSpec.ofChange freeBackSpec)

/-- ITS FALSE NEIGHBOUR: 'it returns false'. Refute it at one input. -/
def freeBackWrong : ChangeSpec := { name := "freeBack", fn := fun _ => fun
  | [d1, d2, d3] => { results := [.lit (.bool false)], args := [d1, d2, d3] }
  | _ => none }
def FreeBackWrongFalsely : Prop := freeBackRow.holds Try.pinned (OpenSpec.ofChange freeBackWrong)

/-- 'flagstonelaw06.FreeFits': WHATEVER THE INPUT: true; the input reads as it did. -/
def freeFitsSpec : ChangeSpec := { name := "freeFits", fn := fun _ => fun
  | [d1, d2, d3] => { results := [.lit (.bool true)], args := [d1, d2, d3] }
  | _ => none }
def freeFitsRow : OpenClaim := { program := "ytbbjbajdoekheaa", sum := "df240f25e5d736a34d5f8e8cd86bd041ccbfd392f8c57700835ac1e592d8ea19", func := "flagstone/flagstonelaw06.FreeFits", spec := "freeFits", unfollowed := true, recurses := true, apart := false }
def FreeFitsSaid : Prop := freeFitsRow.holds Try.pinned (OpenSpec.ofChange freeFitsSpec)

/-- ITS FALSE NEIGHBOUR: 'it returns false'. Refute it at one input. -/
def freeFitsWrong : ChangeSpec := { name := "freeFits", fn := fun _ => fun
  | [d1, d2, d3] => { results := [.lit (.bool false)], args := [d1, d2, d3] }
  | _ => none }
def FreeFitsWrongFalsely : Prop := freeFitsRow.holds Try.pinned (OpenSpec.ofChange freeFitsWrong)

/-- 'flagstonelaw06.FreeCounts': WHATEVER THE INPUT: true; the input reads as it did. -/
def freeCountsSpec : ChangeSpec := { name := "freeCounts", fn := fun _ => fun
  | [d1, d2] => { results := [.lit (.bool true)], args := [d1, d2] }
  | _ => none }
def freeCountsRow : OpenClaim := { program := "ytbbjbajdoekheaa", sum := "df240f25e5d736a34d5f8e8cd86bd041ccbfd392f8c57700835ac1e592d8ea19", func := "flagstone/flagstonelaw06.FreeCounts", spec := "freeCounts", unfollowed := true, recurses := true, apart := false }
def FreeCountsSaid : Prop := freeCountsRow.holds Try.pinned (OpenSpec.ofChange freeCountsSpec)

/-- ITS FALSE NEIGHBOUR: 'it returns false'. Refute it at one input. -/
def freeCountsWrong : ChangeSpec := { name := "freeCounts", fn := fun _ => fun
  | [d1, d2] => { results := [.lit (.bool false)], args := [d1, d2] }
  | _ => none }
def FreeCountsWrongFalsely : Prop := freeCountsRow.holds Try.pinned (OpenSpec.ofChange freeCountsWrong)

/-- 'flagstonelaw06.FreeAll': WHATEVER THE INPUT: true; the input reads as it did. -/
def freeAllSpec : ChangeSpec := { name := "freeAll", fn := fun _ => fun
  | [d1, d2, d3] => { results := [.lit (.bool true)], args := [d1, d2, d3] }
  | _ => none }
def freeAllRow : OpenClaim := { program := "ytbbjbajdoekheaa", sum := "df240f25e5d736a34d5f8e8cd86bd041ccbfd392f8c57700835ac1e592d8ea19", func := "flagstone/flagstonelaw06.FreeAll", spec := "freeAll", unfollowed := true, recurses := true, apart := false }
def FreeAllSaid : Prop := freeAllRow.holds Try.pinned (OpenSpec.ofChange freeAllSpec)

/-- ITS FALSE NEIGHBOUR: 'it returns false'. Refute it at one input. -/
def freeAllWrong : ChangeSpec := { name := "freeAll", fn := fun _ => fun
  | [d1, d2, d3] => { results := [.lit (.bool false)], args := [d1, d2, d3] }
  | _ => none }
def FreeAllWrongFalsely : Prop := freeAllRow.holds Try.pinned (OpenSpec.ofChange freeAllWrong)

/- THE SECOND FORM. 'bulk': how many values and letters a reading holds, each counted each time it is reached (what is shared counts as often as it is met; a slice's spare places count too). A statement '..UptoSaid' is the law's where the arguments, and the package variables that the reading takes, are together of bulk at most 1048576: NARROWER than '..Said'. Prove '..Said' where nothing that the law and all that it calls make is longer than what came in: it says more and counts as full. Else prove '..UptoSaid'. A law counts once. -/
mutual
def uptoBulk {H : Type} : DataW H → Nat
  | .lit (.string bytes) => bytes.length + 1
  | .lit _ => 1
  | .nil => 1
  | .ptr d => uptoBulk d + 1
  | .slice elems spare => uptoBulkAll elems + uptoBulkAll spare + 1
  | .agg parts => uptoBulkAll parts + 1
  | .iface _ d => uptoBulk d + 1
  | .map entries => uptoBulkEntries entries + 1
  | .held _ => 1
def uptoBulkAll {H : Type} : List (DataW H) → Nat
  | [] => 0
  | d :: r => uptoBulk d + uptoBulkAll r
def uptoBulkEntries {H : Type} : List (Lit × DataW H) → Nat
  | [] => 0
  | x :: r => uptoBulkEntry x + uptoBulkEntries r
def uptoBulkEntry {H : Type} : Lit × DataW H → Nat
  | (.string bytes, d) => bytes.length + uptoBulk d + 1
  | (_, d) => uptoBulk d + 1
 end
def uptoSmall : (H : Type) → List (DataW H) → Bool := fun _ ds => decide (uptoBulkAll ds ≤ 1048576)
def OpenSpec.upto (s : _root_.Go.ChangeSpec) : _root_.Go.OpenSpec := { _root_.Go.OpenSpec.ofChange s with cond := some uptoSmall }

/-- 'flagstonelaw06.FreeTells', WHERE WHAT IT READS IS OF BULK AT MOST 1048576: true; the input reads as it did. -/
def freeTellsUptoRow : OpenClaim := { program := "ytbbjbajdoekheaa", sum := "df240f25e5d736a34d5f8e8cd86bd041ccbfd392f8c57700835ac1e592d8ea19", func := "flagstone/flagstonelaw06.FreeTells", spec := "freeTells", unfollowed := true, recurses := true, apart := false, narrowed := true }
def FreeTellsUptoSaid : Prop := freeTellsUptoRow.holds Try.pinned (OpenSpec.upto freeTellsSpec)

/-- 'flagstonelaw06.FreeSizes', WHERE WHAT IT READS IS OF BULK AT MOST 1048576: true; the input reads as it did. -/
def freeSizesUptoRow : OpenClaim := { program := "ytbbjbajdoekheaa", sum := "df240f25e5d736a34d5f8e8cd86bd041ccbfd392f8c57700835ac1e592d8ea19", func := "flagstone/flagstonelaw06.FreeSizes", spec := "freeSizes", unfollowed := true, recurses := true, apart := false, narrowed := true }
def FreeSizesUptoSaid : Prop := freeSizesUptoRow.holds Try.pinned (OpenSpec.upto freeSizesSpec)

/-- 'flagstonelaw06.FreeBack', WHERE WHAT IT READS IS OF BULK AT MOST 1048576: true; the input reads as it did. -/
def freeBackUptoRow : OpenClaim := { program := "ytbbjbajdoekheaa", sum := "df240f25e5d736a34d5f8e8cd86bd041ccbfd392f8c57700835ac1e592d8ea19", func := "flagstone/flagstonelaw06.FreeBack", spec := "freeBack", unfollowed := true, recurses := true, apart := false, narrowed := true }
def FreeBackUptoSaid : Prop := freeBackUptoRow.holds Try.pinned (OpenSpec.upto freeBackSpec)

/-- 'flagstonelaw06.FreeFits', WHERE WHAT IT READS IS OF BULK AT MOST 1048576: true; the input reads as it did. -/
def freeFitsUptoRow : OpenClaim := { program := "ytbbjbajdoekheaa", sum := "df240f25e5d736a34d5f8e8cd86bd041ccbfd392f8c57700835ac1e592d8ea19", func := "flagstone/flagstonelaw06.FreeFits", spec := "freeFits", unfollowed := true, recurses := true, apart := false, narrowed := true }
def FreeFitsUptoSaid : Prop := freeFitsUptoRow.holds Try.pinned (OpenSpec.upto freeFitsSpec)

/-- 'flagstonelaw06.FreeCounts', WHERE WHAT IT READS IS OF BULK AT MOST 1048576: true; the input reads as it did. -/
def freeCountsUptoRow : OpenClaim := { program := "ytbbjbajdoekheaa", sum := "df240f25e5d736a34d5f8e8cd86bd041ccbfd392f8c57700835ac1e592d8ea19", func := "flagstone/flagstonelaw06.FreeCounts", spec := "freeCounts", unfollowed := true, recurses := true, apart := false, narrowed := true }
def FreeCountsUptoSaid : Prop := freeCountsUptoRow.holds Try.pinned (OpenSpec.upto freeCountsSpec)

/-- 'flagstonelaw06.FreeAll', WHERE WHAT IT READS IS OF BULK AT MOST 1048576: true; the input reads as it did. -/
def freeAllUptoRow : OpenClaim := { program := "ytbbjbajdoekheaa", sum := "df240f25e5d736a34d5f8e8cd86bd041ccbfd392f8c57700835ac1e592d8ea19", func := "flagstone/flagstonelaw06.FreeAll", spec := "freeAll", unfollowed := true, recurses := true, apart := false, narrowed := true }
def FreeAllUptoSaid : Prop := freeAllUptoRow.holds Try.pinned (OpenSpec.upto freeAllSpec)

end Rows
end Go.Proofs.Ytbbjbajdoekheaa
