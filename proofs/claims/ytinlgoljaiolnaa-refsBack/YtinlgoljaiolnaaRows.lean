/-
  No cell of these rows narrows 'for every input' (looked for: loops, veiled, ifaces, maps, wideKeys, modest, calm, conditions, laid).
  DERIVED. THE GIVEN ROWS OF THIS SEAT. 6 by the template 'for every input the law returns true; each argument reads behind the call as it read before'; 0 by the template 'total and deterministic' (their statements: YtinlgoljaiolnaaTotals.lean).
  GIVEN WITH THE SEED: the statements are not yours to turn. If you find one false, say at which input.
  Laid BY PROGRAM, IN A SANDBOX (cutbox-rows.mjs): the forced cells as the released guide's own fill.sh prints them over the translation 9247e2d40474e5e8… (all of the seat's roots in one cut). By AI agents, Wed Nov 11 2026. No macro, syntax, notation, axiom, sorry.
-/
import Derived.Test.YtinlgoljaiolnaaChecked
import GoSem.Claim
import GoSem.ClaimJoined
import GoSem.ClaimMapViews
import Derived.JoinedTies
import Derived.KernelRfl
namespace Go.Proofs.Ytinlgoljaiolnaa
/- THE CELL 'sum', in the pinned program and in every row, IS THE sha256 OF THE DUMP (.gsa) THAT YtinlgoljaiolnaaProg.lean LOADS. Nothing in Lean hashes anything: it is a label: what it is worth is what the hold of that sum in a sandbox is worth. -/
noncomputable def Try.pinned : Pinned := { name := "ytinlgoljaiolnaa", sum := "9247e2d40474e5e84deadfcd44d5b4dee29130719f5bd71e62aac025a975dafd", checked := Try.checked }
namespace Rows
def none {H : Type} : Left H := { results := [], args := [] }

/-- 'flagstonelaw09.RefsTells': WHATEVER THE INPUT: true; the input reads as it did. -/
def refsTellsSpec : ChangeSpec := { name := "refsTells", fn := fun _ => fun
  | [d1, d2] => { results := [.lit (.bool true)], args := [d1, d2] }
  | _ => none }
def refsTellsRow : OpenClaim := { program := "ytinlgoljaiolnaa", sum := "9247e2d40474e5e84deadfcd44d5b4dee29130719f5bd71e62aac025a975dafd", func := "flagstone/flagstonelaw09.RefsTells", spec := "refsTells", unfollowed := true, recurses := true, apart := false }
def RefsTellsSaid : Prop := refsTellsRow.holds Try.pinned (OpenSpec.ofChange refsTellsSpec)

/-- ITS FALSE NEIGHBOUR: 'it returns false'. Refute it at one input. -/
def refsTellsWrong : ChangeSpec := { name := "refsTells", fn := fun _ => fun
  | [d1, d2] => { results := [.lit (.bool false)], args := [d1, d2] }
  | _ => none }
def RefsTellsWrongFalsely : Prop := refsTellsRow.holds Try.pinned (OpenSpec.ofChange refsTellsWrong)

/-- 'flagstonelaw09.RefsBack': WHATEVER THE INPUT: true; the input reads as it did. -/
def refsBackSpec : ChangeSpec := { name := "refsBack", fn := fun _ => fun
  | [d] => { results := [.lit (.bool true)], args := [d] }
  | _ => none }
def refsBackRow : OpenClaim := { program := "ytinlgoljaiolnaa", sum := "9247e2d40474e5e84deadfcd44d5b4dee29130719f5bd71e62aac025a975dafd", func := "flagstone/flagstonelaw09.RefsBack", spec := "refsBack", unfollowed := true, recurses := true, apart := false }
def RefsBackSaid : Prop := refsBackRow.holds Try.pinned (OpenSpec.ofChange refsBackSpec)

/-- ITS FALSE NEIGHBOUR: 'it returns false'. Refute it at one input. -/
def refsBackWrong : ChangeSpec := { name := "refsBack", fn := fun _ => fun
  | [d] => { results := [.lit (.bool false)], args := [d] }
  | _ => none }
def RefsBackWrongFalsely : Prop := refsBackRow.holds Try.pinned (OpenSpec.ofChange refsBackWrong)

/-- 'flagstonelaw09.RefsAgain': WHATEVER THE INPUT: true; the input reads as it did. -/
def refsAgainSpec : ChangeSpec := { name := "refsAgain", fn := fun _ => fun
  | [d] => { results := [.lit (.bool true)], args := [d] }
  | _ => none }
def refsAgainRow : OpenClaim := { program := "ytinlgoljaiolnaa", sum := "9247e2d40474e5e84deadfcd44d5b4dee29130719f5bd71e62aac025a975dafd", func := "flagstone/flagstonelaw09.RefsAgain", spec := "refsAgain", unfollowed := true, recurses := true, apart := false }
def RefsAgainSaid : Prop := refsAgainRow.holds Try.pinned (OpenSpec.ofChange refsAgainSpec)

/-- ITS FALSE NEIGHBOUR: 'it returns false'. Refute it at one input. -/
def refsAgainWrong : ChangeSpec := { name := "refsAgain", fn := fun _ => fun
  | [d] => { results := [.lit (.bool false)], args := [d] }
  | _ => none }
def RefsAgainWrongFalsely : Prop := refsAgainRow.holds Try.pinned (OpenSpec.ofChange refsAgainWrong)

/-- 'flagstonelaw09.RefsCounts': WHATEVER THE INPUT: true; the input reads as it did. -/
def refsCountsSpec : ChangeSpec := { name := "refsCounts", fn := fun _ => fun
  | [d1, d2] => { results := [.lit (.bool true)], args := [d1, d2] }
  | _ => none }
def refsCountsRow : OpenClaim := { program := "ytinlgoljaiolnaa", sum := "9247e2d40474e5e84deadfcd44d5b4dee29130719f5bd71e62aac025a975dafd", func := "flagstone/flagstonelaw09.RefsCounts", spec := "refsCounts", unfollowed := true, recurses := true, apart := false }
def RefsCountsSaid : Prop := refsCountsRow.holds Try.pinned (OpenSpec.ofChange refsCountsSpec)

/-- ITS FALSE NEIGHBOUR: 'it returns false'. Refute it at one input. -/
def refsCountsWrong : ChangeSpec := { name := "refsCounts", fn := fun _ => fun
  | [d1, d2] => { results := [.lit (.bool false)], args := [d1, d2] }
  | _ => none }
def RefsCountsWrongFalsely : Prop := refsCountsRow.holds Try.pinned (OpenSpec.ofChange refsCountsWrong)

/-- 'flagstonelaw09.RefsWho': WHATEVER THE INPUT: true; the input reads as it did. -/
def refsWhoSpec : ChangeSpec := { name := "refsWho", fn := fun _ => fun
  | [d1, d2] => { results := [.lit (.bool true)], args := [d1, d2] }
  | _ => none }
def refsWhoRow : OpenClaim := { program := "ytinlgoljaiolnaa", sum := "9247e2d40474e5e84deadfcd44d5b4dee29130719f5bd71e62aac025a975dafd", func := "flagstone/flagstonelaw09.RefsWho", spec := "refsWho", unfollowed := true, recurses := true, apart := false }
def RefsWhoSaid : Prop := refsWhoRow.holds Try.pinned (OpenSpec.ofChange refsWhoSpec)

/-- ITS FALSE NEIGHBOUR: 'it returns false'. Refute it at one input. -/
def refsWhoWrong : ChangeSpec := { name := "refsWho", fn := fun _ => fun
  | [d1, d2] => { results := [.lit (.bool false)], args := [d1, d2] }
  | _ => none }
def RefsWhoWrongFalsely : Prop := refsWhoRow.holds Try.pinned (OpenSpec.ofChange refsWhoWrong)

/-- 'flagstonelaw09.RefsOwn': WHATEVER THE INPUT: true; the input reads as it did. -/
def refsOwnSpec : ChangeSpec := { name := "refsOwn", fn := fun _ => fun
  | [d] => { results := [.lit (.bool true)], args := [d] }
  | _ => none }
def refsOwnRow : OpenClaim := { program := "ytinlgoljaiolnaa", sum := "9247e2d40474e5e84deadfcd44d5b4dee29130719f5bd71e62aac025a975dafd", func := "flagstone/flagstonelaw09.RefsOwn", spec := "refsOwn", unfollowed := true, recurses := true, apart := false }
def RefsOwnSaid : Prop := refsOwnRow.holds Try.pinned (OpenSpec.ofChange refsOwnSpec)

/-- ITS FALSE NEIGHBOUR: 'it returns false'. Refute it at one input. -/
def refsOwnWrong : ChangeSpec := { name := "refsOwn", fn := fun _ => fun
  | [d] => { results := [.lit (.bool false)], args := [d] }
  | _ => none }
def RefsOwnWrongFalsely : Prop := refsOwnRow.holds Try.pinned (OpenSpec.ofChange refsOwnWrong)

/- THE SECOND FORM. 'bulk': how many values and letters a reading holds, each counted each time it is reached (what is shared counts as often as it is met; a slice's spare places count too). A statement '..UptoSaid' is the law's where the arguments, and the package variables that the reading takes, are together of bulk at most 1048576: NARROWER than '..Said'. Prove '..Said' where nothing that the law and all that it calls make is longer than what came in: it says more and counts as full. Else prove '..UptoSaid'. A law counts once. -/
mutual
def uptoBulk {H : Type} : DataW H → Nat
  | .lit (.string bytes) => bytes.length + 1
  | .lit _ => 1
  | .nil => 1
  | .ptr d => uptoBulk d + 1
  | .slice elems spare => uptoBulkAll elems + uptoBulkAll spare + 1
  | .agg parts => uptoBulkAll parts + 1
  | .iface _ d => uptoBulk d + 1
  | .map entries => uptoBulkEntries entries + 1
  | .held _ => 1
def uptoBulkAll {H : Type} : List (DataW H) → Nat
  | [] => 0
  | d :: r => uptoBulk d + uptoBulkAll r
def uptoBulkEntries {H : Type} : List (Lit × DataW H) → Nat
  | [] => 0
  | x :: r => uptoBulkEntry x + uptoBulkEntries r
def uptoBulkEntry {H : Type} : Lit × DataW H → Nat
  | (.string bytes, d) => bytes.length + uptoBulk d + 1
  | (_, d) => uptoBulk d + 1
 end
def uptoSmall : (H : Type) → List (DataW H) → Bool := fun _ ds => decide (uptoBulkAll ds ≤ 1048576)
def OpenSpec.upto (s : _root_.Go.ChangeSpec) : _root_.Go.OpenSpec := { _root_.Go.OpenSpec.ofChange s with cond := some uptoSmall }

/-- 'flagstonelaw09.RefsTells', WHERE WHAT IT READS IS OF BULK AT MOST 1048576: true; the input reads as it did. -/
def refsTellsUptoRow : OpenClaim := { program := "ytinlgoljaiolnaa", sum := "9247e2d40474e5e84deadfcd44d5b4dee29130719f5bd71e62aac025a975dafd", func := "flagstone/flagstonelaw09.RefsTells", spec := "refsTells", unfollowed := true, recurses := true, apart := false, narrowed := true }
def RefsTellsUptoSaid : Prop := refsTellsUptoRow.holds Try.pinned (OpenSpec.upto refsTellsSpec)

/-- 'flagstonelaw09.RefsBack', WHERE WHAT IT READS IS OF BULK AT MOST 1048576: true; the input reads as it did. -/
def refsBackUptoRow : OpenClaim := { program := "ytinlgoljaiolnaa", sum := "9247e2d40474e5e84deadfcd44d5b4dee29130719f5bd71e62aac025a975dafd", func := "flagstone/flagstonelaw09.RefsBack", spec := "refsBack", unfollowed := true, recurses := true, apart := false, narrowed := true }
def RefsBackUptoSaid : Prop := refsBackUptoRow.holds Try.pinned (OpenSpec.upto refsBackSpec)

/-- 'flagstonelaw09.RefsAgain', WHERE WHAT IT READS IS OF BULK AT MOST 1048576: true; the input reads as it did. -/
def refsAgainUptoRow : OpenClaim := { program := "ytinlgoljaiolnaa", sum := "9247e2d40474e5e84deadfcd44d5b4dee29130719f5bd71e62aac025a975dafd", func := "flagstone/flagstonelaw09.RefsAgain", spec := "refsAgain", unfollowed := true, recurses := true, apart := false, narrowed := true }
def RefsAgainUptoSaid : Prop := refsAgainUptoRow.holds Try.pinned (OpenSpec.upto refsAgainSpec)

/-- 'flagstonelaw09.RefsCounts', WHERE WHAT IT READS IS OF BULK AT MOST 1048576: true; the input reads as it did. -/
def refsCountsUptoRow : OpenClaim := { program := "ytinlgoljaiolnaa", sum := "9247e2d40474e5e84deadfcd44d5b4dee29130719f5bd71e62aac025a975dafd", func := "flagstone/flagstonelaw09.RefsCounts", spec := "refsCounts", unfollowed := true, recurses := true, apart := false, narrowed := true }
def RefsCountsUptoSaid : Prop := refsCountsUptoRow.holds Try.pinned (OpenSpec.upto refsCountsSpec)

/-- 'flagstonelaw09.RefsWho', WHERE WHAT IT READS IS OF BULK AT MOST 1048576: true; the input reads as it did. -/
def refsWhoUptoRow : OpenClaim := { program := "ytinlgoljaiolnaa", sum := "9247e2d40474e5e84deadfcd44d5b4dee29130719f5bd71e62aac025a975dafd", func := "flagstone/flagstonelaw09.RefsWho", spec := "refsWho", unfollowed := true, recurses := true, apart := false, narrowed := true }
def RefsWhoUptoSaid : Prop := refsWhoUptoRow.holds Try.pinned (OpenSpec.upto refsWhoSpec)

/-- 'flagstonelaw09.RefsOwn', WHERE WHAT IT READS IS OF BULK AT MOST 1048576: true; the input reads as it did. -/
def refsOwnUptoRow : OpenClaim := { program := "ytinlgoljaiolnaa", sum := "9247e2d40474e5e84deadfcd44d5b4dee29130719f5bd71e62aac025a975dafd", func := "flagstone/flagstonelaw09.RefsOwn", spec := "refsOwn", unfollowed := true, recurses := true, apart := false, narrowed := true }
def RefsOwnUptoSaid : Prop := refsOwnUptoRow.holds Try.pinned (OpenSpec.upto refsOwnSpec)

end Rows
end Go.Proofs.Ytinlgoljaiolnaa
