/-
  No cell of these rows narrows 'for every input' (looked for: loops, veiled, ifaces, maps, wideKeys, modest, calm, conditions, laid).
  DERIVED. THE GIVEN ROWS OF THIS SEAT. 6 by the template 'for every input the law returns true; each argument reads behind the call as it read before'; 0 by the template 'total and deterministic' (their statements: YtlpmfbinemmikaaTotals.lean).
  GIVEN WITH THE SEED: the statements are not yours to turn. If you find one false, say at which input.
  Laid BY PROGRAM, IN A SANDBOX (cutbox-rows.mjs): the forced cells as the released guide's own fill.sh prints them over the translation e733e7a522ff98ee… (all of the seat's roots in one cut). By AI agents, Wed Nov 11 2026. No macro, syntax, notation, axiom, sorry.
-/
import Derived.Test.YtlpmfbinemmikaaChecked
import GoSem.Claim
import GoSem.ClaimJoined
import GoSem.ClaimMapViews
import Derived.JoinedTies
import Derived.KernelRfl
namespace Go.Proofs.Ytlpmfbinemmikaa
/- THE CELL 'sum', in the pinned program and in every row, IS THE sha256 OF THE DUMP (.gsa) THAT YtlpmfbinemmikaaProg.lean LOADS. Nothing in Lean hashes anything: it is a label: what it is worth is what the hold of that sum in a sandbox is worth. -/
noncomputable def Try.pinned : Pinned := { name := "ytlpmfbinemmikaa", sum := "e733e7a522ff98eeddcce0db0e0f5d22eb74c0d5d6b5c158c321775fa882fff4", checked := Try.checked }
namespace Rows
def none {H : Type} : Left H := { results := [], args := [] }

/-- 'flagstonelaw05.ExtentTells': WHATEVER THE INPUT: true; the input reads as it did. -/
def extentTellsSpec : ChangeSpec := { name := "extentTells", fn := fun _ => fun
  | [d1, d2, d3, d4] => { results := [.lit (.bool true)], args := [d1, d2, d3, d4] }
  | _ => none }
def extentTellsRow : OpenClaim := { program := "ytlpmfbinemmikaa", sum := "e733e7a522ff98eeddcce0db0e0f5d22eb74c0d5d6b5c158c321775fa882fff4", func := "flagstone/flagstonelaw05.ExtentTells", spec := "extentTells", unfollowed := true, recurses := true, apart := false }
def ExtentTellsSaid : Prop := extentTellsRow.holds Try.pinned (OpenSpec.ofChange extentTellsSpec)

/-- ITS FALSE NEIGHBOUR: 'it returns false'. Refute it at one input. -/
def extentTellsWrong : ChangeSpec := { name := "extentTells", fn := fun _ => fun
  | [d1, d2, d3, d4] => { results := [.lit (.bool false)], args := [d1, d2, d3, d4] }
  | _ => none }
def ExtentTellsWrongFalsely : Prop := extentTellsRow.holds Try.pinned (OpenSpec.ofChange extentTellsWrong)

/-- 'flagstonelaw05.ExtentMoves': WHATEVER THE INPUT: true; the input reads as it did. -/
def extentMovesSpec : ChangeSpec := { name := "extentMoves", fn := fun _ => fun
  | [d1, d2, d3] => { results := [.lit (.bool true)], args := [d1, d2, d3] }
  | _ => none }
def extentMovesRow : OpenClaim := { program := "ytlpmfbinemmikaa", sum := "e733e7a522ff98eeddcce0db0e0f5d22eb74c0d5d6b5c158c321775fa882fff4", func := "flagstone/flagstonelaw05.ExtentMoves", spec := "extentMoves", unfollowed := true, recurses := true, apart := false }
def ExtentMovesSaid : Prop := extentMovesRow.holds Try.pinned (OpenSpec.ofChange extentMovesSpec)

/-- ITS FALSE NEIGHBOUR: 'it returns false'. Refute it at one input. -/
def extentMovesWrong : ChangeSpec := { name := "extentMoves", fn := fun _ => fun
  | [d1, d2, d3] => { results := [.lit (.bool false)], args := [d1, d2, d3] }
  | _ => none }
def ExtentMovesWrongFalsely : Prop := extentMovesRow.holds Try.pinned (OpenSpec.ofChange extentMovesWrong)

/-- 'flagstonelaw05.ExtentPuts': WHATEVER THE INPUT: true; the input reads as it did. -/
def extentPutsSpec : ChangeSpec := { name := "extentPuts", fn := fun _ => fun
  | [d1, d2, d3] => { results := [.lit (.bool true)], args := [d1, d2, d3] }
  | _ => none }
def extentPutsRow : OpenClaim := { program := "ytlpmfbinemmikaa", sum := "e733e7a522ff98eeddcce0db0e0f5d22eb74c0d5d6b5c158c321775fa882fff4", func := "flagstone/flagstonelaw05.ExtentPuts", spec := "extentPuts", unfollowed := true, recurses := true, apart := false }
def ExtentPutsSaid : Prop := extentPutsRow.holds Try.pinned (OpenSpec.ofChange extentPutsSpec)

/-- ITS FALSE NEIGHBOUR: 'it returns false'. Refute it at one input. -/
def extentPutsWrong : ChangeSpec := { name := "extentPuts", fn := fun _ => fun
  | [d1, d2, d3] => { results := [.lit (.bool false)], args := [d1, d2, d3] }
  | _ => none }
def ExtentPutsWrongFalsely : Prop := extentPutsRow.holds Try.pinned (OpenSpec.ofChange extentPutsWrong)

/-- 'flagstonelaw05.ExtentCuts': WHATEVER THE INPUT: true; the input reads as it did. -/
def extentCutsSpec : ChangeSpec := { name := "extentCuts", fn := fun _ => fun
  | [d1, d2, d3, d4] => { results := [.lit (.bool true)], args := [d1, d2, d3, d4] }
  | _ => none }
def extentCutsRow : OpenClaim := { program := "ytlpmfbinemmikaa", sum := "e733e7a522ff98eeddcce0db0e0f5d22eb74c0d5d6b5c158c321775fa882fff4", func := "flagstone/flagstonelaw05.ExtentCuts", spec := "extentCuts", unfollowed := true, recurses := true, apart := false }
def ExtentCutsSaid : Prop := extentCutsRow.holds Try.pinned (OpenSpec.ofChange extentCutsSpec)

/-- ITS FALSE NEIGHBOUR: 'it returns false'. Refute it at one input. -/
def extentCutsWrong : ChangeSpec := { name := "extentCuts", fn := fun _ => fun
  | [d1, d2, d3, d4] => { results := [.lit (.bool false)], args := [d1, d2, d3, d4] }
  | _ => none }
def ExtentCutsWrongFalsely : Prop := extentCutsRow.holds Try.pinned (OpenSpec.ofChange extentCutsWrong)

/-- 'flagstonelaw05.ExtentFollows': WHATEVER THE INPUT: true; the input reads as it did. -/
def extentFollowsSpec : ChangeSpec := { name := "extentFollows", fn := fun _ => fun
  | [d1, d2, d3, d4] => { results := [.lit (.bool true)], args := [d1, d2, d3, d4] }
  | _ => none }
def extentFollowsRow : OpenClaim := { program := "ytlpmfbinemmikaa", sum := "e733e7a522ff98eeddcce0db0e0f5d22eb74c0d5d6b5c158c321775fa882fff4", func := "flagstone/flagstonelaw05.ExtentFollows", spec := "extentFollows", unfollowed := true, recurses := true, apart := false }
def ExtentFollowsSaid : Prop := extentFollowsRow.holds Try.pinned (OpenSpec.ofChange extentFollowsSpec)

/-- ITS FALSE NEIGHBOUR: 'it returns false'. Refute it at one input. -/
def extentFollowsWrong : ChangeSpec := { name := "extentFollows", fn := fun _ => fun
  | [d1, d2, d3, d4] => { results := [.lit (.bool false)], args := [d1, d2, d3, d4] }
  | _ => none }
def ExtentFollowsWrongFalsely : Prop := extentFollowsRow.holds Try.pinned (OpenSpec.ofChange extentFollowsWrong)

/-- 'flagstonelaw05.ExtentLooks': WHATEVER THE INPUT: true; the input reads as it did. -/
def extentLooksSpec : ChangeSpec := { name := "extentLooks", fn := fun _ => fun
  | [d1, d2, d3] => { results := [.lit (.bool true)], args := [d1, d2, d3] }
  | _ => none }
def extentLooksRow : OpenClaim := { program := "ytlpmfbinemmikaa", sum := "e733e7a522ff98eeddcce0db0e0f5d22eb74c0d5d6b5c158c321775fa882fff4", func := "flagstone/flagstonelaw05.ExtentLooks", spec := "extentLooks", unfollowed := true, recurses := true, apart := false }
def ExtentLooksSaid : Prop := extentLooksRow.holds Try.pinned (OpenSpec.ofChange extentLooksSpec)

/-- ITS FALSE NEIGHBOUR: 'it returns false'. Refute it at one input. -/
def extentLooksWrong : ChangeSpec := { name := "extentLooks", fn := fun _ => fun
  | [d1, d2, d3] => { results := [.lit (.bool false)], args := [d1, d2, d3] }
  | _ => none }
def ExtentLooksWrongFalsely : Prop := extentLooksRow.holds Try.pinned (OpenSpec.ofChange extentLooksWrong)

/- THE SECOND FORM. 'bulk': how many values and letters a reading holds, each counted each time it is reached (what is shared counts as often as it is met; a slice's spare places count too). A statement '..UptoSaid' is the law's where the arguments, and the package variables that the reading takes, are together of bulk at most 1048576: NARROWER than '..Said'. Prove '..Said' where nothing that the law and all that it calls make is longer than what came in: it says more and counts as full. Else prove '..UptoSaid'. A law counts once. -/
mutual
def uptoBulk {H : Type} : DataW H → Nat
  | .lit (.string bytes) => bytes.length + 1
  | .lit _ => 1
  | .nil => 1
  | .ptr d => uptoBulk d + 1
  | .slice elems spare => uptoBulkAll elems + uptoBulkAll spare + 1
  | .agg parts => uptoBulkAll parts + 1
  | .iface _ d => uptoBulk d + 1
  | .map entries => uptoBulkEntries entries + 1
  | .held _ => 1
def uptoBulkAll {H : Type} : List (DataW H) → Nat
  | [] => 0
  | d :: r => uptoBulk d + uptoBulkAll r
def uptoBulkEntries {H : Type} : List (Lit × DataW H) → Nat
  | [] => 0
  | x :: r => uptoBulkEntry x + uptoBulkEntries r
def uptoBulkEntry {H : Type} : Lit × DataW H → Nat
  | (.string bytes, d) => bytes.length + uptoBulk d + 1
  | (_, d) => uptoBulk d + 1
 end
def uptoSmall : (H : Type) → List (DataW H) → Bool := fun _ ds => decide (uptoBulkAll ds ≤ 1048576)
def OpenSpec.upto (s : _root_.Go.ChangeSpec) : _root_.Go.OpenSpec := { _root_.Go.OpenSpec.ofChange s with cond := some uptoSmall }

/-- 'flagstonelaw05.ExtentTells', WHERE WHAT IT READS IS OF BULK AT MOST 1048576: true; the input reads as it did. -/
def extentTellsUptoRow : OpenClaim := { program := "ytlpmfbinemmikaa", sum := "e733e7a522ff98eeddcce0db0e0f5d22eb74c0d5d6b5c158c321775fa882fff4", func := "flagstone/flagstonelaw05.ExtentTells", spec := "extentTells", unfollowed := true, recurses := true, apart := false, narrowed := true }
def ExtentTellsUptoSaid : Prop := extentTellsUptoRow.holds Try.pinned (OpenSpec.upto extentTellsSpec)

/-- 'flagstonelaw05.ExtentMoves', WHERE WHAT IT READS IS OF BULK AT MOST 1048576: true; the input reads as it did. -/
def extentMovesUptoRow : OpenClaim := { program := "ytlpmfbinemmikaa", sum := "e733e7a522ff98eeddcce0db0e0f5d22eb74c0d5d6b5c158c321775fa882fff4", func := "flagstone/flagstonelaw05.ExtentMoves", spec := "extentMoves", unfollowed := true, recurses := true, apart := false, narrowed := true }
def ExtentMovesUptoSaid : Prop := extentMovesUptoRow.holds Try.pinned (OpenSpec.upto extentMovesSpec)

/-- 'flagstonelaw05.ExtentPuts', WHERE WHAT IT READS IS OF BULK AT MOST 1048576: true; the input reads as it did. -/
def extentPutsUptoRow : OpenClaim := { program := "ytlpmfbinemmikaa", sum := "e733e7a522ff98eeddcce0db0e0f5d22eb74c0d5d6b5c158c321775fa882fff4", func := "flagstone/flagstonelaw05.ExtentPuts", spec := "extentPuts", unfollowed := true, recurses := true, apart := false, narrowed := true }
def ExtentPutsUptoSaid : Prop := extentPutsUptoRow.holds Try.pinned (OpenSpec.upto extentPutsSpec)

/-- 'flagstonelaw05.ExtentCuts', WHERE WHAT IT READS IS OF BULK AT MOST 1048576: true; the input reads as it did. -/
def extentCutsUptoRow : OpenClaim := { program := "ytlpmfbinemmikaa", sum := "e733e7a522ff98eeddcce0db0e0f5d22eb74c0d5d6b5c158c321775fa882fff4", func := "flagstone/flagstonelaw05.ExtentCuts", spec := "extentCuts", unfollowed := true, recurses := true, apart := false, narrowed := true }
def ExtentCutsUptoSaid : Prop := extentCutsUptoRow.holds Try.pinned (OpenSpec.upto extentCutsSpec)

/-- 'flagstonelaw05.ExtentFollows', WHERE WHAT IT READS IS OF BULK AT MOST 1048576: true; the input reads as it did. -/
def extentFollowsUptoRow : OpenClaim := { program := "ytlpmfbinemmikaa", sum := "e733e7a522ff98eeddcce0db0e0f5d22eb74c0d5d6b5c158c321775fa882fff4", func := "flagstone/flagstonelaw05.ExtentFollows", spec := "extentFollows", unfollowed := true, recurses := true, apart := false, narrowed := true }
def ExtentFollowsUptoSaid : Prop := extentFollowsUptoRow.holds Try.pinned (OpenSpec.upto extentFollowsSpec)

/-- 'flagstonelaw05.ExtentLooks', WHERE WHAT IT READS IS OF BULK AT MOST 1048576: true; the input reads as it did. -/
def extentLooksUptoRow : OpenClaim := { program := "ytlpmfbinemmikaa", sum := "e733e7a522ff98eeddcce0db0e0f5d22eb74c0d5d6b5c158c321775fa882fff4", func := "flagstone/flagstonelaw05.ExtentLooks", spec := "extentLooks", unfollowed := true, recurses := true, apart := false, narrowed := true }
def ExtentLooksUptoSaid : Prop := extentLooksUptoRow.holds Try.pinned (OpenSpec.upto extentLooksSpec)

end Rows
end Go.Proofs.Ytlpmfbinemmikaa
