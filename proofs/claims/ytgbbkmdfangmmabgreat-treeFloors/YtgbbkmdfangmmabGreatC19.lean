/-
  Facts that the proof rests on, part 20. Conditions: those that each of them names.
-/
import Derived.ChangeOld
import Derived.OpenShut
import Derived.ProofKit
import Derived.ShutString
import Derived.SizedLaws
import Derived.Test.YtgbbkmdfangmmabGreatRows
import Derived.Test.YtgbbkmdfangmmabGreatC02
import Derived.Test.YtgbbkmdfangmmabGreatC03
import Derived.Test.YtgbbkmdfangmmabGreatC04
import Derived.Test.YtgbbkmdfangmmabGreatC06
import Derived.Test.YtgbbkmdfangmmabGreatC07
import Derived.Test.YtgbbkmdfangmmabGreatC11
namespace Go.Proofs.YtgbbkmdfangmmabGreat
set_option maxRecDepth 20000
open Go.ChangeShapes Go.WideShapes Go.ChangeAt Go.RowKit
theorem own : ownKnob Tryz.prog.godebug = none := by kernel_rfl
theorem laidOut : laidOutB Tryz.prog = true := by kernel_rfl
theorem opens_octets : Opens Tryz.prog 94 rBytes := opens_list Tryz.underlying94 (by kernel_rfl) (by kernel_rfl) (opens_byte Tryz.underlying5)
theorem opens_sectors : Opens Tryz.prog 22 rSectors := opens_list Tryz.underlying22 (by kernel_rfl) (by kernel_rfl) opens_octets
theorem opens_pages : Opens Tryz.prog 24 rSectors :=
  opens_struct Tryz.underlying24 (by kernel_rfl) (opens_last rfl (by kernel_rfl) opens_sectors)
theorem rPages_rd {w : World} {P : Nat → Prop} {cs : List Value} {s : List (List UInt8)} (h : rSectors.rd w P cs s) : ∃ a n c, cs = [.slice a n c] ∧ s.length = n ∧ n ≤ 5864062014634 := by
  obtain ⟨a, n, c, e, h1, -, -, h4, -⟩ := h
  have h5 : n * 24 ≤ 140737488351232 := h4
  exact ⟨a, n, c, e, h1, by omega⟩
end Go.Proofs.YtgbbkmdfangmmabGreat
namespace Go.Proofs.YtgbbkmdfangmmabGreat
set_option maxRecDepth 20000
open Go.RowKit
set_option linter.unusedVariables false
set_option maxHeartbeats 1000000 in
theorem of8_u (w : World) (P : Nat → Prop) (s : Pgs) (a : Option Addr) (n c : Nat) (hR : rSectors.rd w P [.slice a n c] s) :
    Calls Tryz.prog 7 #[.agg #[.slice a n c]] w fun e w' => ∃ b d, e = .returned (.agg #[.slice b n d]) ∧ rSectors.rd w' (fun k => w.heap.size ≤ k) [.slice b n d] s ∧ Below w.heap.size w w' := by
  obtain ⟨w1, hw1, V1, b1, z1⟩ := boxedRow w 24 [.slice a n c]
  obtain ⟨w2, hw2, V2, b2, z2⟩ := boxedRow w1 29 [.slice none 0 0]
  have B2 : Hid (Below w.heap.size w w2) := on b1 b2
  have HV2 : Hid (Row w2 w1.heap.size 29 [.slice none 0 0]) := V2
  have HZ : Hid (w.heap.size ≤ w1.heap.size) := b1.size
  have HZ1 : Hid (w1.heap.size = w.heap.size + 1) := z1
  have HC : Hid _ := copyList_r w2 P a n c s (Rep.below hR B2.out)
  have c0 := (V1.below b2).cell (j := 0) rfl
  clear V1 V2 b1 b2 z1 z2 hR
  go_enter Tryz.func7, Tryz.ntmps7
  go_wp2_with fail
  go_at_call 23
  refine Calls.mono HC.out ?_
  rintro e w3 ⟨b, d, rfl, hr, b3⟩
  have HV3 : Hid (Row w3 w1.heap.size 29 [.slice none 0 0]) := HV2.out.below b3
  have HR3 : Hid _ := hr
  have B3 : Hid (Below w.heap.size w w3) := on B2.out b3
  have HS2 : Hid (w1.heap.size < w2.heap.size) := HV2.out.lt
  have e0 := HV3.out.cell (j := 0) rfl
  have e1 := HV3.out.frozen 0
  clear hr b3
  go_wp2
  have hk : Kept (· ≠ w1.heap.size) w3 (w3.setCell ⟨w1.heap.size, 0, none⟩ (.slice b n d)) := (Kept.refl _ w3).setCell (p := ⟨w1.heap.size, 0, none⟩) (fun h => h rfl) _
  refine bodyPost_ret (results_row (xs := [.slice b n d]) rfl (by first | rfl | (simp only [HZ1.out]; rfl)) (HV3.out.set 0 _) Tryz.underlying29 rfl (by kernel_rfl)) rfl ⟨b, d, rfl, ?_, Kept.belowOf B3.out hk (by have := HZ.out; omega)⟩
  exact rSectors.weaken (Rep.kept HR3.out hk (fun q hq _ => by have h1 : w2.heap.size ≤ q := hq; have h2 := HS2.out; show q ≠ w1.heap.size; omega)) (fun q hq _ => by have h1 : w2.heap.size ≤ q := hq; have h2 := HS2.out; have h3 := HZ.out; show w.heap.size ≤ q; omega)
end Go.Proofs.YtgbbkmdfangmmabGreat
