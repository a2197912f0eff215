/-
  Any two nodes held against one another. Conditions: those that each contract names.
-/
import Derived.Test.YtbglgplfjhiafaaILaw
namespace Go.Proofs.Ytbglgplfjhiafaa
open Go.RowKit
set_option linter.unusedVariables false

set_option maxHeartbeats 2000000 in
theorem unlike_u (w : World) (P P' Q Q' : Nat → Prop) (a a' b b' : Option Addr) (n c n' c' k d k' d' : Nat) (l m : List Itm) (ks js : List Int) (hL : rItms.rd w P [.slice a n c] l) (hK : rKids.rd w P' [.slice a' n' c'] ks) (hM : rItms.rd w Q [.slice b k d] m) (hJ : rKids.rd w Q' [.slice b' k' d'] js) (hne : ¬ (l, ks) = (m, js)) :
    Calls Try.prog 17 #[.agg #[.slice a n c, .slice a' n' c'], .agg #[.slice b k d, .slice b' k' d']] w fun e w' => e = .returned (.int .i64 1) ∧ Below w.heap.size w w' := by
  have HL : Hid _ := hL
  have HK : Hid _ := hK
  have HM : Hid _ := hM
  have HJ : Hid _ := hJ
  have HNE : Hid _ := hne
  obtain ⟨w0, hw0, V0, b0, z0⟩ := boxedRow w 28 [.slice a n c, .slice a' n' c']
  obtain ⟨w1, hw1, V1, b1, z1⟩ := boxedRow w0 25 [.slice b k d, .slice b' k' d']
  rw [z0] at V1
  have HV0 : Hid (Row w1 w.heap.size 28 [.slice a n c, .slice a' n' c']) := V0.below b1
  have HV1 : Hid (Row w1 (w.heap.size + 1) 25 [.slice b k d, .slice b' k' d']) := V1
  have B1 : Hid (Below w.heap.size w w1) := on b0 b1
  obtain ⟨d0, d1⟩ := HV0.out.two
  obtain ⟨d2, d3⟩ := HV1.out.two
  clear hL hK hM hJ V0 V1 b0 b1 z1 hne
  go_enter Try.func17, Try.ntmps17
  go_wp2_with fail
  refine (sameItms_u _ P Q _ _ _ _ _ _ l m (Rep.below HL.out B1.out) (Rep.below HM.out B1.out)).mono ?_
  rintro e w2 ⟨rfl, b2⟩
  have B2 : Hid (Below w.heap.size w w2) := on B1.out b2
  obtain ⟨d4, d5⟩ := (HV0.out.below b2).two
  obtain ⟨d6, d7⟩ := (HV1.out.below b2).two
  by_cases h1 : l = m
  · rw [decide_eq_true h1]
    have HX : Hid (¬ ks = js) := fun h => HNE.out (by rw [h1, h])
    clear h1
    go_wp2_with fail
    refine (sameKids_u _ P' Q' _ _ _ _ _ _ ks js (Rep.below HK.out B2.out) (Rep.below HJ.out B2.out)).mono ?_
    rintro e w3 ⟨rfl, b3⟩
    rw [decide_eq_false HX.out]
    go_wp2
    go_ret
    exact ⟨rfl, on B2.out b3⟩
  · rw [decide_eq_false h1]
    clear h1
    go_wp2
    go_ret
    exact ⟨rfl, B2.out⟩

end Go.Proofs.Ytbglgplfjhiafaa
