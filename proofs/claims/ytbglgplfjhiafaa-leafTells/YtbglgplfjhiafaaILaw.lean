/-
  Nodes held against one another. Conditions: those that each contract names.
-/
import Derived.Test.YtbglgplfjhiafaaIFun
namespace Go.Proofs.Ytbglgplfjhiafaa
open Go.RowKit
set_option linter.unusedVariables false

theorem rNod_rd {w : World} {P : Nat → Prop} {cs : List Value} {s : Nod} (h : rNod.rd w P cs s) : ∃ a n c a' n' c', cs = [.slice a n c, .slice a' n' c'] ∧ rItms.rd w P [.slice a n c] s.1 ∧ rKids.rd w P [.slice a' n' c'] s.2 := by
  obtain ⟨_, _, rfl, h1, h2⟩ := h
  obtain ⟨a, n, c, rfl, r⟩ := h1
  obtain ⟨a', n', c', rfl, r'⟩ := h2
  exact ⟨a, n, c, a', n', c', rfl, ⟨a, n, c, rfl, r⟩, ⟨a', n', c', rfl, r'⟩⟩

set_option maxHeartbeats 2000000 in
theorem alike_u (w : World) (P P' Q Q' : Nat → Prop) (a a' b b' : Option Addr) (n c n' c' k d k' d' : Nat) (l : List Itm) (ks : List Int) (hL : rItms.rd w P [.slice a n c] l) (hK : rKids.rd w P' [.slice a' n' c'] ks) (hM : rItms.rd w Q [.slice b k d] l) (hJ : rKids.rd w Q' [.slice b' k' d'] ks) :
    Calls Try.prog 17 #[.agg #[.slice a n c, .slice a' n' c'], .agg #[.slice b k d, .slice b' k' d']] w fun e w' => e = .returned (.int .i64 0) ∧ Below w.heap.size w w' := by
  have HL : Hid _ := hL
  have HK : Hid _ := hK
  have HM : Hid _ := hM
  have HJ : Hid _ := hJ
  obtain ⟨w0, hw0, V0, b0, z0⟩ := boxedRow w 28 [.slice a n c, .slice a' n' c']
  obtain ⟨w1, hw1, V1, b1, z1⟩ := boxedRow w0 25 [.slice b k d, .slice b' k' d']
  rw [z0] at V1
  have HV0 : Hid (Row w1 w.heap.size 28 [.slice a n c, .slice a' n' c']) := V0.below b1
  have HV1 : Hid (Row w1 (w.heap.size + 1) 25 [.slice b k d, .slice b' k' d']) := V1
  have B1 : Hid (Below w.heap.size w w1) := on b0 b1
  obtain ⟨d0, d1⟩ := HV0.out.two
  obtain ⟨d2, d3⟩ := HV1.out.two
  clear hL hK hM hJ V0 V1 b0 b1 z1
  go_enter Try.func17, Try.ntmps17
  go_wp2_with fail
  refine (sameItms_u _ P Q _ _ _ _ _ _ l l (Rep.below HL.out B1.out) (Rep.below HM.out B1.out)).mono ?_
  rintro e w2 ⟨rfl, b2⟩
  rw [decide_eq_true rfl]
  have B2 : Hid (Below w.heap.size w w2) := on B1.out b2
  obtain ⟨d4, d5⟩ := (HV0.out.below b2).two
  obtain ⟨d6, d7⟩ := (HV1.out.below b2).two
  go_wp2_with fail
  refine (sameKids_u _ P' Q' _ _ _ _ _ _ ks ks (Rep.below HK.out B2.out) (Rep.below HJ.out B2.out)).mono ?_
  rintro e w3 ⟨rfl, b3⟩
  rw [decide_eq_true rfl]
  go_wp2
  go_ret
  exact ⟨rfl, on B2.out b3⟩

end Go.Proofs.Ytbglgplfjhiafaa
