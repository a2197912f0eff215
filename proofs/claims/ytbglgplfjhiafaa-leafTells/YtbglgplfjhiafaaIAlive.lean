/-
  The page's example of a node holds of the program. Conditions: none.
-/
import Derived.Test.YtbglgplfjhiafaaJEnc
import Derived.Test.YtbglgplfjhiafaaIOf2
namespace Go.Proofs.Ytbglgplfjhiafaa
open Go.RowKit
set_option linter.unusedVariables false

def al7 : Nod := ([(2, 3)], [])
theorem al7_ok : Lf.ok al7 = true := by decide
theorem al7_head : (Lf.enc al7).take 4 = [1, 1, 0, 0] := by decide +kernel
theorem al7_four : (Lf.enc al7).getD 4 0 = 2 := by decide +kernel
theorem al7_twelve : (Lf.enc al7).getD 12 0 = 3 := by decide +kernel

theorem isB_at {w : World} {ab off n : Nat} {b : List UInt8} (hB : IsB w (some ⟨ab, off, none⟩) n b) (j : Nat) (hj : j < n) : w.cell? ⟨ab, off + j, none⟩ = some (.int .u8 ((b.getD j 0).toNat : Int)) := by
  have hl := hB.1
  have h := hB.2.2 _ rfl j (by omega)
  rw [Addr.add_lit] at h
  rw [h, show b.getD j 0 = b[j] by simp [List.getD, List.getElem?_eq_getElem (show j < b.length by omega)]]

set_option maxRecDepth 20000 in
set_option maxHeartbeats 2000000 in
theorem alive7_u (w : World) : Calls Try.prog 22 #[] w fun e w' => e = .returned (.bool true) ∧ Below w.heap.size w w' := by
  have HL := (OwnI.lit 53 w w.heap.size (Nat.le_refl _) (2, 3)).rd (by simp)
  have HK : rKids.rd (w.alloc (.cells #[.int .u64 2, .int .u64 3] 53)) (fun _ => True) [.slice none 0 0] [] := ⟨none, 0, 0, rfl, rfl, Nat.le_refl _, fun _ => rfl, by decide, fun x hx => by cases hx⟩
  go_enter Try.func22, Try.ntmps22
  go_wp2_with fail
  refine (encode_u _ _ _ _ _ _ _ _ _ [(2, 3)] [] HL HK).mono ?_
  rintro e w1 ⟨xa, xn, xc, rfl, ho, b1⟩
  have B1 : Hid (Below w.heap.size w w1) := on ((Below.refl _ _).alloc (Nat.le_refl _) _) b1
  rw [show Lf.encodeE ([(2, 3)], []) = 0 from if_pos al7_ok]
  rw [show Lf.encodeL ([(2, 3)], []) = Lf.enc al7 from if_pos al7_ok] at ho
  obtain rfl : xn = 64 := (owns_len ho).trans (Lf.enc_len (Lf.ok_iff.1 al7_ok))
  obtain ⟨hX, hXc, -⟩ := owns_isB ho
  obtain ⟨xb, xo, rfl, -⟩ := hX.place (by decide)
  have c4 : w1.cell? ⟨xb, xo + 4, none⟩ = some (.int .u8 2) := by have h := isB_at hX 4 (by decide); rw [al7_four] at h; exact h
  have c12 : w1.cell? ⟨xb, xo + 12, none⟩ = some (.int .u8 3) := by have h := isB_at hX 12 (by decide); rw [al7_twelve] at h; exact h
  have hs := conv_bytes w1 (some ⟨xb, xo, none⟩) 4 xc _ (by have h := hX.head 4 (by decide) (by decide); rw [al7_head] at h; exact h)
  clear hX ho HL HK b1
  go_wp2_with (go_at_call 16; refine (num7_u _ _).mono ?_; rintro e w99 ⟨rfl, rfl⟩)
  go_ret
  exact ⟨rfl, B1.out⟩

end Go.Proofs.Ytbglgplfjhiafaa
