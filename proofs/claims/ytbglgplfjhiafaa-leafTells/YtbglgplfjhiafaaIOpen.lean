/-
  Octets that bear their sum, opened: what stands at a place. Conditions: those that each lemma names.
-/
import Derived.Test.YtbglgplfjhiafaaBytes
import Derived.Test.YtbglgplfjhiafaaSpec2c
namespace Go.Proofs.Ytbglgplfjhiafaa
open Go.RowKit
set_option linter.unusedVariables false

theorem openL60 {l : List UInt8} (h : l.length = 64) (hE : Crc.openE l = 0) : (Crc.openL l).length = 60 := by
  rcases Crc.openE_cases l with ⟨g, _, _⟩ | ⟨g1, g2, g3, g4⟩ | ⟨_, _, g, _⟩
  · omega
  · rw [g4, List.length_take]; omega
  · rw [hE] at g; cases g

theorem head_at {w : World} {ab off : Nat} {b : List UInt8} (hB : IsB w (some ⟨ab, off, none⟩) 60 b) (j : Nat) (hj : j < 60) : w.cell? ⟨ab, off + j, none⟩ = some (.int .u8 ((b.getD j 0).toNat : Int)) := by
  have hl := hB.1
  have h := hB.2.2 _ rfl j (by omega)
  rw [Addr.add_lit] at h
  rw [h, show b.getD j 0 = b[j] by simp [List.getD, List.getElem?_eq_getElem (show j < b.length by omega)]]

theorem u8_no {x : UInt8} {q : Nat} (hq : q < 256) (h : x ≠ UInt8.ofNat q) : ((x.toNat : Int) != (q : Int)) = true := by
  rw [bne_iff_ne]
  intro e
  refine h (UInt8.toNat_inj.1 ?_)
  rw [UInt8.toNat_ofNat', Nat.mod_eq_of_lt hq]
  omega

end Go.Proofs.Ytbglgplfjhiafaa
