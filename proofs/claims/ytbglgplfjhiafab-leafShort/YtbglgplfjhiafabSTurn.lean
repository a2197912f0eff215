/-
  One octet of a sector turned. Conditions: those that each lemma names.
-/
import Derived.Test.YtbglgplfjhiafabCBits
namespace Go.Proofs.Ytbglgplfjhiafab
open Go.RowKit
set_option linter.unusedVariables false

theorem byte_of (t : Int) (h1 : 0 ≤ t) (h2 : t ≤ 255) : ∃ T : UInt8, t = (T.toNat : Int) := by
  refine ⟨UInt8.ofNat t.toNat, ?_⟩
  rw [UInt8.toNat_ofNat']
  omega

theorem turn_at (a : Int) : ∃ K : Nat, K < 64 ∧ (wrap64 (a.tmod 64 + 64)).tmod 64 = (K : Int) := by
  have h1 := Int.tmod_lt_of_pos a (show (0 : Int) < 64 by decide)
  have h2 := Int.lt_tmod_of_pos a (show (0 : Int) < 64 by decide)
  have e : wrap64 (a.tmod 64 + 64) = a.tmod 64 + 64 := by unfold wrap64; omega
  rw [e]
  have h3 : (a.tmod 64 + 64).tmod 64 = (a.tmod 64 + 64) % 64 := Int.tmod_eq_emod_of_nonneg (by omega)
  exact ⟨((a.tmod 64 + 64) % 64).toNat, by omega, by rw [h3]; omega⟩

theorem owns_row64 {w : World} {base n c : Nat} {a : Option Addr} {l : List UInt8} (h : w.ownsRow base 5 1 (.slice a (n + 1) c) (n + 1) (cellsOf l)) : ∃ g, a = some ⟨g, 0, none⟩ ∧ base ≤ g := by
  obtain ⟨g, rfl⟩ := own_some h (by omega)
  exact ⟨g, rfl, own_base h g rfl⟩

theorem owned_cell {w : World} {base n c g i : Nat} {l : List UInt8} (h : w.ownsRow base 5 1 (.slice (some ⟨g, 0, none⟩) n c) n (cellsOf l)) (hi : i < l.length) : w.cell? ⟨g, i, none⟩ = some (.int .u8 ((l.getD i 0).toNat : Int)) := by
  have hB := (owns_isB h).1.2.2 _ rfl i hi
  rw [Addr.add_lit, Nat.zero_add] at hB
  rw [hB]
  simp [List.getD, List.getElem?_eq_getElem hi]

theorem owned_frozen {w : World} {base n c g i : Nat} {xs : List Value} {e : TypeId} (h : w.ownsRow base e 1 (.slice (some ⟨g, 0, none⟩) n c) n xs) : w.frozen? ⟨g, i, none⟩ = false := by
  rcases h.2 with ⟨e1, _⟩ | ⟨g', cap, cur, e1, _, hh, _⟩
  · cases e1
  · cases e1
    simp [World.frozen?, hh]

theorem xor_u8' (x y : UInt8) : bits BinOp.xor IntKind.u8 (x.toNat : Int) (y.toNat : Int) = ((x ^^^ y).toNat : Int) := by
  have hx : x.toNat < 256 := by have := x.toNat_lt; simpa using this
  have hy : y.toNat < 256 := by have := y.toNat_lt; simpa using this
  rw [u8_xor_nat x.toNat y.toNat hx hy, UInt8.toNat_xor]

theorem store_xor {w : World} {base g m c i : Nat} {U : List UInt8} (T : UInt8) (hi : i < U.length) (h : w.ownsRow base 5 1 (.slice (some ⟨g, 0, none⟩) m c) m (cellsOf U)) :
    (w.setCell ⟨g, i, none⟩ (.int .u8 (bits BinOp.xor IntKind.u8 ((U.getD i 0).toNat : Int) (T.toNat : Int)))).ownsRow base 5 1 (.slice (some ⟨g, 0, none⟩) m c) m (cellsOf (U.set i (U.getD i 0 ^^^ T))) := by
  have h1 := (h.stored i (.int .u8 (bits BinOp.xor IntKind.u8 ((U.getD i 0).toNat : Int) (T.toNat : Int)))).1
  rw [xor_u8'] at h1 ⊢
  rw [cellsOf, List.map_set]
  exact h1

end Go.Proofs.Ytbglgplfjhiafab
