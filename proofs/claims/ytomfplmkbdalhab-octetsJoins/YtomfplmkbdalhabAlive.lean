/-
  The page's example comes out: 'alive' returns true. Conditions: none.
-/
import Derived.Test.YtomfplmkbdalhabRead
namespace Go.Proofs.Ytomfplmkbdalhab
open Go.RowKit

/-- What is owned reads as octets. -/
theorem isB_of_owns {w : World} {base g n c : Nat} {l : List UInt8} (h : w.ownsRow base 5 1 (.slice (some ⟨g, 0, none⟩) n c) n (cellsOf l)) : IsB w (some ⟨g, 0, none⟩) n l := by
  have hl : l.length = n := by have := h.1; simpa [cellsOf] using this
  refine ⟨hl, fun (e : some _ = none) => (by cases e), fun x hx j hj => ?_⟩
  simp only [Option.some.injEq] at hx
  subst hx
  rw [Addr.add_lit, Nat.zero_add, h.cellAt j (by omega)]
  simp [cellsOf, List.getElem?_eq_getElem hj]

theorem isB_example (w : World) : IsB (w.alloc (.cells #[.int .u8 9, .int .u8 2, .int .u8 97, .int .u8 98] 5)) (some ⟨w.heap.size, 0, none⟩) 4 [9, 2, 97, 98] := by
  refine ⟨rfl, fun (e : some _ = none) => (by cases e), fun x hx j hj => ?_⟩
  simp only [Option.some.injEq] at hx
  subst hx
  rw [Addr.add_lit, Nat.zero_add]
  match j, hj with
  | 0, _ => simp
  | 1, _ => simp
  | 2, _ => simp
  | 3, _ => simp

theorem read_example (w : World) : Calls Try.prog 10 #[.slice (some ⟨w.heap.size, 0, none⟩) 4 4, .int .i64 1] (w.alloc (.cells #[.int .u8 9, .int .u8 2, .int .u8 97, .int .u8 98] 5)) fun e w' =>
    e = .returned (.tuple #[.string ⟨#[97, 98]⟩, .int .i64 4, .int .i64 0]) ∧ Below (w.heap.size + 1) (w.alloc (.cells #[.int .u8 9, .int .u8 2, .int .u8 97, .int .u8 98] 5)) w' := by
  refine (read_ok _ _ 4 4 [9, 2, 97, 98] 1 1 rfl (by decide) (by decide) (isB_example w) (by decide) (by decide)).mono ?_
  rintro e w' ⟨rfl, hb⟩
  exact ⟨rfl, by simpa using hb⟩

set_option maxHeartbeats 800000 in
theorem alive_any (w : World) : Calls Try.prog 5 #[] w fun e w' => e = .returned (.bool true) ∧ Below w.heap.size w w' := by
  go_enter Try.func5, Try.ntmps5
  go_wp2_with fail
  refine (put_ok 258 2 _ _ rfl rfl _ (by decide) (by decide) (by decide)).mono ?_
  rintro e w1 ⟨rfl, hown, hb1⟩
  go_wp2_with fail
  refine (read_example w1).mono ?_
  rintro e w2 ⟨rfl, hb2⟩
  have hz := hb1.size
  have hb : Below w.heap.size w w2 := (hb1.alloc hz _).trans (hb2.mono (by omega))
  have hB : IsB w2 (some ⟨w.heap.size, 0, none⟩) 2 (Oct.octs 258 2) := by
    have h0 := isB_of_owns hown
    have h1 : IsB (w1.alloc (.cells #[.int .u8 9, .int .u8 2, .int .u8 97, .int .u8 98] 5)) (some ⟨w.heap.size, 0, none⟩) 2 (Oct.octs 258 2) := h0.below ((Below.refl _ _).alloc (Nat.le_refl _) _)
    exact h1.below (by simpa using hb2)
  have ec := conv_bytes w2 _ 2 2 _ hB
  rw [show Oct.octs 258 2 = [2, 1] from by decide] at ec
  clear hB hown hb1 hb2 hz
  go_wp2_with (go_at_call 7; refine (num_any _ _).mono ?_; rintro e w3 ⟨rfl, rfl⟩)
  go_ret
  exact ⟨rfl, hb⟩

end Go.Proofs.Ytomfplmkbdalhab
