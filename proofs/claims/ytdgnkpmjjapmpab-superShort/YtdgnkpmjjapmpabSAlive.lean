/-
  The page's example of a superblock holds of the program. Conditions: none.
-/
import Derived.Test.YtdgnkpmjjapmpabSDec
import Derived.Test.YtdgnkpmjjapmpabSPlaces
namespace Go.Proofs.Ytdgnkpmjjapmpab
open Go.RowKit
set_option linter.unusedVariables false

theorem num4_u (n : Int) (w : World) : Calls Try.prog 6 #[.int .i64 n] w fun e w' => e = .returned (.int .i64 n) ∧ w = w' := by
  go_enter Try.func6, Try.ntmps6
  go_wp2
  go_ret
  exact ⟨rfl, rfl⟩

theorem rSuper_of (w : World) (P : Nat → Prop) (s : Super) (h : ∀ x ∈ [s.1, s.2.1, s.2.2.1, s.2.2.2.1, s.2.2.2.2.1, s.2.2.2.2.2.1, s.2.2.2.2.2.2], -9223372036854775808 ≤ x ∧ x ≤ 9223372036854775807) : rSuper.rd w P (cells7 s) s :=
  ⟨[_], _, rfl, ⟨rfl, h _ (by simp)⟩, [_], _, rfl, ⟨rfl, h _ (by simp)⟩, [_], _, rfl, ⟨rfl, h _ (by simp)⟩, [_], _, rfl, ⟨rfl, h _ (by simp)⟩, [_], _, rfl, ⟨rfl, h _ (by simp)⟩, [_], _, rfl, ⟨rfl, h _ (by simp)⟩, rfl, h _ (by simp)⟩

def al1 : Super := (0, 0, 4, 8, 10, 0, 0)
def al2 : Super := (0, 0, 1, 1, 0, 0, 0)
theorem al_places : Sup.atPages al1 = 6 ∧ Sup.atData al1 = 14 ∧ Sup.allOf al1 = 24 := by decide +kernel
theorem al_ok : Sup.ok al2 = true := by decide

set_option maxHeartbeats 4000000 in
theorem alive4_u (w : World) : Calls Try.prog 4 #[] w fun e w' => e = .returned (.bool true) ∧ Below w.heap.size w w' := by
  go_enter Try.func4, Try.ntmps4
  go_wp2_with fail
  refine (places_u _ (fun _ => True) (cells7 al1) al1 (rSuper_of _ _ _ (by decide))).mono ?_
  rintro ex w1 ⟨rfl, b1⟩
  rw [al_places.1, al_places.2.1, al_places.2.2]
  go_wp2_with fail
  refine (encode_ok _ (fun _ => True) (cells7 al2) al2 (rSuper_of _ _ _ (by decide)) al_ok).mono ?_
  rintro ex w2 ⟨xa, xc, rfl, ho, b2⟩
  obtain ⟨hX, hXc, hXn⟩ := owns_isB ho
  have HX : Hid (IsB _ _ _ _) := hX
  clear hX ho
  go_wp2_with fail
  refine (decode_u _ xa 64 xc _ (by decide) hXc hXn HX.out).mono ?_
  rintro ex w3 ⟨rfl, b3⟩
  rw [(Sup.decode_enc al_ok).1, (Sup.decode_enc al_ok).2, show (cells7 al2).toArray = #[.int .i64 0, .int .i64 0, .int .i64 1, .int .i64 1, .int .i64 0, .int .i64 0, .int .i64 0] from rfl]
  clear HX hXc hXn
  go_wp2
  go_ret
  exact ⟨rfl, alloc_on (on (on b1 b2) b3) _⟩

end Go.Proofs.Ytdgnkpmjjapmpab
