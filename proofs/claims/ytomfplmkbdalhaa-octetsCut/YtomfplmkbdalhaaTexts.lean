/-
  The contracts of octets copied, of Text, and of the document's own answers for Put, Text and Read. Conditions: those that each contract names.
-/
import Derived.Test.YtomfplmkbdalhaaGets
import Derived.Test.YtomfplmkbdalhaaCells
namespace Go.Proofs.Ytomfplmkbdalhaa
open Go.RowKit
set_option linter.unusedVariables false

set_option maxHeartbeats 400000 in
theorem copy_u (w : World) (a : Option Addr) (n c : Nat) (l : List UInt8) (hn : n ≤ 140737488355328) (hc : a = none → c = 0) (hB : IsB w a n l) :
    Calls Try.prog 9 #[.slice a n c] w fun e w' => ∃ b d, e = .returned (.slice b n d) ∧
      w'.ownsRow w.heap.size 5 1 (.slice b n d) n (cellsOf l) ∧ Below w.heap.size w w' := by
  obtain ⟨i0, hi, hz0, hz1, hz2⟩ := info_parts info_u8
  have hl := hB.1
  cases a with
  | none =>
    have hn0 := hB.2.1 rfl
    have hc0 := hc rfl
    subst hn0
    subst hc0
    have : l = [] := List.length_eq_zero_iff.1 hl
    subst this
    go_enter Try.func9, Try.ntmps9
    go_wp2_with (at_builtin; refine wpList_append_own_none rfl _ _ 23 rfl w.heap.size 5 i0 1 Try.underlying23 hi _ 0 [] rfl (World.ownsRow_nil w _ _ _) rfl ?_)
    go_ret
    exact ⟨none, 0, rfl, own_nil _ _, Below.refl _ _⟩
  | some x =>
    go_enter Try.func9, Try.ntmps9
    go_wp2_with (at_builtin; refine wpList_append_own _ rfl _ _ 23 rfl w.heap.size 5 i0 (.int .u8 0) 1 1 Try.underlying23 hi hz0 hz1 hz2 rfl (by decide) _ 0 [] rfl (World.ownsRow_nil w _ _ _) x n c (cellsOf l) rfl (by simp [cellsOf, hl]) (isB_cells hB) (cellsOf_oneCell l) (by unfold maxLen; omega) (by omega) (Nat.le_refl _) ?_)
    intro v' w1 hown hgrow _
    try simp only [Nat.zero_add, List.nil_append] at hown
    obtain ⟨b, d, rfl, -⟩ := owns_slice hown
    go_wp2
    go_ret
    exact ⟨b, d, rfl, hown, (Below.refl _ _).grown hgrow (Nat.le_refl _) (fun k h => by cases h)⟩

/-- The cells of a text are its octets'. -/
theorem strCells_eq (s : ByteArray) : Lib.strCells s = cellsOf s.data.toList := rfl

theorem one_byte (k : Nat) (h : k < 256) : cellsOf [UInt8.ofNat k] = [.int .u8 (k : Int)] := by
  simp [cellsOf]; omega

theorem cells_text (s : ByteArray) (h : s.size < 256) : cellsOf (UInt8.ofNat s.size :: s.data.toList) = .int .u8 (s.size : Int) :: Lib.strCells s := by
  have := one_byte s.size h
  rw [strCells_eq, show UInt8.ofNat s.size :: s.data.toList = [UInt8.ofNat s.size] ++ s.data.toList from rfl, cellsOf_append, this]
  rfl

theorem text_no (s : ByteArray) (w : World) (hs : s.size ≤ maxLen) (h : 255 < s.size) :
    Calls Try.prog 14 #[.string s] w fun e w' => e = .returned (.tuple #[.slice none 0 0, .int .i64 5]) ∧ w = w' := by
  unfold maxLen at hs
  go_enter Try.func14, Try.ntmps14
  go_wp2
  go_ret2
  exact ⟨rfl, rfl⟩

theorem refText_no (s : ByteArray) (w : World) (hs : s.size ≤ maxLen) (h : 255 < s.size) :
    Calls Try.prog 15 #[.string s] w fun e w' => e = .returned (.tuple #[.slice none 0 0, .int .i64 5]) ∧ w = w' := by
  unfold maxLen at hs
  go_enter Try.func15, Try.ntmps15
  go_wp2
  go_ret2
  exact ⟨rfl, rfl⟩

set_option maxHeartbeats 400000 in
theorem refText_ok (s : ByteArray) (w : World) (h : s.size ≤ 255) :
    Calls Try.prog 15 #[.string s] w fun e w' => ∃ a c, e = .returned (.tuple #[.slice a (1 + s.size) c, .int .i64 0]) ∧
      w'.ownsRow w.heap.size 5 1 (.slice a (1 + s.size) c) (1 + s.size) (cellsOf (UInt8.ofNat s.size :: s.data.toList)) ∧ Below w.heap.size w w' := by
  obtain ⟨i0, hi, hz0, hz1, hz2⟩ := info_parts info_u8
  have ho : (w.alloc (.cells #[.int .u8 (s.size : Int)] 5)).ownsRow w.heap.size 5 1 (.slice (some ⟨w.heap.size, 0, none⟩) 1 1) 1 (cellsOf [UInt8.ofNat s.size]) := by
    have h0 := World.ownsRow_lit (base := w.heap.size) (e := 5) (size := 1) w #[.int .u8 (s.size : Int)] 1 (Nat.le_refl _) (by decide) rfl
    rw [show cellsOf [UInt8.ofNat s.size] = [.int .u8 (s.size : Int)] from one_byte s.size (by omega)]
    exact h0
  go_enter Try.func15, Try.ntmps15
  go_wp2_with (at_builtin; refine Lib.wpList_append_own_string _ rfl _ _ 23 9 rfl w.heap.size 5 i0 Try.underlying23 Try.underlying9 hi hz0 hz1 hz2 _ 1 (cellsOf [UInt8.ofNat s.size]) rfl ho s rfl (by unfold maxLen; omega) (by omega) (by simp) ?_)
  intro v' w1 hown hgrow _
  rw [strCells_eq, ← cellsOf_append] at hown
  obtain ⟨b, d, rfl, -⟩ := owns_slice hown
  have hb : Below w.heap.size w w1 := ((Below.refl _ _).alloc (Nat.le_refl _) _).grown hgrow (by simp) (fun k hk => by cases hk; exact Nat.le_refl _)
  clear hgrow ho
  go_wp2
  go_ret2
  exact ⟨b, d, rfl, hown, hb⟩

set_option maxHeartbeats 400000 in
theorem text_ok (s : ByteArray) (w : World) (h : s.size ≤ 255) :
    Calls Try.prog 14 #[.string s] w fun e w' => ∃ a c, e = .returned (.tuple #[.slice a (1 + s.size) c, .int .i64 0]) ∧
      w'.ownsRow w.heap.size 5 1 (.slice a (1 + s.size) c) (1 + s.size) (cellsOf (UInt8.ofNat s.size :: s.data.toList)) ∧ Below w.heap.size w w' := by
  obtain ⟨i0, hi, hz0, hz1, hz2⟩ := info_parts info_u8
  have e1 : cellsOf (UInt8.ofNat s.size :: s.data.toList) = .int .u8 (s.size : Int) :: Lib.strCells s := cells_text s (by omega)
  have E1 : Hid _ := e1
  clear e1
  go_enter Try.func14, Try.ntmps14
  go_wp2_with (at_make; refine wpList_make_own _ rfl _ _ 23 rfl w.heap.size 5 i0 (.int .u8 0) 1 Try.underlying23 hi hz0 hz1 _ _ _ (1 + s.size) rfl rfl (by omega) ?b2 ?b3 (Nat.le_refl _) ?_)
  case b2 => rw [hz2]; omega
  case b3 => unfold maxLen; omega
  intro w0 hown0 hgrow0
  have hz := hgrow0.size
  go_wp2_with (at_builtin; refine wpList_append_own _ rfl (.tmp 12) (.tmp 16) 23 rfl w.heap.size 5 i0 (.int .u8 0) 1 1 Try.underlying23 hi hz0 hz1 hz2 rfl (by decide) _ 0 [] rfl (hown0.alloc _) ⟨w0.heap.size, 0, none⟩ 1 1 [.int .u8 (s.size : Int)] rfl rfl (cell_one_new _ _ _) (by intro u hu; simp at hu; subst hu; rfl) (by unfold maxLen; omega) (by omega) (by simp; omega) ?_)
  intro v1 w1 hown1 hgrow1 _
  have hzz : w.heap.size ≤ w1.heap.size := by have := hgrow1.size; simp at this; omega
  have hb1 : Below w.heap.size w w1 := (((Below.refl _ _).grown hgrow0 (Nat.le_refl _) (fun k h => by cases h)).alloc hz _).grown hgrow1 (by simp; omega) (fun k hk => by cases hk; exact Nat.le_refl _)
  clear hgrow1 hgrow0 hown0
  go_wp2_with (at_builtin; refine Lib.wpList_append_own_string _ rfl _ _ 23 9 rfl w.heap.size 5 i0 Try.underlying23 Try.underlying9 hi hz0 hz1 hz2 v1 1 [.int .u8 (s.size : Int)] rfl hown1 s rfl (by unfold maxLen; omega) (by omega) hzz ?_)
  intro v' w2 hown hgrow _
  have e2 := E1.out
  try simp only [List.cons_append, List.nil_append] at hown
  rw [← e2] at hown
  obtain ⟨b, d, rfl, -⟩ := owns_slice hown
  have hb : Below w.heap.size w w2 := hb1.grown hgrow hzz (own_base hown1)
  clear hgrow hb1
  go_wp2
  go_ret2
  exact ⟨b, d, rfl, hown, hb⟩

end Go.Proofs.Ytomfplmkbdalhaa
