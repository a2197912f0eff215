/-
  The contracts of Text and of the document's own answers for Put and Read, in one form. Conditions: those that each contract names.
-/
import Derived.Test.YtomfplmkbdalhaaTexts
namespace Go.Proofs.Ytomfplmkbdalhaa
open Go.RowKit
set_option linter.unusedVariables false

theorem text_u (s : ByteArray) (w : World) (hs : s.size ≤ maxLen) :
    Calls Try.prog 14 #[.string s] w fun e w' => ∃ a len c, e = .returned (.tuple #[.slice a len c, .int .i64 (Oct.textE s.data.toList)]) ∧
      w'.ownsRow w.heap.size 5 1 (.slice a len c) len (cellsOf (Oct.textL s.data.toList)) ∧ Below w.heap.size w w' := by
  have e0 : s.data.toList.length = s.size := by simp
  by_cases h : 255 < s.size
  · have e1 : Oct.textE s.data.toList = 5 := by unfold Oct.textE; rw [e0, if_pos h]
    have e2 : Oct.textL s.data.toList = [] := by simp [Oct.textL, e1]
    rw [e1, e2]
    refine (text_no s w hs h).mono ?_
    rintro e w' ⟨rfl, rfl⟩
    exact ⟨none, 0, 0, rfl, own_nil _ _, Below.refl _ _⟩
  · have e1 : Oct.textE s.data.toList = 0 := by unfold Oct.textE; rw [e0, if_neg h]
    have e2 : Oct.textL s.data.toList = UInt8.ofNat s.size :: s.data.toList := by unfold Oct.textL; rw [if_pos e1, e0]
    rw [e1, e2]
    refine (text_ok s w (by omega)).mono ?_
    rintro e w' ⟨a, c, rfl, ho, hb⟩
    exact ⟨a, _, c, rfl, ho, hb⟩

theorem refText_u (s : ByteArray) (w : World) (hs : s.size ≤ maxLen) :
    Calls Try.prog 15 #[.string s] w fun e w' => ∃ a len c, e = .returned (.tuple #[.slice a len c, .int .i64 (Oct.textE s.data.toList)]) ∧
      w'.ownsRow w.heap.size 5 1 (.slice a len c) len (cellsOf (Oct.textL s.data.toList)) ∧ Below w.heap.size w w' := by
  have e0 : s.data.toList.length = s.size := by simp
  by_cases h : 255 < s.size
  · have e1 : Oct.textE s.data.toList = 5 := by unfold Oct.textE; rw [e0, if_pos h]
    have e2 : Oct.textL s.data.toList = [] := by simp [Oct.textL, e1]
    rw [e1, e2]
    refine (refText_no s w hs h).mono ?_
    rintro e w' ⟨rfl, rfl⟩
    exact ⟨none, 0, 0, rfl, own_nil _ _, Below.refl _ _⟩
  · have e1 : Oct.textE s.data.toList = 0 := by unfold Oct.textE; rw [e0, if_neg h]
    have e2 : Oct.textL s.data.toList = UInt8.ofNat s.size :: s.data.toList := by unfold Oct.textL; rw [if_pos e1, e0]
    rw [e1, e2]
    refine (refText_ok s w (by omega)).mono ?_
    rintro e w' ⟨a, c, rfl, ho, hb⟩
    exact ⟨a, _, c, rfl, ho, hb⟩

set_option maxHeartbeats 400000 in
theorem refPut_arg (N S : Int) (w : World) (h : ¬ (1 ≤ S ∧ S ≤ 8)) :
    Calls Try.prog 11 #[.int .u64 N, .int .i64 S] w fun e w' => e = .returned (.tuple #[.slice none 0 0, .int .i64 1]) ∧ w = w' := by
  by_cases h1 : S < 1
  · go_enter Try.func11, Try.ntmps11
    go_wp2
    go_ret2
    exact ⟨rfl, rfl⟩
  · have h2 : 8 < S := by omega
    go_enter Try.func11, Try.ntmps11
    go_wp2
    go_ret2
    exact ⟨rfl, rfl⟩

set_option maxHeartbeats 400000 in
theorem refPut_in (n : Nat) (s : Nat) (w : World) (h1 : 1 ≤ s) (h2 : s ≤ 8) (hn : n < 18446744073709551616) :
    Calls Try.prog 11 #[.int .u64 n, .int .i64 s] w fun e w' => ∃ a len c, e = .returned (.tuple #[.slice a len c, .int .i64 (Oct.putE n s)]) ∧
      w'.ownsRow w.heap.size 5 1 (.slice a len c) len (cellsOf (Oct.putL n s)) ∧ Below w.heap.size w w' := by
  obtain ⟨i0, hi, hz0, hz1, hz2⟩ := info_parts info_u8
  have H1 : n < 256 ^ s → Oct.putE n s = 0 ∧ Oct.putL n s = Oct.octs n s := fun h => ⟨Oct.putE_ok h1 h2 h, Oct.putL_ok h1 h2 h⟩
  have H2 : ¬ n < 256 ^ s → Oct.putE n s = 4 ∧ Oct.putL n s = [] := fun h => ⟨Oct.putE_range h1 h2 (by omega), by simp [Oct.putL, Oct.putE_range h1 h2 (show 256 ^ s ≤ n by omega)]⟩
  have K1 : Hid _ := H1
  have K2 : Hid _ := H2
  clear H1 H2
  go_enter Try.func11, Try.ntmps11
  go_wp2
  go_loopw [0, 6, 7] (fun m out i wr => ∃ (k : Nat) (q : Nat), k ≤ s ∧ i = .int .i64 k ∧ m = .int .u64 q ∧ q = n / 256 ^ k ∧ wr.ownsRow w.heap.size 5 1 out k (cellsOf (Oct.octs n k)) ∧ Below w.heap.size w wr)
    (fun _ _ i _ => s - (intOf i).toNat)
  case atStart => exact ⟨0, n, Nat.zero_le _, rfl, rfl, by simp, own_nil _ _, Below.refl _ _⟩
  case round =>
    obtain ⟨k, q, hk, rfl, rfl, hq, hown, hbel⟩ := hrel
    have hql : q ≤ n := by rw [hq]; exact Nat.div_le_self _ _
    have HQ : Hid _ := hq
    clear hq
    have hz := hbel.size
    by_cases hlt : k < s
    · go_wp2_with (at_builtin; refine wpList_append_own _ rfl _ _ 23 rfl w.heap.size 5 i0 (.int .u8 0) 1 1 Try.underlying23 hi hz0 hz1 hz2 rfl (by decide) _ k _ rfl (hown.alloc _) ⟨wr.heap.size, 0, none⟩ 1 1 [.int .u8 ((q : Int) % 256)] rfl rfl (cell_one_new _ _ _) (by intro u hu; simp at hu; subst hu; rfl) (by unfold maxLen; omega) (by omega) (by simp; omega) ?_)
      intro v' w1 hown' hgrow _
      have hst : w1.ownsRow w.heap.size 5 1 v' (k + 1) (cellsOf (Oct.octs n (k + 1))) := by
        rw [Oct.octs_snoc, cellsOf_append, ← HQ.out]
        have e : cellsOf [UInt8.ofNat q] = [.int .u8 ((q : Int) % 256)] := by simp [cellsOf]
        rw [e]
        exact hown'
      have hb1 : Below w.heap.size w w1 := (hbel.alloc hz _).grown hgrow (by simp; omega) (own_base hown)
      have hq2 : (q : Int) / 256 = ((q / 256 : Nat) : Int) := by simp
      have HQ2 : Hid _ := hq2
      clear hown' hgrow hown hbel hq2
      go_wp2
      go_roundw
      case rel => exact ⟨k + 1, q / 256, by omega, by go_num, by go_num, by rw [HQ.out]; exact Oct.div_step n k, hst, hb1⟩
      case measure => simp [intOf]; omega
    · have e : k = s := by omega
      subst e
      obtain ⟨b, d, rfl, -⟩ := owns_slice hown
      by_cases hq0 : 0 < q
      · go_wp2
        go_ret2
        have hx : ¬ n < 256 ^ k := by
          intro hx
          have := HQ.out
          rw [Nat.div_eq_of_lt hx] at this
          omega
        have hy := K2.out hx
        exact ⟨none, 0, 0, by rw [hy.1]; rfl, by rw [hy.2]; exact own_nil _ _, hbel⟩
      · go_wp2
        go_ret2
        have hx : n < 256 ^ k := by
          have h0 : n / 256 ^ k = 0 := by have := HQ.out; omega
          rcases Nat.div_eq_zero_iff.1 h0 with h | h
          · exact absurd h (Nat.pos_iff_ne_zero.1 (Nat.pow_pos (by decide)))
          · exact h
        have hy := K1.out hx
        exact ⟨b, k, d, by rw [hy.1]; rfl, by rw [hy.2]; exact hown, hbel⟩

theorem refPut_u (n : Nat) (S : Int) (w : World) (hn : n < 18446744073709551616) :
    Calls Try.prog 11 #[.int .u64 n, .int .i64 S] w fun e w' => ∃ a len c, e = .returned (.tuple #[.slice a len c, .int .i64 (Oct.putE n S)]) ∧
      w'.ownsRow w.heap.size 5 1 (.slice a len c) len (cellsOf (Oct.putL n S)) ∧ Below w.heap.size w w' := by
  by_cases h : 1 ≤ S ∧ S ≤ 8
  · obtain ⟨s, rfl⟩ := Int.eq_ofNat_of_zero_le (show 0 ≤ S by omega)
    exact refPut_in n s w (by omega) (by omega) hn
  · rw [Oct.putE_arg h, show Oct.putL n S = [] from by simp [Oct.putL, Oct.putE_arg h]]
    refine (refPut_arg n S w h).mono ?_
    rintro e w' ⟨rfl, rfl⟩
    exact ⟨none, 0, 0, rfl, own_nil _ _, Below.refl _ _⟩

set_option maxHeartbeats 400000 in
theorem refRead_neg (w : World) (a : Option Addr) (n c : Nat) (P : Int) (h : P < 0) :
    Calls Try.prog 17 #[.slice a n c, .int .i64 P] w fun e w' => e = .returned (.tuple #[.string ⟨#[]⟩, .int .i64 0, .int .i64 4]) ∧ w = w' := by
  go_enter Try.func17, Try.ntmps17
  go_wp2
  go_ret3
  exact ⟨rfl, rfl⟩

set_option maxHeartbeats 400000 in
theorem refRead_end (w : World) (a : Option Addr) (n c : Nat) (p : Nat) (hn : n ≤ maxLen) (h : n ≤ p) :
    Calls Try.prog 17 #[.slice a n c, .int .i64 p] w fun e w' => e = .returned (.tuple #[.string ⟨#[]⟩, .int .i64 0, .int .i64 8]) ∧ w = w' := by
  unfold maxLen at hn
  go_enter Try.func17, Try.ntmps17
  go_wp2
  go_ret3
  exact ⟨rfl, rfl⟩

theorem getD_at (l : List UInt8) (p : Nat) (h : p < l.length) : l[p] = l.getD p 0 := by simp [List.getD, List.getElem?_eq_getElem h]

set_option maxHeartbeats 400000 in
theorem refRead_short (w : World) (a : Option Addr) (n c : Nat) (l : List UInt8) (p : Nat) (hn : n ≤ maxLen) (hB : IsB w a n l) (hp : p < n) (h : n < p + 1 + (l.getD p 0).toNat) :
    Calls Try.prog 17 #[.slice a n c, .int .i64 p] w fun e w' => e = .returned (.tuple #[.string ⟨#[]⟩, .int .i64 0, .int .i64 8]) ∧ w = w' := by
  unfold maxLen at hn
  have hl := hB.1
  obtain ⟨b, off, rfl, hcell⟩ := hB.place (by omega)
  have hc := hcell p (by omega)
  rw [getD_at l p (by omega)] at hc
  have hu : (l.getD p 0).toNat < 256 := by have := (l.getD p 0).toNat_lt; simpa using this
  clear hcell hB
  generalize (l.getD p 0).toNat = x at *
  go_enter Try.func17, Try.ntmps17
  go_wp2
  go_ret3
  exact ⟨rfl, rfl⟩

set_option maxHeartbeats 400000 in
theorem refRead_ok (w : World) (a : Option Addr) (n c : Nat) (l : List UInt8) (p : Nat) (hn : n ≤ maxLen) (hnc : n ≤ c) (hB : IsB w a n l) (hp : p < n) (h : p + 1 + (l.getD p 0).toNat ≤ n) :
    Calls Try.prog 17 #[.slice a n c, .int .i64 p] w fun e w' => e = .returned (.tuple #[.string ⟨(Oct.cut l (p + 1) (l.getD p 0).toNat).toArray⟩, .int .i64 ((p + 1 + (l.getD p 0).toNat : Nat) : Int), .int .i64 0]) ∧ w = w' := by
  unfold maxLen at hn
  have hl := hB.1
  obtain ⟨b, off, rfl, hcell⟩ := hB.place (by omega)
  have hc := hcell p (by omega)
  rw [getD_at l p (by omega)] at hc
  have hu : (l.getD p 0).toNat < 256 := by have := (l.getD p 0).toNat_lt; simpa using this
  clear hcell
  generalize (l.getD p 0).toNat = x at *
  by_cases hcp : c = p + 1
  · have hx : x = 0 := by omega
    subst hx
    subst hcp
    have ec := conv_bytes w (some ⟨b, off, none⟩) 0 0 [] ⟨rfl, fun _ => rfl, fun _ _ j hj => absurd hj (Nat.not_lt_zero j)⟩
    clear hB
    go_enter Try.func17, Try.ntmps17
    go_wp2
    go_ret3
    exact ⟨by simp [Oct.cut], rfl⟩
  · have hcp' : ¬ p + 1 = c := fun e => hcp e.symm
    have ec := conv_bytes w _ x (c - (p + 1)) _ (hB.piece (p + 1) x (by omega))
    clear hB
    go_enter Try.func17, Try.ntmps17
    go_wp2
    go_ret3
    exact ⟨by simp, rfl⟩

theorem refRead_u (w : World) (a : Option Addr) (n c : Nat) (l : List UInt8) (P : Int) (hn : n ≤ maxLen) (hc : n ≤ c) (hB : IsB w a n l) :
    Calls Try.prog 17 #[.slice a n c, .int .i64 P] w fun e w' =>
      e = .returned (.tuple #[.string ⟨(Oct.readS l P).toArray⟩, .int .i64 (Oct.readN l P : Nat), .int .i64 (Oct.readE l P)]) ∧ w = w' := by
  have hl := hB.1
  rcases Oct.readE_cases l P with ⟨h, e1, e2, e3⟩ | ⟨p, rfl, h, e1, e2, e3⟩ | ⟨p, rfl, h1, h, e1, e2, e3⟩ | ⟨p, rfl, h1, h, e1, e2, e3⟩
  · rw [e1, e2, e3]; exact refRead_neg w a n c P h
  · rw [e1, e2, e3]; exact refRead_end w a n c p hn (by omega)
  · rw [e1, e2, e3]; exact refRead_short w a n c l p hn hB (by omega) (by omega)
  · rw [e1, e2, e3]; exact refRead_ok w a n c l p hn hc hB (by omega) (by omega)

end Go.Proofs.Ytomfplmkbdalhaa
