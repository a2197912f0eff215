/-
  The plain package over lists of items and of kids; the document's own Way. Conditions: those that each contract names.
-/
import Derived.Test.YtbglgplfjhiafaaIBase
namespace Go.Proofs.Ytbglgplfjhiafaa
open Go.RowKit
set_option linter.unusedVariables false

set_option maxHeartbeats 2000000 in
theorem sameItms_u (w : World) (P P' : Nat → Prop) (a a' : Option Addr) (n c n' c' : Nat) (l m : List Itm) (hL : rItms.rd w P [.slice a n c] l) (hM : rItms.rd w P' [.slice a' n' c'] m) :
    Calls Try.prog 36 #[.slice a n c, .slice a' n' c'] w fun e w' => e = .returned (.bool (decide (l = m))) ∧ Below w.heap.size w w' := by
  obtain ⟨hl, hnc, hnil, hb⟩ := rList_len hL
  obtain ⟨hl', hnc', hnil', hb'⟩ := rList_len hM
  have hn : n ≤ 8796093022000 := by have : n * 16 ≤ 140737488351232 := hb; omega
  have hn' : n' ≤ 8796093022000 := by have : n' * 16 ≤ 140737488351232 := hb'; omega
  have HL : Hid _ := hl
  have HL' : Hid _ := hl'
  have HR : Hid _ := hL
  have HM : Hid _ := hM
  clear hl hl' hnc hnc' hnil hnil' hb hb' hL hM
  obtain ⟨r, hr⟩ : ∃ r, r = decide (l = m) := ⟨_, rfl⟩
  rw [← hr]
  have HD : Hid _ := hr
  clear hr
  have heq := equal_itm
  go_enter Try.func36, Try.ntmps36
  by_cases hnn : n = n'
  · subst hnn
    go_wp2
    go_loopw [5] (fun i wr => ∃ j : Nat, j ≤ n ∧ i = .int .i64 j ∧ Hid (l.take j = m.take j) ∧ Below w.heap.size w wr) (fun i _ => n - (intOf i).toNat)
    case atStart => exact ⟨0, Nat.zero_le _, rfl, rfl, Below.refl _ _⟩
    case round =>
      obtain ⟨j, hj, rfl, HT, bel⟩ := hrel
      by_cases hlt : j < n
      · have hkl : j < l.length := by rw [HL.out]; exact hlt
        have hkm : j < m.length := by rw [HL'.out]; exact hlt
        obtain ⟨g, off, rfl, -, hgl, hat⟩ := rItms_at (Rep.below HR.out bel) (by omega)
        obtain ⟨c0, c1⟩ := hat j hkl
        obtain ⟨g', off', rfl, -, hgl', hat'⟩ := rItms_at (Rep.below HM.out bel) (by omega)
        obtain ⟨c0', c1'⟩ := hat' j hkm
        have HN : Hid (l[j] = m[j] → l.take (j + 1) = m.take (j + 1)) := fun e => take_next HT.out hkl hkm e
        have HX : Hid (l[j] ≠ m[j] → l ≠ m) := fun e e2 => e (by subst e2; rfl)
        obtain ⟨X, hX⟩ : ∃ X, X = l[j] := ⟨_, rfl⟩
        obtain ⟨Y, hY⟩ : ∃ Y, Y = m[j] := ⟨_, rfl⟩
        rw [← hX] at c0 c1 HN HX
        rw [← hY] at c0' c1' HN HX
        clear hX hY hat hat'
        have hkn : (j : Int) < (n : Int) := by omega
        by_cases he : X = Y
        · have HN2 : Hid _ := HN.out he
          clear HN HX
          go_wp2_with fail
          go_quiet (fail)
          go_wp2
          go_roundw
          case rel => exact ⟨j + 1, by omega, by go_num, HN2, same_drewN bel nq⟩
          case measure => simp [intOf]; omega
        · have HN2 : Hid (r = false) := HD.out.trans (decide_eq_false (HX.out he))
          clear HN HX
          go_wp2_with fail
          go_quiet (fail)
          go_wp2
          go_ret
          exact ⟨by rw [HN2.out]; rfl, same_drewN bel nq⟩
      · obtain rfl : j = n := by omega
        have HN2 : Hid (r = true) := HD.out.trans (decide_eq_true (by have h := HT.out; rw [List.take_of_length_le (by rw [HL.out]; exact Nat.le_refl _), List.take_of_length_le (by rw [HL'.out]; exact Nat.le_refl _)] at h; exact h))
        go_wp2
        go_ret
        exact ⟨by rw [HN2.out]; rfl, bel⟩
  · have HN2 : Hid (r = false) := HD.out.trans (decide_eq_false (fun e => hnn (by rw [← HL.out, ← HL'.out, e])))
    have hni : (n : Int) ≠ (n' : Int) := by omega
    go_wp2
    go_ret
    exact ⟨by rw [HN2.out]; rfl, Below.refl _ _⟩

set_option maxHeartbeats 2000000 in
theorem sameKids_u (w : World) (P P' : Nat → Prop) (a a' : Option Addr) (n c n' c' : Nat) (l m : List Int) (hL : rKids.rd w P [.slice a n c] l) (hM : rKids.rd w P' [.slice a' n' c'] m) :
    Calls Try.prog 37 #[.slice a n c, .slice a' n' c'] w fun e w' => e = .returned (.bool (decide (l = m))) ∧ Below w.heap.size w w' := by
  obtain ⟨hl, hnc, hnil, hb⟩ := rList_len hL
  obtain ⟨hl', hnc', hnil', hb'⟩ := rList_len hM
  have hn : n ≤ 17592186044000 := by have : n * 8 ≤ 140737488351232 := hb; omega
  have hn' : n' ≤ 17592186044000 := by have : n' * 8 ≤ 140737488351232 := hb'; omega
  have HL : Hid _ := hl
  have HL' : Hid _ := hl'
  have HR : Hid _ := hL
  have HM : Hid _ := hM
  clear hl hl' hnc hnc' hnil hnil' hb hb' hL hM
  obtain ⟨r, hr⟩ : ∃ r, r = decide (l = m) := ⟨_, rfl⟩
  rw [← hr]
  have HD : Hid _ := hr
  clear hr
  go_enter Try.func37, Try.ntmps37
  by_cases hnn : n = n'
  · subst hnn
    go_wp2
    go_loopw [5] (fun i wr => ∃ j : Nat, j ≤ n ∧ i = .int .i64 j ∧ Hid (l.take j = m.take j) ∧ Below w.heap.size w wr) (fun i _ => n - (intOf i).toNat)
    case atStart => exact ⟨0, Nat.zero_le _, rfl, rfl, Below.refl _ _⟩
    case round =>
      obtain ⟨j, hj, rfl, HT, bel⟩ := hrel
      by_cases hlt : j < n
      · have hkl : j < l.length := by rw [HL.out]; exact hlt
        have hkm : j < m.length := by rw [HL'.out]; exact hlt
        obtain ⟨g, off, rfl, -, hgl, hat⟩ := rKids_at (Rep.below HR.out bel) (by omega)
        obtain ⟨c0, -⟩ := hat j hkl
        obtain ⟨g', off', rfl, -, hgl', hat'⟩ := rKids_at (Rep.below HM.out bel) (by omega)
        obtain ⟨c0', -⟩ := hat' j hkm
        have HN : Hid (l[j] = m[j] → l.take (j + 1) = m.take (j + 1)) := fun e => take_next HT.out hkl hkm e
        have HX : Hid (l[j] ≠ m[j] → l ≠ m) := fun e e2 => e (by subst e2; rfl)
        obtain ⟨X, hX⟩ : ∃ X, X = l[j] := ⟨_, rfl⟩
        obtain ⟨Y, hY⟩ : ∃ Y, Y = m[j] := ⟨_, rfl⟩
        rw [← hX] at c0 HN HX
        rw [← hY] at c0' HN HX
        clear hX hY hat hat'
        have hkn : (j : Int) < (n : Int) := by omega
        by_cases he : X = Y
        · have HN2 : Hid _ := HN.out he
          have heb : (X == Y) = true := beq_iff_eq.2 he
          clear he
          clear HN HX
          go_wp2_with fail
          go_quiet (fail)
          go_wp2
          go_roundw
          case rel => exact ⟨j + 1, by omega, by go_num, HN2, same_drewN bel nq⟩
          case measure => simp [intOf]; omega
        · have HN2 : Hid (r = false) := HD.out.trans (decide_eq_false (HX.out he))
          have heb : (X == Y) = false := beq_eq_false_iff_ne.2 he
          clear he
          clear HN HX
          go_wp2_with fail
          go_quiet (fail)
          go_wp2
          go_ret
          exact ⟨by rw [HN2.out]; rfl, same_drewN bel nq⟩
      · obtain rfl : j = n := by omega
        have HN2 : Hid (r = true) := HD.out.trans (decide_eq_true (by have h := HT.out; rw [List.take_of_length_le (by rw [HL.out]; exact Nat.le_refl _), List.take_of_length_le (by rw [HL'.out]; exact Nat.le_refl _)] at h; exact h))
        go_wp2
        go_ret
        exact ⟨by rw [HN2.out]; rfl, bel⟩
  · have HN2 : Hid (r = false) := HD.out.trans (decide_eq_false (fun e => hnn (by rw [← HL.out, ← HL'.out, e])))
    have hni : (n : Int) ≠ (n' : Int) := by omega
    go_wp2
    go_ret
    exact ⟨by rw [HN2.out]; rfl, Below.refl _ _⟩

theorem Lf.way_next {l : List Itm} {k : Nat} (hk : k < l.length) (key : UInt64) : ((l.take (k + 1)).filter fun x => decide (x.1.toNat ≤ key.toNat)).length = ((l.take k).filter fun x => decide (x.1.toNat ≤ key.toNat)).length + (if l[k].1.toNat ≤ key.toNat then 1 else 0) := by
  rw [List.take_succ_eq_append_getElem hk, List.filter_append, List.length_append]
  congr 1
  by_cases c : l[k].1.toNat ≤ key.toNat
  · rw [if_pos c]; simp [c]
  · rw [if_neg c]; simp [c]

set_option maxRecDepth 20000 in
set_option maxHeartbeats 2000000 in
theorem refWay_u (w : World) (P : Nat → Prop) (a : Option Addr) (n c : Nat) (kv : Value) (l : List Itm) (ks : List Int) (hL : rItms.rd w P [.slice a n c] l) (key : UInt64) :
    Calls Try.prog 19 #[.agg #[.slice a n c, kv], .int .u64 (key.toNat : Int)] w fun e w' => e = .returned (.int .i64 (Lf.way (l, ks) key : Nat)) ∧ Below w.heap.size w w' := by
  have HR : Hid _ := hL
  have HN : Hid (l.length = n) := (rList_len hL).1
  have hn0 : n ≤ 8796093022000 := by have : n * 16 ≤ 140737488351232 := (rList_len hL).2.2.2; omega
  obtain ⟨w0, hw0, V0, b0, z0⟩ := boxedRow w 25 [.slice a n c, kv]
  have HV0 : Hid (Row w0 w.heap.size 25 [.slice a n c, kv]) := V0
  have B0 : Hid (Below w.heap.size w w0) := b0
  clear hL V0 b0 z0
  go_enter Try.func19, Try.ntmps19
  go_wp2
  go_loopw [5, 6] (fun o i wr => ∃ k m : Nat, k ≤ n ∧ i = .int .i64 k ∧ o = .int .i64 m ∧ m ≤ k ∧ Hid (m = ((l.take k).filter fun x => decide (x.1.toNat ≤ key.toNat)).length) ∧ wr = w0) (fun _ i _ => n - (intOf i).toNat)
  case atStart => exact ⟨0, 0, Nat.zero_le _, rfl, rfl, Nat.le_refl _, rfl, rfl⟩
  case round =>
    obtain ⟨k, m, hk, rfl, rfl, hm, HM, rfl⟩ := hrel
    obtain ⟨r0, r1⟩ := HV0.out.two
    by_cases hlt : k < n
    · have hkl : k < l.length := by rw [HN.out]; exact hlt
      obtain ⟨g, off, rfl, -, -, hat⟩ := rItms_at (Rep.below HR.out B0.out) (by omega)
      obtain ⟨c0, c1⟩ := hat k hkl
      have HNx : Hid _ := Lf.way_next hkl key
      obtain ⟨y, hX⟩ : ∃ y, y = l[k] := ⟨_, rfl⟩
      rw [← hX] at c0 c1 HNx
      have hkz : (k : Int) < (n : Int) := by omega
      clear hX hat
      by_cases hc : y.1.toNat ≤ key.toNat
      · have HN2 : Hid (m + 1 = ((l.take (k + 1)).filter fun x => decide (x.1.toNat ≤ key.toNat)).length) := by unfold Hid; rw [HNx.out, if_pos hc, ← HM.out]
        have hci : (y.1.toNat : Int) ≤ (key.toNat : Int) := by omega
        go_wp2
        go_roundw
        case rel => exact ⟨k + 1, m + 1, by omega, by go_num, by go_num, by omega, HN2, trivial⟩
        case measure => simp [intOf]; omega
      · have HN2 : Hid (m = ((l.take (k + 1)).filter fun x => decide (x.1.toNat ≤ key.toNat)).length) := by unfold Hid; rw [HNx.out, if_neg hc, ← HM.out]; rfl
        have hci : ¬ (y.1.toNat : Int) ≤ (key.toNat : Int) := by omega
        go_wp2
        go_roundw
        case rel => exact ⟨k + 1, m, by omega, by go_num, rfl, by omega, HN2, trivial⟩
        case measure => simp [intOf]; omega
    · obtain rfl : n = k := by omega
      have HF : Hid (m = Lf.way (l, ks) key) := by unfold Hid Lf.way; rw [HM.out, List.take_of_length_le (by rw [HN.out]; exact Nat.le_refl _)]
      go_wp2
      go_ret
      exact ⟨by rw [← HF.out]; rfl, B0.out⟩

end Go.Proofs.Ytbglgplfjhiafaa
