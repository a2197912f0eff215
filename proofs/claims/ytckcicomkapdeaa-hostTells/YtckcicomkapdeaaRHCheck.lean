/-
  The contract of the document's own Check of a host. Conditions: those that it names.
-/
import Derived.Test.YtckcicomkapdeaaRows
import Derived.Test.YtckcicomkapdeaaRHBase
namespace Go.Proofs.Ytckcicomkapdeaa
open Go.RowKit
set_option linter.unusedVariables false

set_option maxHeartbeats 1000000 in
theorem refCheck_u (w : World) (P : Nat → Prop) (cs : List Value) (s : Host) (hS : rHost.rd w P cs s) :
    Calls Try.prog 27 #[.agg cs.toArray] w fun e w' => e = .returned (.int .i64 (Hst.checkE s)) ∧ Below w.heap.size w w' := by
  obtain ⟨a, n, c, b, m, d, rfl, hA, hW, hn, hm, hc1, hc2, hn2, hm2⟩ := rHost_cells hS
  obtain ⟨L, W, cp⟩ := s
  obtain ⟨w0, hw0, p0, p1, p2, b0, z0⟩ := boxed3 w 25 (.slice a n c) (.slice b m d) (.int .i64 cp)
  have hA0 := Rep.below hA b0
  have hW0 := Rep.below hW b0
  simp only at hn hm hc1 hc2 hA0 hW0
  clear hA hW hS
  have HN : Hid _ := hn
  have HM : Hid _ := hm
  clear hn hm
  go_enter Try.func27, Try.ntmps27
  by_cases h1 : 1 ≤ cp
  case neg =>
    have e := ok_not (L := L) (W := W) (cp := cp) (fun h => h1 h.1.1)
    rw [e]
    go_wp2
    go_ret
    exact ⟨rfl, b0⟩
  by_cases h2 : cp ≤ 65536
  case neg =>
    have e := ok_not (L := L) (W := W) (cp := cp) (fun h => h2 h.1.2.1)
    rw [e]
    go_wp2
    go_ret
    exact ⟨rfl, b0⟩
  by_cases h3 : (n : Int) ≤ cp
  case neg =>
    have e := ok_not (L := L) (W := W) (cp := cp) (fun h => h3 (by rw [← HN.out]; exact h.1.2.2.1))
    rw [e]
    go_wp2
    go_ret
    exact ⟨rfl, b0⟩
  by_cases h4 : m ≤ 4096
  case neg =>
    have e := ok_not (L := L) (W := W) (cp := cp) (fun h => h4 (by rw [← HM.out]; exact h.1.2.2.2))
    rw [e]
    go_wp2
    go_ret
    exact ⟨rfl, b0⟩
  go_wp2
  clear hw0
  go_loop [3] (fun i => ∃ k : Nat, k ≤ n ∧ i = .int .i64 k ∧ Hid (∀ j (h : j < L.length), j < k → L[j].length = 64)) (fun i => n - (intOf i).toNat)
  case atStart => exact ⟨0, Nat.zero_le _, rfl, fun j _ h => by omega⟩
  case round =>
    obtain ⟨k, hk, rfl, HK⟩ := hrel
    by_cases hlt : k < n
    · obtain ⟨g, off, rfl, -, -, hat⟩ := rLists_at hA0 (by omega)
      have hkl : k < L.length := by rw [HN.out]; exact hlt
      obtain ⟨x, l, e, -, hl, hcell⟩ := hat k hkl
      have HL : Hid _ := hl
      clear hat hl
      by_cases h64 : l = 64
      · go_wp2
        go_round
        case rel => exact ⟨k + 1, by omega, by go_num, fun j hj hjk => by
            by_cases ejk : j = k
            · subst ejk; rw [HL.out, h64]
            · exact HK.out j hj (by omega)⟩
        case measure => simp [intOf]; omega
      · have e9 := ok_not (L := L) (W := W) (cp := cp) (fun h => h64 (by rw [← HL.out]; exact h.2.1 k hkl))
        have E9 : Hid _ := e9
        clear e9
        have hne : ((l : Int) != 64) = true := bne_iff_ne.2 (by omega)
        go_wp2
        go_ret
        exact ⟨by rw [E9.out]; rfl, b0⟩
    · obtain rfl : k = n := by omega
      clear hA0
      go_wp2
      go_loopw [4] (fun i wr => ∃ j : Nat, j ≤ m ∧ i = .int .i64 j ∧ Hid (∀ i (h : i < W.length), i < j → Hst.actOk cp W[i] = true) ∧ Below w0.heap.size w0 wr) (fun i _ => m - (intOf i).toNat)
      case atStart => exact ⟨0, Nat.zero_le _, rfl, (fun j _ h => by omega), Below.refl _ _⟩
      case round =>
        obtain ⟨j, hj, rfl, HJ, bj⟩ := hrel
        have q1 := (bj.cell (p := ⟨w.heap.size, 1, none⟩) (by show w.heap.size < _; omega)).trans p1
        have q2 := (bj.cell (p := ⟨w.heap.size, 2, none⟩) (by show w.heap.size < _; omega)).trans p2
        clear p0 p1 p2
        by_cases hlt : j < m
        · have hWr := Rep.below hW0 bj
          obtain ⟨g, off, rfl, -, hgl, hat⟩ := rWaits_at hWr (by omega)
          have hjl : j < W.length := by rw [HM.out]; exact hlt
          obtain ⟨x, l, e, -, hl, c0, c1, c2, k0, k1⟩ := hat j hjl
          have HOK : Hid (Hst.actOk cp W[j] = true ↔ (W[j].1 = 1 ∧ 0 ≤ W[j].2.1 ∧ W[j].2.1 < cp ∧ l = 64) ∨ (W[j].1 = 2 ∧ 0 ≤ W[j].2.1 ∧ W[j].2.1 ≤ cp ∧ l = 0)) := by
            rw [← hl]; exact act_iff cp W[j]
          have hbl : w.heap.size < wr.heap.size := by have := bj.size; omega
          have hz : w0.heap.size ≤ wr.heap.size := bj.size
          clear hat hl hWr
          generalize W[j].1 = what at *
          generalize W[j].2.1 = pos at *
          go_wp2
          all_goals try simp only [Bool.not_eq_eq_eq_not, Bool.not_true, Bool.not_false, beq_iff_eq, beq_eq_false_iff_ne, ne_eq] at *
          all_goals first
            | (go_roundw
               case rel => exact ⟨j + 1, by omega, by go_num, act_next hjl HJ (HOK.out.2 (by omega)), bj.alloc hz _⟩
               case measure => simp [intOf]; omega)
            | (go_ret
               exact ⟨by rw [ok_not (fun h => absurd (HOK.out.1 (h.2.2 j hjl)) (by omega))]; rfl, b0.trans ((bj.alloc hz _).mono (by omega))⟩)
        · obtain rfl : j = m := by omega
          have E0 : Hid (Hst.checkE (L, W, cp) = 0) := check_yes (ok_iff.2 ⟨⟨h1, h2, by rw [HN.out]; exact h3, by rw [HM.out]; exact h4⟩, fun i hi => HK.out i hi (by rw [← HN.out]; exact hi), fun i hi => HJ.out i hi (by rw [← HM.out]; exact hi)⟩)
          clear hW0
          go_wp2
          go_ret
          exact ⟨by rw [E0.out]; rfl, b0.trans (bj.mono (by omega))⟩

end Go.Proofs.Ytckcicomkapdeaa
