/-
  The contract of how long a host comes to be. Conditions: those that each lemma names.
-/
import Derived.Test.YtckcicomkapdeaaHLaid
import Derived.Test.YtckcicomkapdeaaREach
namespace Go.Proofs.Ytckcicomkapdeaa
open Go.RowKit
set_option linter.unusedVariables false

theorem Each.pad {w : World} {P : Nat → Prop} {xs : List Value} {L : List (List UInt8)} (h : Each rBytes w P xs L) (h64 : ∀ b ∈ L, b.length = 64) : Each rPad w P xs L :=
  ⟨h.len, fun j v x h1 h2 => ⟨x, h.rd j v x h1 h2, (lay_full (h64 x (List.mem_of_getElem? h2))).symm⟩⟩

theorem pad_nil (w : World) (P : Nat → Prop) : rPad.rd w P [.slice none 0 0] Hst.zeros := ⟨[], rBytes_nil _ _, rfl⟩

set_option maxHeartbeats 1000000 in
theorem longest_u (w : World) (P : Nat → Prop) (cs : List Value) (s : Host) (hS : rHost.rd w P cs s) (hok : Hst.ok s = true) :
    Calls Try.prog 51 #[.agg cs.toArray] w fun e w' => ∃ N : Nat, e = .returned (.int .i64 N) ∧ s.1.length ≤ N ∧ (∀ j (h : j < s.2.1.length), s.2.1[j].1 = 2 → s.2.1[j].2.1 ≤ N) ∧ N ≤ 65536 ∧ Below w.heap.size w w' := by
  obtain ⟨a, n, c, b, m, d, rfl, hA, hW, hn, hm, hc1, hc2, hn2, hm2⟩ := rHost_cells hS
  obtain ⟨o1, o2, hm3, hsec, hacts⟩ := Hst.ok_parts hok
  obtain ⟨L, W, cp⟩ := s
  simp only at hn hm hc1 hc2 hA hW hm3 hsec hacts o1 o2
  have HN : Hid _ := hn
  have HM : Hid _ := hm
  have HACT : Hid _ := hacts
  have hnc : (n : Int) ≤ cp := by rw [← hn]; exact hsec.1
  obtain ⟨w0, hw0, p0, p1, p2, b0, z0⟩ := boxed3 w 30 (.slice a n c) (.slice b m d) (.int .i64 cp)
  have hW0 := Rep.below hW b0
  clear hS hn hm hA hW hacts hsec hok hm3
  go_enter Try.func51, Try.ntmps51
  go_wp2
  clear hw0 p0 p1 p2
  go_loopw [3, 12] (fun s i wr => ∃ (k N : Nat), k ≤ m ∧ i = .int .i64 k ∧ s = .int .i64 N ∧ n ≤ N ∧ (N : Int) ≤ cp ∧ Hid (∀ j (h : j < W.length), j < k → W[j].1 = 2 → W[j].2.1 ≤ N) ∧ Below w0.heap.size w0 wr) (fun _ i _ => m - (intOf i).toNat)
  case atStart => exact ⟨0, n, Nat.zero_le _, rfl, rfl, Nat.le_refl _, hnc, (fun j _ h => by omega), Below.refl _ _⟩
  case round =>
    obtain ⟨k, N, hk, rfl, rfl, hnN, hNc, HK, bel⟩ := hrel
    by_cases hlt : k < m
    · have hWr := Rep.below hW0 bel
      obtain ⟨g, off, rfl, -, hgl, hat⟩ := rWaits_at hWr (by omega)
      have hkl : k < W.length := by rw [HM.out]; exact hlt
      obtain ⟨x, l, e, -, -, c0, c1, c2, -, -⟩ := hat k hkl
      have hz : w0.heap.size ≤ wr.heap.size := bel.size
      have HP : Hid (0 ≤ W[k].2.1 ∧ W[k].2.1 ≤ cp) := by
        unfold Hid
        rcases Hst.act_one_two (HACT.out _ (List.getElem_mem hkl)) with h | h <;> omega
      have HNEXT : Hid (∀ N' : Nat, N ≤ N' → (W[k].1 = 2 → W[k].2.1 ≤ N') → ∀ j (h : j < W.length), j < k + 1 → W[j].1 = 2 → W[j].2.1 ≤ N') := by
        intro N' h1 h2 j hj hjk h3
        by_cases ejk : j = k
        · subst ejk; exact h2 h3
        · have := HK.out j hj (by omega) h3; omega
      clear hat hWr
      generalize W[k].1 = what at *
      generalize W[k].2.1 = pos at *
      obtain ⟨t, rfl⟩ : ∃ t : Nat, pos = t := ⟨pos.toNat, by have := HP.out; omega⟩
      by_cases h2 : what = 2
      · subst h2
        by_cases hmx : N ≤ t
        · go_wp2
          go_roundw
          case rel => exact ⟨k + 1, t, by omega, by go_num, by simp; omega, by omega, HP.out.2, HNEXT.out t hmx (fun _ => by omega), bel.alloc hz _⟩
          case measure => simp [intOf]; omega
        · go_wp2
          go_roundw
          case rel => exact ⟨k + 1, N, by omega, by go_num, by simp; omega, hnN, hNc, HNEXT.out N (Nat.le_refl _) (fun _ => by omega), bel.alloc hz _⟩
          case measure => simp [intOf]; omega
      · have hne : (what == 2) = false := beq_eq_false_iff_ne.2 h2
        have H2 : Hid _ := h2
        clear h2
        go_wp2
        go_roundw
        case rel => exact ⟨k + 1, N, by omega, by go_num, rfl, hnN, hNc, HNEXT.out N (Nat.le_refl _) (fun h => absurd h H2.out), bel.alloc hz _⟩
        case measure => simp [intOf]; omega
    · obtain rfl : k = m := by omega
      go_wp2
      go_ret
      exact ⟨N, rfl, by show L.length ≤ N; rw [HN.out]; exact hnN, (fun j hj h => HK.out j hj (by rw [← HM.out]; exact hj) h), by omega, on b0 bel⟩

end Go.Proofs.Ytckcicomkapdeaa
