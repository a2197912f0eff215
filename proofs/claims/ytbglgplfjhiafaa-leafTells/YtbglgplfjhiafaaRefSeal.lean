/-
  The contracts of the document's own answers for Seal and Open. Conditions: those that each contract names.
-/
import Derived.Test.YtbglgplfjhiafaaRefCrc
import Derived.Test.YtbglgplfjhiafaaBCopied
import Derived.Test.YtbglgplfjhiafaaSpec2c
import Derived.Deep.RegionWith
import Derived.Deep.DeepCutAuto
namespace Go.Proofs.Ytbglgplfjhiafaa
open Go.RowKit
set_option linter.unusedVariables false

theorem isB_le4 (w : World) (c : Nat) (hc : c < 4294967296) : IsB (w.alloc (.cells #[.int .u8 ((c : Int) % 256), .int .u8 ((c : Int) / 256 % 256), .int .u8 ((c : Int) / 65536 % 256), .int .u8 ((c : Int) / 16777216)] 5)) (some ⟨w.heap.size, 0, none⟩) 4 (Crc.le4 c) := by
  refine ⟨rfl, fun (e : some _ = none) => (by cases e), fun x hx j hj => ?_⟩
  simp only [Option.some.injEq] at hx
  subst hx
  rw [Addr.add_lit, Nat.zero_add]
  match j, hj with
  | 0, _ => simp [Crc.le4]
  | 1, _ => simp [Crc.le4]
  | 2, _ => simp [Crc.le4]
  | 3, _ => simp [Crc.le4]; omega

set_option maxHeartbeats 400000 in
theorem refSeal_u (w : World) (a : Option Addr) (n cap : Nat) (l : List UInt8) (hn : n ≤ 140737488351232) (hnil : a = none → cap = 0) (hB : IsB w a n l) :
    Calls Try.prog 30 #[.slice a n cap] w fun e w' => ∃ b d, e = .returned (.slice b (n + 4) d) ∧
      w'.ownsRow w.heap.size 5 1 (.slice b (n + 4) d) (n + 4) (cellsOf (Crc.sealed l)) ∧ Below w.heap.size w w' := by
  have hs := Crc.sum_lt l
  have HL : Hid (Crc.sealed l = l ++ Crc.le4 (Crc.sum l)) := by unfold Hid Crc.sealed; rfl
  go_enter Try.func30, Try.ntmps30
  go_wp2_with fail
  refine (refSum_u w a n cap l (by unfold maxLen; omega) hB).mono ?_
  rintro e w1 ⟨rfl, rfl⟩
  generalize Crc.sum l = c at *
  go_wp2_with fail
  refine (copied_u w a n cap l (by omega) hnil hB).mono ?_
  rintro e w1 ⟨b, d, rfl, ho, b1⟩
  have h4 := isB_le4 w1 c hs
  have hz := b1.size
  go_wp2_with (at_builtin; refine append_two rfl _ _ rfl w.heap.size _ n l rfl (ho.alloc _) _ 4 4 _ rfl h4 (fun e => by cases e) (by omega) (by simp; omega) ?_)
  intro b2 d2 w2 ho2 hg2
  rw [← HL.out] at ho2
  have c2 : Below w.heap.size w w2 := (b1.alloc hz _).grown hg2 (by simp; omega) (own_base ho)
  clear ho hg2 b1 h4
  go_wp2
  go_ret
  exact ⟨b2, d2, rfl, ho2, c2⟩

theorem refOpen_short (w : World) (a : Option Addr) (n cap : Nat) (h : n < 4) :
    Calls Try.prog 34 #[.slice a n cap] w fun e w' => e = .returned (.tuple #[.slice none 0 0, .int .i64 8]) ∧ w = w' := by
  go_enter Try.func34, Try.ntmps34
  go_wp2
  go_ret2
  exact ⟨rfl, rfl⟩

set_option maxHeartbeats 800000 in
theorem refOpen_in (w : World) (a : Option Addr) (n cap : Nat) (l : List UInt8) (h4 : 4 ≤ n) (hn : n ≤ 140737488351232) (hcap : n ≤ cap) (hB : IsB w a n l) :
    Calls Try.prog 34 #[.slice a n cap] w fun e w' => ∃ b len d, e = .returned (.tuple #[.slice b len d, .int .i64 (Crc.openE l)]) ∧
      w'.ownsRow w.heap.size 5 1 (.slice b len d) len (cellsOf (Crc.openL l)) ∧ Below w.heap.size w w' := by
  have hl : l.length = n := hB.1
  have hcs := Crc.openE_cases l
  rw [hl] at hcs
  have HCS : Hid _ := hcs
  obtain ⟨b, off, rfl, -⟩ := hB.place (by omega)
  have hH := hB.head (n - 4) (by omega) (by omega)
  have hneg : ¬ ((n : Int) - 4 < 0) := by omega
  clear hcs
  go_enter Try.func34, Try.ntmps34
  go_upto_region 4 with fail
  go_cut [11] (fun t wx => t = .bool (Crc.sealed (l.take (n - 4)) != l) ∧ Below w.heap.size w wx)
  case first =>
    have hH2 : IsB w.drew (some ⟨b, off, none⟩) (n - 4) (l.take (n - 4)) := hH
    have hB2 : IsB w.drew (some ⟨b, off, none⟩) n l := hB
    have e0 := conv_bytes w.drew _ n cap l hB2
    go_region_with (go_at_call 30; refine (refSeal_u w.drew _ (n - 4) cap (l.take (n - 4)) (by omega) (fun e => by cases e) hH2).mono ?_; rintro e w1 ⟨b1, d1, rfl, ho1, bb1⟩; have e1 := conv_bytes w1 _ _ d1 _ (owns_isB ho1).1; rw [Nat.sub_add_cancel h4] at e1; have e2 := conv_bytes w1 _ n cap l (hB2.below bb1))
    all_goals (try go_wp2_with fail)
    all_goals go_meet
    all_goals refine ⟨?_, ⟨bb1.os, bb1.tape, bb1.output, bb1.size, bb1.block⟩⟩
    all_goals rfl
  case rest =>
    obtain ⟨rfl, hb⟩ := hcut
    rcases HCS.out with ⟨g, _⟩ | ⟨_, g, e1, e2⟩ | ⟨_, g, e1, e2⟩
    · omega
    · have hne : (Crc.sealed (l.take (n - 4)) != l) = false := by rw [g]; exact bne_self_eq_false _
      have E1 : Hid _ := e1
      have E2 : Hid _ := e2
      rw [hne]
      clear e1 e2 g hne
      have hHc := hH.below hb
      have hsz := hb.size
      go_wp2_with (go_at_call 43; refine (copied_u _ _ (n - 4) cap _ (by omega) (fun e => by cases e) hHc).mono ?_; rintro e w3 ⟨b3, d3, rfl, ho3, bb3⟩)
      go_ret2
      exact ⟨b3, n - 4, d3, by rw [E1.out]; rfl, by rw [E2.out]; exact owns_mono ho3 hsz, on hb bb3⟩
    · have hne : (Crc.sealed (l.take (n - 4)) != l) = true := bne_iff_ne.2 g
      have E1 : Hid _ := e1
      have E2 : Hid _ := e2
      rw [hne]
      clear e1 e2 g hne
      go_wp2
      go_ret2
      exact ⟨none, 0, 0, by rw [E1.out]; rfl, by rw [E2.out]; exact own_nil _ _, hb⟩

theorem refOpen_u (w : World) (a : Option Addr) (n cap : Nat) (l : List UInt8) (hn : n ≤ 140737488351232) (hcap : n ≤ cap) (hB : IsB w a n l) :
    Calls Try.prog 34 #[.slice a n cap] w fun e w' => ∃ b len d, e = .returned (.tuple #[.slice b len d, .int .i64 (Crc.openE l)]) ∧
      w'.ownsRow w.heap.size 5 1 (.slice b len d) len (cellsOf (Crc.openL l)) ∧ Below w.heap.size w w' := by
  by_cases h : n < 4
  · have hl : l.length = n := hB.1
    rcases Crc.openE_cases l with ⟨_, e1, e2⟩ | ⟨g, _⟩ | ⟨g, _⟩
    · rw [e1, e2]
      refine (refOpen_short w a n cap h).mono ?_
      rintro e w' ⟨rfl, rfl⟩
      exact ⟨none, 0, 0, rfl, own_nil _ _, Below.refl _ _⟩
    · omega
    · omega
  · exact refOpen_in w a n cap l (by omega) hn hcap hB

end Go.Proofs.Ytbglgplfjhiafaa
