/-
  The walks of CrcGoesOn, CrcBursts, CrcOne, on what Sum, More, Seal and Open answer. Conditions: those premises.
-/
import Derived.Test.YtbnhiagliikgmaaCTells
import Derived.RegionTactic
namespace Go.Proofs.Ytbnhiagliikgmaa
open Go.RowKit
set_option linter.unusedVariables false

set_option maxHeartbeats 800000 in
theorem crcGoesOn_in (sSum : SumSaid) (sMore : MoreSaid) (sSeal : SealSaid) (sOpen : OpenSaid) (a : Option Addr) (n cap : Nat) (l : List UInt8) (a2 : Option Addr) (m cap2 : Nat) (k : List UInt8) (w : World) (hB : IsB w a n l) (hK : IsB w a2 m k)
    (hnm : n + m ≤ 140737488355328) (hcap : n ≤ cap) (hcap2 : m ≤ cap2) (hnil : a = none → cap = 0) (hnil2 : a2 = none → cap2 = 0) :
    Calls Try.prog 4 #[.slice a n cap, .slice a2 m cap2] w fun e w' => e = .returned (.bool true) ∧ Below w.heap.size w w' := by
  have HN : Hid (a = none → cap = 0) := hnil
  have HN2 : Hid (a2 = none → cap2 = 0) := hnil2
  clear hnil hnil2
  have HM : Hid _ := Crc.more_sum l k
  have hsl := Crc.sum_lt l
  go_enter Try.func4, Try.ntmps4
  go_wp2_with fail
  refine (copy_u w a n cap l (by omega) HN.out hB).mono ?_
  rintro e w1 ⟨b, d, rfl, ho, c1⟩
  have hz1 := c1.size
  have hK1 := hK.below c1
  go_wp2_with (at_builtin; refine append_two rfl _ _ rfl w.heap.size _ n l rfl ho _ m cap2 _ rfl hK1 HN2.out (by omega) hz1 ?_)
  intro b2 d2 w2 ho2 g2
  have c2 : Below w.heap.size w w2 := c1.grown g2 hz1 (own_base ho)
  clear ho g2 c1 hK1 hz1
  go_wp2_with fail
  refine (sSum w2 a n cap l (by omega) hcap (hB.below c2)).mono ?_
  rintro e w3 ⟨rfl, b3⟩
  have ho3 := owns_below ho2 b3
  have c3 := on c2 b3
  clear ho2 b3 c2
  go_wp2_with fail
  refine (sMore w3 (Crc.sum l) a2 m cap2 k hsl (by omega) hcap2 (hK.below c3)).mono ?_
  rintro e w4 ⟨rfl, b4⟩
  rw [HM.out]
  have ho4 := owns_below ho3 b4
  have c4 := on c3 b4
  clear ho3 b4 c3
  go_wp2_with fail
  refine (sSum w4 b2 (n + m) d2 _ (by omega) (owns_isB ho4).2.1 (owns_isB ho4).1).mono ?_
  rintro e w5 ⟨rfl, b5⟩
  have c5 := on c4 b5
  clear ho4 b5 c4
  generalize Crc.sum (l ++ k) = s at *
  go_wp2_with fail
  refine (alive2 sSum sSeal sOpen w5).mono ?_
  rintro e w6 ⟨rfl, b6⟩
  go_wp2
  go_ret
  exact ⟨rfl, on c5 b6⟩

set_option maxHeartbeats 1600000 in
theorem crcBursts_in (sSum : SumSaid) (sSeal : SealSaid) (sOpen : OpenSaid) (a : Option Addr) (n cap : Nat) (l : List UInt8) (P : Int) (T : Nat) (w : World) (hB : IsB w a n l) (hn : n ≤ 140737488351232) (hcap : n ≤ cap) (hnil : a = none → cap = 0) (hT : T < 4294967296) (h0 : T ≠ 0)
    (hP1 : -9223372036854775808 ≤ P) (hP2 : P ≤ 9223372036854775807) :
    Calls Try.prog 6 #[.slice a n cap, .int .i64 P, .int .u32 T] w fun e w' => e = .returned (.bool true) ∧ Below w.heap.size w w' := by
  have HN : Hid (a = none → cap = 0) := hnil
  clear hnil
  have hT0 : ((T : Int) == 0) = false := beq_eq_false_iff_ne.2 (by omega)
  have HB0 : Hid _ := fun i => bit_test T i hT
  go_enter Try.func6, Try.ntmps6
  go_wp2_with fail
  refine (alive2 sSum sSeal sOpen w).mono ?_
  rintro e w1 ⟨rfl, c1⟩
  go_wp2_with fail
  refine (sSeal w1 a n cap l hn hcap HN.out (hB.below c1)).mono ?_
  rintro e w2 ⟨sa, sc, rfl, hs, b2⟩
  have c2 := on c1 b2
  have HZ1 : Hid (w.heap.size ≤ w1.heap.size) := c1.size
  clear c1 b2
  have t1 := Int.lt_tmod_of_pos P (show (0 : Int) < 8 * ((n : Int) + 4) - 31 by omega)
  have t2 := Int.tmod_lt_of_pos P (show (0 : Int) < 8 * ((n : Int) + 4) - 31 by omega)
  obtain ⟨g, rfl⟩ : ∃ g, sa = some ⟨g, 0, none⟩ := own_some hs (by omega)
  go_wp2
  have u1 := Int.emod_nonneg (P.tmod (8 * ((n : Int) + 4) - 31) + 8 * ((n : Int) + 4) - 31) (show (8 * ((n : Int) + 4) - 31) ≠ 0 by omega)
  have u2 := Int.emod_lt_of_pos (P.tmod (8 * ((n : Int) + 4) - 31) + 8 * ((n : Int) + 4) - 31) (show (0 : Int) < 8 * ((n : Int) + 4) - 31 by omega)
  generalize (P.tmod (8 * ((n : Int) + 4) - 31) + 8 * ((n : Int) + 4) - 31) % (8 * ((n : Int) + 4) - 31) = q at *
  obtain ⟨p, rfl⟩ := Int.eq_ofNat_of_zero_le u1
  have hp : p + 32 ≤ 8 * (n + 4) := by omega
  clear t1 t2 u1 u2
  have hSl := Crc.sealed_length l
  have hl : l.length = n := hB.1
  have ho1 := Crc.open_turned l (Crc.turned (Crc.sealed l) p T 32) (Crc.turned_length _ _ _ _) (Crc.turned_leaves (Crc.sealed l) p T hT h0 (by omega))
  have HO : Hid _ := ho1
  rw [hl] at hSl
  clear ho1
  generalize Crc.sealed l = S at *
  go_loopw [9] (fun i wr => ∃ k : Nat, k ≤ 32 ∧ i = .int .i64 k ∧ wr.ownsRow w1.heap.size 5 1 (.slice (some ⟨g, 0, none⟩) (n + 4) sc) (n + 4) (cellsOf (Crc.turned S p T k)) ∧ Below w.heap.size w wr)
    (fun i _ => 32 - (intOf i).toNat)
  case atStart => exact ⟨0, Nat.zero_le _, rfl, hs, c2⟩
  case round =>
    obtain ⟨k, hk, rfl, hown, hbel⟩ := hrel
    clear hs c2
    by_cases hk32 : k < 32
    · by_cases hbit : T.testBit k = true
      · have hb1 := HB0.out k
        rw [hbit] at hb1
        have htl := Crc.turned_length S p T k
        have hidx : (p + k) / 8 < (Crc.turned S p T k).length := by omega
        have hc := hown.cellAt ((p + k) / 8) (by omega)
        rw [cellsOf, List.getElem?_map, List.getElem?_eq_getElem hidx] at hc
        simp only [Option.map_some] at hc
        have hf := hown.frozenAt ((p + k) / 8)
        have hst := store_turn (Nat.mod_lt (p + k) (by decide)) hidx hown
        rw [← turned_yes S p T k hbit] at hst
        have hgb := own_base hown g rfl
        clear HB0 hown
        go_wp2
        go_region
        all_goals go_wp2
        all_goals go_roundw
        case rel => exact ⟨k + 1, by omega, by go_num, hst.drew, (hbel.setCell (Nat.le_trans HZ1.out hgb) _).drew⟩
        case measure => simp [intOf]; omega
      · have hb1 := HB0.out k
        rw [show T.testBit k = false from by simpa using hbit] at hb1
        go_wp2
        go_roundw
        case rel => exact ⟨k + 1, by omega, by go_num, by rw [turned_no S p T k hbit]; exact hown, hbel⟩
        case measure => simp [intOf]; omega
    · have e : k = 32 := by omega
      subst e
      obtain ⟨hUB, hUc, hUn⟩ := owns_isB hown
      have HUN : Hid _ := hUn
      clear hUn hown HB0
      go_wp2_with fail
      refine (sOpen wr _ (n + 4) sc _ (by omega) hUc HUN.out hUB).mono ?_
      rintro e w5 ⟨xa, xl, xc, rfl, hx, b5⟩
      rw [HO.out.1]
      rw [HO.out.2] at hx
      have hxl := owns_len hx
      obtain rfl : xl = 0 := by simpa using hxl
      have c5 := on hbel b5
      clear b5 hx hxl hbel hUB
      go_wp2_with (go_at_call 19; refine (num_any _ _).mono ?_; rintro e w9 ⟨rfl, rfl⟩)
      go_ret
      exact ⟨rfl, c5⟩

set_option maxHeartbeats 800000 in
theorem crcBursts_zero (sSum : SumSaid) (sSeal : SealSaid) (sOpen : OpenSaid) (a : Option Addr) (n cap : Nat) (l : List UInt8) (P : Int) (w : World) (hB : IsB w a n l) (hn : n ≤ 140737488351232) (hcap : n ≤ cap) (hnil : a = none → cap = 0) :
    Calls Try.prog 6 #[.slice a n cap, .int .i64 P, .int .u32 0] w fun e w' => e = .returned (.bool true) ∧ Below w.heap.size w w' := by
  have HN : Hid (a = none → cap = 0) := hnil
  clear hnil
  go_enter Try.func6, Try.ntmps6
  go_wp2_with fail
  refine (alive2 sSum sSeal sOpen w).mono ?_
  rintro e w1 ⟨rfl, c1⟩
  go_wp2_with fail
  refine (sSeal w1 a n cap l hn hcap HN.out (hB.below c1)).mono ?_
  rintro e w2 ⟨sa, sc, rfl, hs, b2⟩
  have c2 := on c1 b2
  clear c1 b2
  go_wp2
  go_ret
  exact ⟨rfl, c2⟩

end Go.Proofs.Ytbnhiagliikgmaa
