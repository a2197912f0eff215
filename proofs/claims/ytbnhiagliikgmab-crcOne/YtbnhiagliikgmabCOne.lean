/-
  The walk of CrcOne, on what Sum, Seal and Open answer. Conditions: those premises.
-/
import Derived.Test.YtbnhiagliikgmabCrcSaid
import Derived.Test.YtbnhiagliikgmabBCopy
import Derived.RegionTactic
namespace Go.Proofs.Ytbnhiagliikgmab
open Go.RowKit
set_option linter.unusedVariables false

set_option maxHeartbeats 800000 in
theorem crcOne_zero (sSum : SumSaid) (sSeal : SealSaid) (sOpen : OpenSaid) (a : Option Addr) (n cap : Nat) (P : Int) (w : World) (hn : n ≤ 140737488351232) :
    Calls Try.prog 3 #[.slice a n cap, .int .i64 P, .int .u32 0] w fun e w' => e = .returned (.bool true) ∧ Below w.heap.size w w' := by
  go_enter Try.func3, Try.ntmps3
  go_wp2_with fail
  refine (alive2 sSum sSeal sOpen w).mono ?_
  rintro e w1 ⟨rfl, c1⟩
  go_wp2
  go_ret
  exact ⟨rfl, c1⟩

set_option maxHeartbeats 800000 in
theorem crcOne_short (sSum : SumSaid) (sSeal : SealSaid) (sOpen : OpenSaid) (a : Option Addr) (n cap : Nat) (P : Int) (T : Nat) (w : World) (h : n < 4) (h0 : T ≠ 0) :
    Calls Try.prog 3 #[.slice a n cap, .int .i64 P, .int .u32 T] w fun e w' => e = .returned (.bool true) ∧ Below w.heap.size w w' := by
  have hT0 : ((T : Int) == 0) = false := beq_eq_false_iff_ne.2 (by omega)
  go_enter Try.func3, Try.ntmps3
  go_wp2_with fail
  refine (alive2 sSum sSeal sOpen w).mono ?_
  rintro e w1 ⟨rfl, c1⟩
  go_wp2
  go_ret
  exact ⟨rfl, c1⟩

set_option maxHeartbeats 1600000 in
theorem crcOne_in (sSum : SumSaid) (sSeal : SealSaid) (sOpen : OpenSaid) (a : Option Addr) (n cap : Nat) (l : List UInt8) (P : Int) (T : Nat) (w : World) (hB : IsB w a n l) (hn : n ≤ 140737488351232) (hcap : n ≤ cap) (hnil : a = none → cap = 0) (hT : T < 4294967296) (h0 : T ≠ 0) (h4 : 4 ≤ n)
    (hP1 : -9223372036854775808 ≤ P) (hP2 : P ≤ 9223372036854775807) :
    Calls Try.prog 3 #[.slice a n cap, .int .i64 P, .int .u32 T] w fun e w' => e = .returned (.bool true) ∧ Below w.heap.size w w' := by
  have HN : Hid (a = none → cap = 0) := hnil
  clear hnil
  have hT0 : ((T : Int) == 0) = false := beq_eq_false_iff_ne.2 (by omega)
  have HB0 : Hid _ := fun i => bit_test T i hT
  have t1 := Int.lt_tmod_of_pos P (show (0 : Int) < 8 * (n : Int) - 31 by omega)
  have t2 := Int.tmod_lt_of_pos P (show (0 : Int) < 8 * (n : Int) - 31 by omega)
  go_enter Try.func3, Try.ntmps3
  go_wp2_with fail
  refine (alive2 sSum sSeal sOpen w).mono ?_
  rintro e w1 ⟨rfl, c1⟩
  have HZ1 : Hid (w.heap.size ≤ w1.heap.size) := c1.size
  go_wp2_with fail
  refine (copy_u w1 a n cap l (by omega) HN.out (hB.below c1)).mono ?_
  rintro e w2 ⟨sa, sc, rfl, hs, b2⟩
  have c2 := on c1 b2
  clear c1 b2
  have u1 := Int.emod_nonneg (P.tmod (8 * (n : Int) - 31) + 8 * (n : Int) - 31) (show (8 * (n : Int) - 31) ≠ 0 by omega)
  have u2 := Int.emod_lt_of_pos (P.tmod (8 * (n : Int) - 31) + 8 * (n : Int) - 31) (show (0 : Int) < 8 * (n : Int) - 31 by omega)
  generalize (P.tmod (8 * (n : Int) - 31) + 8 * (n : Int) - 31) % (8 * (n : Int) - 31) = q at *
  obtain ⟨p, rfl⟩ := Int.eq_ofNat_of_zero_le u1
  have hp : p + 32 ≤ 8 * n := by omega
  clear t1 t2 u1 u2
  have hl : l.length = n := hB.1
  have hSl : l.length = n := hl
  have ho1 := Crc.sum_unlike l (Crc.turned l p T 32) (Crc.turned_length _ _ _ _).symm (Crc.turned_leaves l p T hT h0 (by omega))
  have HO : Hid _ := ho1
  clear ho1
  obtain ⟨g, rfl⟩ : ∃ g, sa = some ⟨g, 0, none⟩ := own_some hs (by omega)
  go_wp2
  go_loopw [9] (fun i wr => ∃ k : Nat, k ≤ 32 ∧ i = .int .i64 k ∧ wr.ownsRow w1.heap.size 5 1 (.slice (some ⟨g, 0, none⟩) n sc) n (cellsOf (Crc.turned l p T k)) ∧ Below w.heap.size w wr)
    (fun i _ => 32 - (intOf i).toNat)
  case atStart => exact ⟨0, Nat.zero_le _, rfl, hs, c2⟩
  case round =>
    obtain ⟨k, hk, rfl, hown, hbel⟩ := hrel
    clear hs c2
    by_cases hk32 : k < 32
    · by_cases hbit : T.testBit k = true
      · have hb1 := HB0.out k
        rw [hbit] at hb1
        have htl := Crc.turned_length l p T k
        have hidx : (p + k) / 8 < (Crc.turned l p T k).length := by omega
        have hc := hown.cellAt ((p + k) / 8) (by omega)
        rw [cellsOf, List.getElem?_map, List.getElem?_eq_getElem hidx] at hc
        simp only [Option.map_some] at hc
        have hf := hown.frozenAt ((p + k) / 8)
        have hst := store_turn (Nat.mod_lt (p + k) (by decide)) hidx hown
        rw [← turned_yes l p T k hbit] at hst
        have hgb := own_base hown g rfl
        clear HB0 hown
        go_wp2
        go_region
        all_goals go_wp2
        all_goals go_roundw
        case rel => exact ⟨k + 1, by omega, by go_num, hst.drew, (hbel.setCell (Nat.le_trans HZ1.out hgb) _).drew⟩
        case measure => simp [intOf]; omega
      · have hb1 := HB0.out k
        rw [show T.testBit k = false from by simpa using hbit] at hb1
        go_wp2
        go_roundw
        case rel => exact ⟨k + 1, by omega, by go_num, by rw [turned_no l p T k hbit]; exact hown, hbel⟩
        case measure => simp [intOf]; omega
    · have e : k = 32 := by omega
      subst e
      obtain ⟨hUB, hUc, hUn⟩ := owns_isB hown
      have HUN : Hid _ := hUn
      clear hUn hown HB0
      have hl32 := Crc.turned_length l p T 32
      go_wp2_with fail
      refine (sSum wr _ n sc _ (by omega) hUc hUB).mono ?_
      rintro e w5 ⟨rfl, b5⟩
      have c5 := on hbel b5
      clear b5 hbel hUB
      go_wp2_with fail
      refine (sSum w5 a n cap l (by omega) hcap (hB.below c5)).mono ?_
      rintro e w6 ⟨rfl, b6⟩
      have c6 := on c5 b6
      have hne : ((Crc.sum (Crc.turned l p T 32) : Nat) : Int) ≠ ((Crc.sum l : Nat) : Int) := fun h => HO.out (Int.ofNat_inj.1 h).symm
      have hne2 := bne_iff_ne.2 hne
      clear c5 b6 hne
      go_wp2
      go_ret
      exact ⟨rfl, c6⟩

end Go.Proofs.Ytbnhiagliikgmab
