/-
  The walks of CrcTells, CrcBack and CrcOwn, on what Sum, More, Seal and Open answer. Conditions: those premises.
-/
import Derived.Test.YtbnhiagliikgmaaCMore
import Derived.Test.YtbnhiagliikgmaaRefSeal
import Derived.Test.YtbnhiagliikgmaaBSame
import Derived.Test.YtbnhiagliikgmaaBCopy
import Derived.Test.YtbnhiagliikgmaaBSpoil
namespace Go.Proofs.Ytbnhiagliikgmaa
open Go.RowKit
set_option linter.unusedVariables false

set_option maxHeartbeats 1600000 in
theorem crcTells_in (sSum : SumSaid) (sMore : MoreSaid) (sSeal : SealSaid) (sOpen : OpenSaid) (a : Option Addr) (n cap : Nat) (l : List UInt8) (c : Nat) (w : World) (hc : c < 4294967296) (hB : IsB w a n l) (hn : n ≤ 140737488351232) (hcap : n ≤ cap) (hnil : a = none → cap = 0) :
    Calls Try.prog 3 #[.slice a n cap, .int .u32 c] w fun e w' => e = .returned (.bool true) ∧ Below w.heap.size w w' := by
  have hm : n ≤ maxLen := by unfold maxLen; omega
  have HN : Hid (a = none → cap = 0) := hnil
  clear hnil
  go_enter Try.func3, Try.ntmps3
  go_wp2_with fail
  refine (copy_u w a n cap l (by omega) HN.out hB).mono ?_
  rintro e w1 ⟨b, d, rfl, ho, c1⟩
  have hd : n ≤ d := (owns_isB ho).2.1
  have hdn := (owns_isB ho).2.2
  have HD : Hid _ := hdn
  clear hdn
  go_wp2_with fail
  refine (sOpen w1 b n d l (by omega) hd HD.out (owns_isB ho).1).mono ?_
  rintro e w2 ⟨xa, xl, xc, rfl, hx, b2⟩
  have ho2 := owns_below ho b2
  have c2 := on c1 b2
  clear ho c1 b2
  go_wp2_with fail
  refine (refOpen_u w2 a n cap l hn hcap (hB.below c2)).mono ?_
  rintro e w3 ⟨ya, yl, yc, rfl, hy, b3⟩
  have ho3 := owns_below ho2 b3
  have hx3 := owns_below hx b3
  have c3 := on c2 b3
  clear ho2 hx c2 b3
  generalize Crc.openE l = oe at *
  go_wp2_with fail
  refine (sSum w3 b n d l (by omega) hd (owns_isB ho3).1).mono ?_
  rintro e w4 ⟨rfl, b4⟩
  have ho4 := owns_below ho3 b4
  have hx4 := owns_below hx3 b4
  have hy4 := owns_below hy b4
  have c4 := on c3 b4
  clear ho3 hx3 hy c3 b4
  go_wp2_with fail
  refine (refSum_u w4 a n cap l hm (hB.below c4)).mono ?_
  rintro e w5 ⟨rfl, rfl⟩
  generalize Crc.sum l = su at *
  go_wp2_with fail
  refine (sMore w4 c b n d l hc (by omega) hd (owns_isB ho4).1).mono ?_
  rintro e w5 ⟨rfl, b5⟩
  have ho5 := owns_below ho4 b5
  have hx5 := owns_below hx4 b5
  have hy5 := owns_below hy4 b5
  have c5 := on c4 b5
  clear ho4 hx4 hy4 c4 b5
  go_wp2_with fail
  refine (refMore_u w5 c hc a n cap l hm (hB.below c5)).mono ?_
  rintro e w6 ⟨rfl, rfl⟩
  generalize Crc.more c l = mo at *
  go_wp2_with fail
  refine (sSeal w5 b n d l hn hd HD.out (owns_isB ho5).1).mono ?_
  rintro e w6 ⟨sa, sc, rfl, hs, b6⟩
  have ho6 := owns_below ho5 b6
  have hx6 := owns_below hx5 b6
  have hy6 := owns_below hy5 b6
  have c6 := on c5 b6
  clear ho5 hx5 hy5 c5 b6
  go_wp2_with fail
  refine (refSeal_u w6 a n cap l hn HN.out (hB.below c6)).mono ?_
  rintro e w7 ⟨ta, tc, rfl, ht, b7⟩
  have ho7 := owns_below ho6 b7
  have hx7 := owns_below hx6 b7
  have hy7 := owns_below hy6 b7
  have hs7 := owns_below hs b7
  have c7 := on c6 b7
  clear ho6 hx6 hy6 hs c6 b7
  go_wp2_with fail
  refine (sameBytes_any w7 _ _ _ _ _ _ _ _ (owns_isB hs7).1 (owns_isB ht).1).mono ?_
  rintro e w8 ⟨rfl, rfl⟩
  rw [beq_self_eq_true]
  go_wp2_with fail
  refine (sameBytes_any w7 _ _ _ _ _ _ _ _ (owns_isB hx7).1 (owns_isB hy7).1).mono ?_
  rintro e w8 ⟨rfl, rfl⟩
  rw [beq_self_eq_true]
  go_wp2_with (go_at_call 19; refine (num_any _ _).mono ?_; rintro e w9 ⟨rfl, rfl⟩)
  refine (sameBytes_any w7 _ _ _ _ _ _ _ _ (owns_isB ho7).1 (hB.below c7)).mono ?_
  rintro e w8 ⟨rfl, rfl⟩
  rw [beq_self_eq_true]
  go_wp2_with fail
  refine (alive2 sSum sSeal sOpen w7).mono ?_
  rintro e w8 ⟨rfl, b8⟩
  go_wp2
  go_ret
  exact ⟨rfl, on c7 b8⟩

set_option maxHeartbeats 800000 in
theorem crcBack_in (sSum : SumSaid) (sSeal : SealSaid) (sOpen : OpenSaid) (a : Option Addr) (n cap : Nat) (l : List UInt8) (w : World) (hB : IsB w a n l) (hn : n ≤ 140737488351232) (hcap : n ≤ cap) (hnil : a = none → cap = 0) :
    Calls Try.prog 5 #[.slice a n cap] w fun e w' => e = .returned (.bool true) ∧ Below w.heap.size w w' := by
  have HN : Hid (a = none → cap = 0) := hnil
  clear hnil
  have O1 : Hid _ := Crc.open_sealed l
  go_enter Try.func5, Try.ntmps5
  go_wp2_with fail
  refine (alive2 sSum sSeal sOpen w).mono ?_
  rintro e w1 ⟨rfl, c1⟩
  go_wp2_with fail
  refine (sSeal w1 a n cap l hn hcap HN.out (hB.below c1)).mono ?_
  rintro e w2 ⟨sa, sc, rfl, hs, b2⟩
  have c2 := on c1 b2
  clear c1 b2
  go_wp2_with fail
  refine (sOpen w2 sa (n + 4) sc _ (by omega) (owns_isB hs).2.1 (owns_isB hs).2.2 (owns_isB hs).1).mono ?_
  rintro e w3 ⟨xa, xl, xc, rfl, hx, b3⟩
  rw [O1.out.1]
  rw [O1.out.2] at hx
  have c3 := on c2 b3
  clear c2 b3 hs
  go_wp2_with (go_at_call 19; refine (num_any _ _).mono ?_; rintro e w9 ⟨rfl, rfl⟩)
  refine (sameBytes_any w3 _ _ _ _ _ _ _ _ (owns_isB hx).1 (hB.below c3)).mono ?_
  rintro e w4 ⟨rfl, rfl⟩
  rw [beq_self_eq_true]
  go_wp2
  go_ret
  exact ⟨by simp, c3⟩

set_option maxHeartbeats 800000 in
theorem crcOwn_in (sSum : SumSaid) (sSeal : SealSaid) (sOpen : OpenSaid) (a : Option Addr) (n cap : Nat) (l : List UInt8) (w : World) (hB : IsB w a n l) (hn : n ≤ 140737488351232) (hcap : n ≤ cap) (hnil : a = none → cap = 0) :
    Calls Try.prog 8 #[.slice a n cap] w fun e w' => e = .returned (.bool true) ∧ Below w.heap.size w w' := by
  have HN : Hid (a = none → cap = 0) := hnil
  clear hnil
  have O1 : Hid _ := Crc.open_sealed l
  go_enter Try.func8, Try.ntmps8
  go_wp2_with fail
  refine (alive2 sSum sSeal sOpen w).mono ?_
  rintro e w1 ⟨rfl, c1⟩
  go_wp2_with fail
  refine (copy_u w1 a n cap l (by omega) HN.out (hB.below c1)).mono ?_
  rintro e w2 ⟨b, d, rfl, ho, b2⟩
  have c2 := on c1 b2
  have LT2 : Hid _ := own_lt ho
  have HZ1 : Hid (w.heap.size ≤ w1.heap.size) := c1.size
  have HZ2 : Hid (w1.heap.size ≤ w2.heap.size) := b2.size
  clear c1 b2
  go_wp2_with fail
  refine (sSeal w2 b n d l hn (owns_isB ho).2.1 (owns_isB ho).2.2 (owns_isB ho).1).mono ?_
  rintro e w3 ⟨sa, sc, rfl, hs, b3⟩
  have ho3 := owns_below ho b3
  have c3 := on c2 b3
  have HZ3 : Hid (w2.heap.size ≤ w3.heap.size) := b3.size
  clear c2 b3 ho
  go_wp2_with fail
  refine (copy_u w3 sa (n + 4) sc _ (by omega) (owns_isB hs).2.2 (owns_isB hs).1).mono ?_
  rintro e w4 ⟨ia, ic, rfl, hi, b4⟩
  have ho4 := owns_below ho3 b4
  have hs4 := owns_below hs b4
  have c4 := on c3 b4
  have LT3 : Hid _ := own_lt hs
  have HZ4 : Hid (w3.heap.size ≤ w4.heap.size) := b4.size
  have LT4 : Hid _ := own_lt hi
  clear c3 b4 ho3 hs
  go_wp2_with fail
  refine (sOpen w4 ia (n + 4) ic _ (by omega) (owns_isB hi).2.1 (owns_isB hi).2.2 (owns_isB hi).1).mono ?_
  rintro e w5 ⟨xa, xl, xc, rfl, hx, b5⟩
  rw [O1.out.1]
  rw [O1.out.2] at hx
  have ho5 := owns_below ho4 b5
  have hs5 := owns_below hs4 b5
  have hi5 := owns_below hi b5
  have c5 := on c4 b5
  clear c4 b5 ho4 hs4 hi
  go_wp2_with fail
  refine (spoil_u w5 _ n d b l (by omega) ho5).mono ?_
  rintro e w6 ⟨rfl, g6⟩
  have hs6 := owns_grown hs5 g6 (fun k hk => LT2.out k hk)
  have hi6 := owns_grown hi5 g6 (fun k hk => Nat.lt_of_lt_of_le (LT2.out k hk) HZ3.out)
  have hx6 := owns_grown hx g6 (fun k hk => Nat.lt_of_lt_of_le (LT2.out k hk) (Nat.le_trans HZ3.out HZ4.out))
  have c6 : Below w.heap.size w w6 := c5.grown g6 c5.size (fun k hk => Nat.le_trans HZ1.out (own_base ho5 k hk))
  clear c5 g6 ho5 hs5 hi5 hx
  go_wp2_with fail
  refine (spoil_u w6 _ (n + 4) ic ia _ (by omega) hi6).mono ?_
  rintro e w7 ⟨rfl, g7⟩
  have hs7 := owns_grown2 hs6 g7 (fun k hk e => by have h1 := own_base hi6 k hk; have h2 := LT3.out k e; omega)
  have hx7 := owns_grown hx6 g7 (fun k hk => LT4.out k hk)
  have c7 : Below w.heap.size w w7 := c6.grown g7 c6.size (fun k hk => Nat.le_trans (Nat.le_trans HZ1.out (Nat.le_trans HZ2.out HZ3.out)) (own_base hi6 k hk))
  clear c6 g7 hs6 hx6 hi6
  go_wp2_with fail
  refine (refSeal_u w7 a n cap l hn HN.out (hB.below c7)).mono ?_
  rintro e w8 ⟨ta, tc, rfl, ht, b8⟩
  have hs8 := owns_below hs7 b8
  have hx8 := owns_below hx7 b8
  have c8 := on c7 b8
  clear c7 b8 hs7 hx7
  go_wp2_with fail
  refine (sameBytes_any w8 _ _ _ _ _ _ _ _ (owns_isB hs8).1 (owns_isB ht).1).mono ?_
  rintro e w9 ⟨rfl, rfl⟩
  rw [beq_self_eq_true]
  go_wp2_with (go_at_call 19; refine (num_any _ _).mono ?_; rintro e w9 ⟨rfl, rfl⟩)
  refine (sameBytes_any w8 _ _ _ _ _ _ _ _ (owns_isB hx8).1 (hB.below c8)).mono ?_
  rintro e w9 ⟨rfl, rfl⟩
  rw [beq_self_eq_true]
  go_wp2
  go_ret
  exact ⟨rfl, c8⟩

end Go.Proofs.Ytbnhiagliikgmaa
