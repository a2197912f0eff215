/-
  The walk of CrcLinear, on what Sum, Seal and Open answer. Conditions: those premises.
-/
import Derived.Test.YtbnhiagliikgmaaCrcSaid
import Derived.RegionTactic
import Derived.Deep.RegionWith
import Derived.Deep.RegionLaw
import Derived.Deep.DeepCutAuto
import Derived.Deep.CutRange
namespace Go.Proofs.Ytbnhiagliikgmaa
open Go.RowKit
set_option linter.unusedVariables false

theorem step_append_two {w : World} {ops : Array Oper} {o : Oper} {a : Act} {K : Act → World → Prop} {Q : Exit → Act → World → Prop} {E : Prop} (hgd : o.guard = none) (s x : Operand)
    (ho : o.op = .call { callee := .builtin .append, args := #[s, x], argTypes := #[22, 22] })
    (base : Nat) (v : Value) (n : Nat) (l : List UInt8) (hs : a.eval s = v) (hown : w.ownsRow base 5 1 v n (cellsOf l))
    (y : Addr) (m c : Nat) (k : List UInt8) (hx : a.eval x = .slice (some y) m c) (hB : IsB w (some y) m k)
    (hbytes : n + m ≤ 140737488355328) (hbase : base ≤ w.heap.size)
    (h : ∀ b d w', w'.ownsRow base 5 1 (.slice b (n + m) d) (n + m) (cellsOf (l ++ k)) → w.grownBy w' v.ownBlock → K (a.put o.dst (.slice b (n + m) d)) w') :
    if Region.wanted o (yielded ops a.tmps) = true then Oper.wp Try.prog o a w K Q else E := by
  have hw : Region.wanted o (yielded ops a.tmps) = true := by simp [Region.wanted, hgd]
  rw [if_pos hw]
  obtain ⟨i0, hi, hz0, hz1, hz2⟩ := info_parts info_u8
  have hk := hB.1
  refine wp_append_own w s x 22 ho base 5 i0 (.int .u8 0) 1 1 Try.underlying22 hi hz0 hz1 hz2 rfl (by decide) v n _ hs hown y m c (cellsOf k) hx (by simp [cellsOf, hk]) (isB_cells hB) (cellsOf_oneCell k) (by unfold maxLen; omega) (by omega) hbase ?_
  intro v' w' ho' hg _
  rw [← cellsOf_append] at ho'
  obtain ⟨b, d, rfl, _⟩ := owns_slice ho'
  exact h b d w' ho' hg

theorem isB_head {w : World} {a : Option Addr} {n : Nat} {l : List UInt8} (h : IsB w a n l) (k : Nat) (hk : k ≤ n) : IsB w a k (l.take k) := by
  have h1 := h.1
  refine ⟨by simp; omega, fun e => by have := h.2.1 e; omega, fun x hx j hj => ?_⟩
  have hj' : j < l.length := by simp at hj; omega
  rw [h.2.2 x hx j hj']
  simp

theorem xor_u8 (x y : UInt8) : bits BinOp.xor IntKind.u8 (x.toNat : Int) (y.toNat : Int) = ((x ^^^ y).toNat : Int) := by
  have hx : x.toNat < 256 := by have := x.toNat_lt; simpa using this
  have hy : y.toNat < 256 := by have := y.toNat_lt; simpa using this
  rw [u8_xor_nat x.toNat y.toNat hx hy, UInt8.toNat_xor]

theorem xorL_length (l m : List UInt8) : (Crc.xorL l m).length = min l.length m.length := by simp [Crc.xorL]

theorem xorL_next (A B C : List UInt8) (k : Nat) (hA : k < A.length) (hB : k < B.length) (hC : k < C.length) :
    (Crc.xorL (Crc.xorL A B) C).take (k + 1) = (Crc.xorL (Crc.xorL A B) C).take k ++ [A[k] ^^^ B[k] ^^^ C[k]] := by
  rw [List.take_succ_eq_append_getElem (by simp [Crc.xorL]; omega)]
  simp [Crc.xorL]

set_option maxHeartbeats 1600000 in
theorem crcLinear_in (sSum : SumSaid) (sSeal : SealSaid) (sOpen : OpenSaid) (a1 a2 a3 : Option Addr) (n1 c1 n2 c2 n3 c3 m : Nat) (A B C : List UInt8) (w : World) (hm : m = min n1 (min n2 n3)) (hA : IsB w a1 n1 A) (hB : IsB w a2 n2 B) (hC : IsB w a3 n3 C)
    (h1 : n1 ≤ 140737488351232) (h2 : n2 ≤ 140737488351232) (h3 : n3 ≤ 140737488351232) (k1 : n1 ≤ c1) (k2 : n2 ≤ c2) (k3 : n3 ≤ c3) :
    Calls Try.prog 7 #[.slice a1 n1 c1, .slice a2 n2 c2, .slice a3 n3 c3] w fun e w' => e = .returned (.bool true) ∧ Below w.heap.size w w' := by
  go_enter Try.func7, Try.ntmps7
  go_upto_region 1 with fail
  go_cut [7] (fun s wx => s = .int .i64 (m : Nat) ∧ wx = w)
  case first =>
    go_wp2
    all_goals go_meet
    all_goals exact ⟨by rw [hm]; go_num, rfl⟩
  case rest =>
    obtain ⟨rfl, rfl⟩ := hcut
    have e1 : m ≤ n1 := by omega
    have e2 : m ≤ n2 := by omega
    have e3 : m ≤ n3 := by omega
    clear hm
    have lA := hA.1
    have lB := hB.1
    have lC := hC.1
    go_wp2
    go_loopw [8, 9] (fun out i wr => ∃ k : Nat, k ≤ m ∧ i = .int .i64 k ∧ wr.ownsRow wc.heap.size 5 1 out k (cellsOf ((Crc.xorL (Crc.xorL A B) C).take k)) ∧ Below wc.heap.size wc wr)
      (fun _ i _ => m - (intOf i).toNat)
    case atStart => exact ⟨0, Nat.zero_le _, rfl, own_nil _ _, Below.refl _ _⟩
    case round =>
      obtain ⟨k, hk, rfl, hown, hbel⟩ := hrel
      obtain ⟨b, d, rfl, -⟩ := owns_slice hown
      by_cases hlt : k < m
      · obtain ⟨x1, o1, rfl, q1⟩ := hA.place (by omega)
        obtain ⟨x2, o2, rfl, q2⟩ := hB.place (by omega)
        obtain ⟨x3, o3, rfl, q3⟩ := hC.place (by omega)
        have f1 := q1 k (by omega)
        have f2 := q2 k (by omega)
        have f3 := q3 k (by omega)
        have g1 := (hbel.cell (World.block_lt_of_cell? _ _ f1)).trans f1
        have g2 := (hbel.cell (World.block_lt_of_cell? _ _ f2)).trans f2
        have g3 := (hbel.cell (World.block_lt_of_cell? _ _ f3)).trans f3
        clear f1 f2 f3 q1 q2 q3
        have hnx := xorL_next A B C k (by omega) (by omega) (by omega)
        have HNX : Hid _ := hnx
        have p1 : (A[k]'(by omega)).toNat < 256 := by have := (A[k]'(by omega)).toNat_lt; simpa using this
        have p2 : (B[k]'(by omega)).toNat < 256 := by have := (B[k]'(by omega)).toNat_lt; simpa using this
        have p3 : (C[k]'(by omega)).toNat < 256 := by have := (C[k]'(by omega)).toNat_lt; simpa using this
        have hyz : ((A[k]'(by omega) ^^^ B[k]'(by omega)) ^^^ C[k]'(by omega)).toNat = (A[k]'(by omega)).toNat ^^^ (B[k]'(by omega)).toNat ^^^ (C[k]'(by omega)).toNat := by rw [UInt8.toNat_xor, UInt8.toNat_xor]
        clear hnx
        generalize (A[k]'(by omega) ^^^ B[k]'(by omega)) ^^^ C[k]'(by omega) = y at *
        have hy := isB_lit wr [y] (0, 0)
        have hyc : (cellsOf [y]).toArray = #[.int .u8 (y.toNat : Int)] := rfl
        rw [hyc, hyz] at hy
        generalize (A[k]'(by omega)).toNat = q1 at *
        generalize (B[k]'(by omega)).toNat = q2 at *
        generalize (C[k]'(by omega)).toNat = q3 at *
        have hx1 := u8_xor_nat q1 q2 p1 p2
        have hx2 := u8_xor_nat (q1 ^^^ q2) q3 (Nat.xor_lt_two_pow (n := 8) p1 p2) p3
        generalize q1 ^^^ q2 = q4 at *
        generalize q4 ^^^ q3 = q5 at *
        clear hyc hyz p1 p2 p3
        have hsz := hbel.size
        have hk1 : k < n1 := by omega
        have hk2 : k < n2 := by omega
        have hk3 : k < n3 := by omega
        have hok : Hid (k + 1 ≤ 140737488355328) := by unfold Hid; omega
        go_wp2
        go_region_law (refine step_append_two rfl (.tmp 22) (.tmp 37) rfl wc.heap.size (.slice b k d) k _ (by simp [Act.eval]) (by exact (hown.alloc _)) ⟨wr.heap.size, 0, none⟩ 1 1 [y] (by simp [Act.eval]) (by exact hy) hok.out (by simp; omega) ?_; intro b4 d4 w4 ho4 g4)
        all_goals go_wp2
        all_goals
          go_roundw
          case rel => exact ⟨k + 1, by omega, by go_num, by rw [HNX.out]; exact ho4, (hbel.drew.alloc hsz _).grown g4 (by simp; omega) (own_base hown)⟩
          case measure => simp [intOf]; omega
      · have e : k = m := by omega
        subst e
        have hX : (Crc.xorL (Crc.xorL A B) C).take k = Crc.xorL (Crc.xorL (A.take k) (B.take k)) (C.take k) := by simp [Crc.xorL, List.take_zipWith]
        rw [hX] at hown
        have hS := Crc.sum_three (A.take k) (B.take k) (C.take k) (by simp; omega) (by simp; omega)
        have sA := Crc.sum_lt (A.take k)
        have sB := Crc.sum_lt (B.take k)
        have sC := Crc.sum_lt (C.take k)
        have x1 := u32_xor_nat _ _ sA sB
        have x2 := u32_xor_nat _ _ (Crc.xor_lt sA sB) sC
        rw [← hS] at x2
        have FA : Hid (∀ wx, Below wc.heap.size wc wx → IsB wx a1 k (A.take k)) := fun wx h => isB_head (hA.below h) k e1
        have FB : Hid (∀ wx, Below wc.heap.size wc wx → IsB wx a2 k (B.take k)) := fun wx h => isB_head (hB.below h) k e2
        have FC : Hid (∀ wx, Below wc.heap.size wc wx → IsB wx a3 k (C.take k)) := fun wx h => isB_head (hC.below h) k e3
        obtain ⟨hXB, hXd, -⟩ := owns_isB hown
        have hXB2 : IsB wr.drew b k (Crc.xorL (Crc.xorL (A.take k) (B.take k)) (C.take k)) := hXB
        have hb2 : Below wc.heap.size wc wr.drew := hbel.drew
        clear hX hS sA sB sC hown hbel hXB hA hB hC lA lB lC
        generalize A.take k = A' at *
        generalize B.take k = B' at *
        generalize C.take k = C' at *
        generalize Crc.xorL (Crc.xorL A' B') C' = X at *
        have hk0 : k ≤ 140737488355328 := by omega
        have hkc1 : k ≤ c1 := by omega
        have hkc2 : k ≤ c2 := by omega
        have hkc3 : k ≤ c3 := by omega
        go_wp2
        go_region_with (first
          | (go_at_call_of 12 (Value.slice b k d); refine (sSum wr.drew b k d X hk0 hXd hXB2).mono ?_; rintro e w4 ⟨rfl, b4⟩; have c4 := on hb2 b4)
          | (go_at_call_of 12 (Value.slice a1 k c1); refine (sSum w4 a1 k c1 A' hk0 hkc1 (FA.out w4 c4)).mono ?_; rintro e w5 ⟨rfl, b5⟩; have c5 := on c4 b5)
          | (go_at_call_of 12 (Value.slice a2 k c2); refine (sSum w5 a2 k c2 B' hk0 hkc2 (FB.out w5 c5)).mono ?_; rintro e w6 ⟨rfl, b6⟩; have c6 := on c5 b6)
          | (go_at_call_of 12 (Value.slice a3 k c3); refine (sSum w6 a3 k c3 C' hk0 hkc3 (FC.out w6 c6)).mono ?_; rintro e w7 ⟨rfl, b7⟩; have c7 := on c6 b7)
          | (go_at_call 20; refine (alive2 sSum sSeal sOpen w7).mono ?_; rintro e w8 ⟨rfl, b8⟩; have c8 := on c7 b8))
        all_goals go_wp2
        all_goals go_ret
        all_goals exact ⟨rfl, c8⟩

end Go.Proofs.Ytbnhiagliikgmaa
