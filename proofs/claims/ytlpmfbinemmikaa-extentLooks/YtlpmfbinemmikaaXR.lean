/-
  The landed extent: Look's own contract. Conditions: those that it names.
-/
import Derived.Test.YtlpmfbinemmikaaXQ
import Derived.Test.YtlpmfbinemmikaaXO
import Derived.Laws.EntriesVeiled
namespace Go.Proofs.Ytlpmfbinemmikaa
open Go.RowKit
set_option linter.unusedVariables false

set_option maxHeartbeats 4000000 in
theorem extLook_u (w : World) (P : Nat → Prop) (a : Option Addr) (n c : Nat) (l : List Ext) (hL : rExts.rd w P [.slice a n c] l) (v k : Int) (hk : k ≤ 9223372036854775807) :
    Calls Try.prog 12 #[.slice a n c, .int .i64 v, .int .i64 k] w fun e w' => ∃ b, e = .returned (.tuple #[b, .int .i64 (Ex.lookE l v k)]) ∧ OwnE 24 w' w.heap.size b (Ex.lookL l v k) ∧ Below w.heap.size w w' := by
  have HR : Hid _ := hL
  by_cases hz : Ex.lookE l v k = 0
  · obtain ⟨hO, hf⟩ := Ex.lookE_zero.1 hz
    have HLL : Hid (Ex.lookL l v k = Ex.look l v k) := if_pos hz
    have HOk : Hid _ := hO
    have HZ : Hid (Ex.lookE l v k = 0) := hz
    have HEq : Hid (Ex.lookF v (v + k) (Ex.within l v (v + k)) = Ex.look l v k) := Ex.lookF_eq hO hf
    unfold Ex.Fits at hf
    obtain ⟨f1, f2, f3, f4⟩ := hf
    have HB : Hid (Ex.Bits ([] ++ Ex.within l v (v + k))) := Ex.within_pieces hO f1 (by omega) (by omega)
    clear hO hz hL
    go_enter Try.func12, Try.ntmps12
    go_wp2_with fail
    refine (checkSectors_u _ P _ _ _ l HR.out v k hk _ HZ.out).mono ?_
    rintro e w1 ⟨rfl, b1⟩
    obtain ⟨w2, hw2, V2, b2, z2⟩ := boxedRow w1 22 [.slice none 0 0]
    obtain ⟨w3, hw3, V3, b3, z3⟩ := boxedRow w2 3 [.int .i64 v]
    obtain ⟨w4, hw4, V4, b4, z4⟩ := boxedRow w3 62 [.func (.func 32) #[] #[.pointer (some ⟨w1.heap.size + 1, 0, none⟩), .pointer (some ⟨w1.heap.size, 0, none⟩)]]
    rw [z2] at z3 V3
    rw [z3] at z4 V4
    have HV4 : Hid (Row w4 (w1.heap.size + 1 + 1) 62 [.func (.func 32) #[] #[.pointer (some ⟨w1.heap.size + 1, 0, none⟩), .pointer (some ⟨w1.heap.size, 0, none⟩)]]) := V4
    have HV3 : Hid (Row w4 (w1.heap.size + 1) 3 [.int .i64 v]) := V3.below b4
    have B1 : Hid (Below w.heap.size w w1) := b1
    have B4 : Hid (Below w1.heap.size w1 w4) := on (on b2 b3) b4
    have HR1 : Hid _ := Rep.below HR.out b1
    have HJ : Hid (LookBox w1.heap.size v [] (fun k => k = w1.heap.size ∨ k = w1.heap.size + 1 ∨ k = w1.heap.size + 1 + 1) w4) :=
      ⟨_, (V2.below b3).below b4, OwnE.nil _ _ _, V3.below b4, V4, fun k => by simp [Value.ownBlock], f1, by show v ≤ 65536; omega⟩
    have HZ4 : Hid (w4.heap.size = w1.heap.size + 1 + 1 + 1) := z4
    have k3 := HV3.out.cell (j := 0) rfl
    have k4 := HV4.out.cell (j := 0) rfl
    clear V2 V3 V4 b1 b2 b3 b4 z4
    go_wp2_with fail
    refine (layWithin_u (lookLayer w1.heap.size v) w4 (fun b => b < w1.heap.size) a n c l (rExts_low HR1.out B4.out) HOk.out [] _ HJ.out (fun b hb _ h => by rcases h with h | h | h <;> omega) v (v + k) (by omega) (by omega) (by omega) (by omega) HB.out).mono ?_
    rintro e w5 ⟨rfl, S5, hj5, ht5⟩
    obtain ⟨v5, V5, O5, VA5, VH5, hS5, hb1, hb2⟩ := hj5.ex
    have B5 : Hid (Below w1.heap.size w1 w5) := B4.out.trans (ht5.below B4.out.size (fun k hk => by rcases hk with h | h | h <;> omega))
    have HSz : Hid (w1.heap.size + 3 ≤ w5.heap.size) := by
      have h1 := ht5.size
      have h2 := HZ4.out
      unfold Hid at h2 ⊢
      omega
    have kH := VH5.cell (j := 0) rfl
    have eg := enters_of Try.func32 (by kernel_rfl) rfl
    have HC : Hid (Calls Try.prog 32 (#[.int .i64 (v + k)] ++ #[.pointer (some ⟨w1.heap.size + 1, 0, none⟩), .pointer (some ⟨w1.heap.size, 0, none⟩)]) w5 fun e w' => e = .returned (.tuple #[]) ∧ ∃ v', Row w' w1.heap.size 22 [v'] ∧ OwnE 24 w' (w1.heap.size + 3) v' (Ex.holes v ([] ++ Ex.within l v (v + k)) ++ Ex.hole (Ex.last v ([] ++ Ex.within l v (v + k))) (v + k)) ∧ Turns (fun k => k = w1.heap.size ∨ v5.ownBlock = some k) (fun k => k = w1.heap.size ∨ v'.ownBlock = some k) w5 w') :=
      layHole_u w5 w1.heap.size (w1.heap.size + 1) (w1.heap.size + 3) v5 _ _ (v + k) V5 O5 VA5 (by omega) HSz.out hb1 hb2 (by omega) (by omega) (by have := Ex.holes_len ([] ++ Ex.within l v (v + k)) v; have := HB.out.pieces.len; omega)
    have HOl : Hid (∀ k, v5.ownBlock = some k → w1.heap.size ≤ k) := fun k e => by have := (O5.row.lt k e).1; omega
    clear hj5 ht5 V5 O5 VA5 VH5 hS5 hb1 hb2 k3 k4
    go_wp2_with fail
    refine Calls.mono HC.out ?_
    rintro e w6 ⟨rfl, v6, V6, O6, T6⟩
    replace O6 : OwnE 24 w6 (w1.heap.size + 3) v6 (Ex.look l v k) := by rw [← HEq.out]; exact O6
    obtain ⟨a6, c6, hv6, -, -⟩ := O6.slice
    subst hv6
    have k6 := V6.cell (j := 0) rfl
    have HO6 : Hid (OwnE _ _ _ _ _) := O6
    have B6 : Hid (Below w.heap.size w w6) := on B1.out (B5.out.trans (T6.below B5.out.size (fun k hk => hk.elim (fun h => Nat.le_of_eq h.symm) (HOl.out k))))
    have HZ1 : Hid (w.heap.size ≤ w1.heap.size) := B1.out.size
    clear V6 O6 T6 kH
    go_wp2
    go_ret2
    refine ⟨_, by rw [HZ.out]; rfl, ?_, B6.out⟩
    rw [HLL.out]
    have hle : w.heap.size ≤ w1.heap.size + 3 := Nat.le_trans HZ1.out (Nat.le_add_right _ _)
    exact HO6.out.mono hle
  · have HE : Hid (Ex.lookL l v k = []) := if_neg hz
    obtain ⟨q, hq⟩ : ∃ q, Ex.lookE l v k = q := ⟨_, rfl⟩
    have HQ : Hid _ := hq
    rw [hq] at hz ⊢
    have hz' : (q == 0) = false := beq_eq_false_iff_ne.2 hz
    clear hL hq
    go_enter Try.func12, Try.ntmps12
    go_wp2_with fail
    refine (checkSectors_u _ P _ _ _ l HR.out v k hk _ HQ.out).mono ?_
    rintro e w1 ⟨rfl, b1⟩
    go_wp2
    go_ret2
    exact ⟨_, rfl, by rw [HE.out]; exact OwnE.nil _ _ _, b1⟩

end Go.Proofs.Ytlpmfbinemmikaa
