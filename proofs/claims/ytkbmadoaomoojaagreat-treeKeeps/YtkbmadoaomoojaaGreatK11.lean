/-
  Facts that the proof rests on, part 12. Conditions: those that each of them names.
-/
import Derived.Deep.DeepCutAuto
import Derived.Deep.RegionWith
import Derived.Test.YtkbmadoaomoojaaGreatK00
import Derived.Test.YtkbmadoaomoojaaGreatK06
import Derived.Test.YtkbmadoaomoojaaGreatK07
import Derived.Test.YtkbmadoaomoojaaGreatK10
namespace Go.Proofs.YtkbmadoaomoojaaGreat
set_option maxRecDepth 20000
open Go.RowKit
set_option linter.unusedVariables false
set_option maxRecDepth 20000 in
set_option maxHeartbeats 4000000 in
theorem refCheck_u (w : World) (P P' : Nat → Prop) (a a' : Option Addr) (n c n' c' : Nat) (l : List Itm) (ks : List Int) (hL : rItms.rd w P [.slice a n c] l) (hK : rKids.rd w P' [.slice a' n' c'] ks) :
 Calls Tryz.prog 120 #[.agg #[.slice a n c, .slice a' n' c']] w fun e w' => e = .returned (.int .i64 (Lf.encodeE (l, ks))) ∧ Below w.heap.size w w' := by
 have HR : Hid _ := hL
 have HK : Hid _ := hK
 have HN : Hid (l.length = n) := (rList_len hL).1
 have HN' : Hid (ks.length = n') := (rList_len hK).1
 have hn0 : n ≤ 8796093022000 := by have : n * 16 ≤ 140737488351232 := (rList_len hL).2.2.2; omega
 have hn1 : n' ≤ 17592186044000 := by have : n' * 8 ≤ 140737488351232 := (rList_len hK).2.2.2; omega
 have HLen : Hid (Lf.LenOk (l, ks) ↔ 1 ≤ n ∧ n ≤ 3 ∧ (n' = 0 ∨ n' = n + 1)) := by unfold Hid Lf.LenOk; simp only [HN.out, HN'.out]
 obtain ⟨r, hr⟩ : ∃ r, r = Lf.encodeE (l, ks) := ⟨_, rfl⟩
 rw [← hr]
 have HD : Hid _ := hr
 clear hr
 obtain ⟨w0, hw0, V0, b0, z0⟩ := boxedRow w 139 [.slice a n c, .slice a' n' c']
 have HV0 : Hid _ := V0
 have B0 : Hid _ := b0
 clear hL hK V0 b0 z0
 go_enter Tryz.func120, Tryz.ntmps120
 obtain ⟨r0, r1⟩ := HV0.out.two
 by_cases g1 : n < 1
 · have HX : Hid (r = 9) := HD.out.trans (Lf.enc9 fun h => by have := HLen.out.1 h.1; omega)
   have g1z : (n : Int) < 1 := by omega
   go_wp2
   go_ret
   exact ⟨by rw [HX.out]; rfl, B0.out⟩
 by_cases g2 : n > 3
 · have HX : Hid (r = 9) := HD.out.trans (Lf.enc9 fun h => by have := HLen.out.1 h.1; omega)
   have g1z : ¬ (n : Int) < 1 := by omega
   have g2z : (n : Int) > 3 := by omega
   go_wp2
   go_ret
   exact ⟨by rw [HX.out]; rfl, B0.out⟩
 by_cases g3 : n' > 0 ∧ n' ≠ n + 1
 · have HX : Hid (r = 9) := HD.out.trans (Lf.enc9 fun h => by have := HLen.out.1 h.1; omega)
   have g1z : ¬ (n : Int) < 1 := by omega
   have g2z : ¬ (n : Int) > 3 := by omega
   have g3z : (n' : Int) > 0 := by omega
   have g4z : (n' : Int) ≠ (n : Int) + 1 := by omega
   go_wp2
   go_ret
   exact ⟨by rw [HX.out]; rfl, B0.out⟩
 have g1z : ¬ (n : Int) < 1 := by omega
 have g2z : ¬ (n : Int) > 3 := by omega
 have HLn : Hid (Lf.LenOk (l, ks)) := HLen.out.2 (by omega)
 have HIt : Hid (∀ (k : Nat) (h : k < l.length), Lf.ItemOk (l, ks) k ↔ (0 < k → l[k - 1].1.toNat < l[k].1.toNat) ∧ (0 < n' → l[k].2.toNat = 0)) := by
  intro k h
  rw [← HN'.out]
  exact ⟨fun e => e h, fun e _ => e⟩
 have HKd : Hid (∀ (k : Nat) (h : k < ks.length), Lf.KidOk (l, ks) k ↔ (1 ≤ ks[k] ∧ ks[k] ≤ 2048) ∧ ∀ (i : Nat) (hi : i < k), ks[i] ≠ ks[k]) := fun k h => ⟨fun e => e h, fun e _ => e⟩
 have HItn : True := trivial
 by_cases hn' : n' = 0
 · have g3z : ¬ (n' : Int) > 0 := by omega
   have g3d : decide ((n' : Int) > 0) = false := decide_eq_false g3z
   clear hn'
   go_wp2
   go_loopw [3] (fun i wr => ∃ k : Nat, k ≤ n ∧ i = .int .i64 k ∧ Hid (∀ j, j < k → Lf.ItemOk (l, ks) j) ∧ Below w0.heap.size w0 wr) (fun i _ => n - (intOf i).toNat)
   case atStart => exact ⟨0, Nat.zero_le _, rfl, fun j h => absurd h (Nat.not_lt_zero _), Below.refl _ _⟩
   case round =>
    obtain ⟨k, hk, rfl, HS, bel⟩ := hrel
    have BW : Hid _ := on B0.out bel
    obtain ⟨r0, r1⟩ := (HV0.out.below bel).two
    by_cases hlt : k < n
    · have hkl : k < l.length := by rw [HN.out]; exact hlt
      obtain ⟨g, off, rfl, -, -, hat⟩ := rItms_at (Rep.below HR.out BW.out) (by omega)
      obtain ⟨c0, c1⟩ := hat k hkl
      have HI := HIt.out k hkl
      have HNx : Hid (Lf.ItemOk (l, ks) k → ∀ j, j < k + 1 → Lf.ItemOk (l, ks) j) := fun e j hj => if h : j = k then h ▸ e else HS.out j (by omega)
      have hkz : (k : Int) < (n : Int) := by omega
      by_cases k0 : k = 0
      · have k0n : ¬ 0 < k := by omega
        have k0z : decide (0 < k) = false := decide_eq_false k0n
        clear k0
        obtain ⟨y, hX⟩ : ∃ y, y = l[k] := ⟨_, rfl⟩
        rw [← hX] at c0 c1 HI
        clear hX hat
        have HN2 : Hid _ := HNx.out (HI.2 ⟨fun _ => by omega, fun _ => by omega⟩)
        clear HNx HI
        go_wp2_with fail
        go_quiet (fail)
        go_wp2
        go_roundw
        case rel => exact ⟨k + 1, by omega, by go_num, HN2, same_drewN bel nq⟩
        case measure => simp [intOf]; omega
      · have k0p : 0 < k := by omega
        have k0z : decide (0 < k) = true := decide_eq_true k0p
        have k1z : ((k : Int) - 1).toNat = k - 1 := by omega
        have k2z : (0 : Int) ≤ (k : Int) - 1 := by omega
        have k3z : (k : Int) - 1 < (n : Int) := by omega
        obtain ⟨p0, p1⟩ := hat (k - 1) (by omega)
        obtain ⟨y, hX⟩ : ∃ y, y = l[k] := ⟨_, rfl⟩
        rw [← hX] at c0 c1 HI
        obtain ⟨z, hZ⟩ : ∃ z, z = l[k - 1] := ⟨_, rfl⟩
        rw [← hZ] at p0 p1 HI
        clear hX hZ hat
        by_cases ck : y.1.toNat ≤ z.1.toNat
        · have ckz : decide (y.1.toNat ≤ z.1.toNat) = true := decide_eq_true ck
          have HX : Hid (r = 9) := HD.out.trans (Lf.enc9 fun h => by have := HI.1 (h.2.1 k); have := this.1 (by omega); omega)
          clear HNx HI
          go_wp2_with fail
          go_quiet (fail)
          go_wp2
          go_ret
          exact ⟨by rw [HX.out]; rfl, same_drewN BW.out nq⟩
        · have ckz : decide (y.1.toNat ≤ z.1.toNat) = false := decide_eq_false ck
          have HN2 : Hid _ := HNx.out (HI.2 ⟨fun _ => by omega, fun _ => by omega⟩)
          clear HNx HI
          go_wp2_with fail
          go_quiet (fail)
          go_wp2
          go_roundw
          case rel => exact ⟨k + 1, by omega, by go_num, HN2, same_drewN bel nq⟩
          case measure => simp [intOf]; omega
    · obtain rfl : n = k := by omega
      have HAll : Hid (∀ j, Lf.ItemOk (l, ks) j) := fun j h => if hj : j < n then HS.out j hj h else absurd h (by have := HN.out; show ¬ j < l.length; omega)
      clear HS
      go_wp2
      go_loopw [4] (fun i wr => ∃ k : Nat, k ≤ n' ∧ i = .int .i64 k ∧ Hid (∀ j, j < k → Lf.KidOk (l, ks) j) ∧ Below w0.heap.size w0 wr) (fun i _ => n' - (intOf i).toNat)
      case atStart => exact ⟨0, Nat.zero_le _, rfl, fun j h => absurd h (Nat.not_lt_zero _), bel⟩
      case round =>
       clear r0 r1 bel BW
       obtain ⟨k, hk, rfl, HS, bel⟩ := hrel
       have BW : Hid _ := on B0.out bel
       obtain ⟨r0, r1⟩ := (HV0.out.below bel).two
       by_cases hlt : k < n'
       · exfalso; omega
       · obtain rfl : n' = k := by omega
         have HX : Hid (r = 0) := HD.out.trans (Lf.enc0 ⟨HLn.out, HAll.out, fun j h => if hj : j < n' then HS.out j hj h else absurd h (by have := HN'.out; show ¬ j < ks.length; omega)⟩)
         go_wp2
         go_ret
         exact ⟨by rw [HX.out]; rfl, BW.out⟩
 · have g3z : (n' : Int) > 0 := by omega
   have g3d : decide ((n' : Int) > 0) = true := decide_eq_true g3z
   have g4z : ((n' : Int) == (n : Int) + 1) = true := beq_iff_eq.2 (by omega)
   have g5z : decide (0 < n') = true := decide_eq_true (by omega)
   clear hn' g3
   go_wp2
   go_loopw [3] (fun i wr => ∃ k : Nat, k ≤ n ∧ i = .int .i64 k ∧ Hid (∀ j, j < k → Lf.ItemOk (l, ks) j) ∧ Below w0.heap.size w0 wr) (fun i _ => n - (intOf i).toNat)
   case atStart => exact ⟨0, Nat.zero_le _, rfl, fun j h => absurd h (Nat.not_lt_zero _), Below.refl _ _⟩
   case round =>
    obtain ⟨k, hk, rfl, HS, bel⟩ := hrel
    have BW : Hid _ := on B0.out bel
    obtain ⟨r0, r1⟩ := (HV0.out.below bel).two
    by_cases hlt : k < n
    · have hkl : k < l.length := by rw [HN.out]; exact hlt
      obtain ⟨g, off, rfl, -, -, hat⟩ := rItms_at (Rep.below HR.out BW.out) (by omega)
      obtain ⟨c0, c1⟩ := hat k hkl
      have HI := HIt.out k hkl
      have HNx : Hid (Lf.ItemOk (l, ks) k → ∀ j, j < k + 1 → Lf.ItemOk (l, ks) j) := fun e j hj => if h : j = k then h ▸ e else HS.out j (by omega)
      have hkz : (k : Int) < (n : Int) := by omega
      by_cases k0 : k = 0
      · have k0n : ¬ 0 < k := by omega
        have k0z : decide (0 < k) = false := decide_eq_false k0n
        clear k0
        obtain ⟨y, hX⟩ : ∃ y, y = l[k] := ⟨_, rfl⟩
        rw [← hX] at c0 c1 HI
        clear hX hat
        by_cases d : y.2.toNat = 0
        · rw [d] at c1
          have HN2 : Hid _ := HNx.out (HI.2 ⟨fun _ => by omega, fun _ => by omega⟩)
          clear HNx HI d
          go_wp2_with fail
          go_quiet (fail)
          go_wp2
          go_roundw
          case rel => exact ⟨k + 1, by omega, by go_num, HN2, same_drewN bel nq⟩
          case measure => simp [intOf]; omega
        · obtain ⟨v, hv⟩ : ∃ v, v = y.2.toNat := ⟨_, rfl⟩
          rw [← hv] at c1 d HI
          have d1 : 0 < v := by omega
          have d2 : ¬ v = 0 := by omega
          have HX : Hid (r = 9) := HD.out.trans (Lf.enc9 fun h => by have := HI.1 (h.2.1 k); exact d (this.2 (by omega)))
          clear HNx HI d hv
          go_wp2_with fail
          go_quiet (fail)
          go_wp2
          go_ret
          exact ⟨by rw [HX.out]; rfl, same_drewN BW.out nq⟩
      · have k0p : 0 < k := by omega
        have k0z : decide (0 < k) = true := decide_eq_true k0p
        have k1z : ((k : Int) - 1).toNat = k - 1 := by omega
        have k2z : (0 : Int) ≤ (k : Int) - 1 := by omega
        have k3z : (k : Int) - 1 < (n : Int) := by omega
        obtain ⟨p0, p1⟩ := hat (k - 1) (by omega)
        obtain ⟨y, hX⟩ : ∃ y, y = l[k] := ⟨_, rfl⟩
        rw [← hX] at c0 c1 HI
        obtain ⟨z, hZ⟩ : ∃ z, z = l[k - 1] := ⟨_, rfl⟩
        rw [← hZ] at p0 p1 HI
        clear hX hZ hat
        by_cases ck : y.1.toNat ≤ z.1.toNat
        · have ckz : decide (y.1.toNat ≤ z.1.toNat) = true := decide_eq_true ck
          have HX : Hid (r = 9) := HD.out.trans (Lf.enc9 fun h => by have := HI.1 (h.2.1 k); have := this.1 (by omega); omega)
          clear HNx HI
          go_wp2_with fail
          go_quiet (fail)
          go_wp2
          go_ret
          exact ⟨by rw [HX.out]; rfl, same_drewN BW.out nq⟩
        · have ckz : decide (y.1.toNat ≤ z.1.toNat) = false := decide_eq_false ck
          by_cases d : y.2.toNat = 0
          · rw [d] at c1
            have HN2 : Hid _ := HNx.out (HI.2 ⟨fun _ => by omega, fun _ => by omega⟩)
            clear HNx HI d
            go_wp2_with fail
            go_quiet (fail)
            go_wp2
            go_roundw
            case rel => exact ⟨k + 1, by omega, by go_num, HN2, same_drewN bel nq⟩
            case measure => simp [intOf]; omega
          · obtain ⟨v, hv⟩ : ∃ v, v = y.2.toNat := ⟨_, rfl⟩
            rw [← hv] at c1 d HI
            have d1 : 0 < v := by omega
            have d2 : ¬ v = 0 := by omega
            have HX : Hid (r = 9) := HD.out.trans (Lf.enc9 fun h => by have := HI.1 (h.2.1 k); exact d (this.2 (by omega)))
            clear HNx HI d hv
            go_wp2_with fail
            go_quiet (fail)
            go_wp2
            go_ret
            exact ⟨by rw [HX.out]; rfl, same_drewN BW.out nq⟩
    · obtain rfl : n = k := by omega
      have HAll : Hid (∀ j, Lf.ItemOk (l, ks) j) := fun j h => if hj : j < n then HS.out j hj h else absurd h (by have := HN.out; show ¬ j < l.length; omega)
      clear HS
      go_wp2
      go_loopw [4] (fun i wr => ∃ k : Nat, k ≤ n' ∧ i = .int .i64 k ∧ Hid (∀ j, j < k → Lf.KidOk (l, ks) j) ∧ Below w0.heap.size w0 wr) (fun i _ => n' - (intOf i).toNat)
      case atStart => exact ⟨0, Nat.zero_le _, rfl, fun j h => absurd h (Nat.not_lt_zero _), bel⟩
      case round =>
       clear r0 r1 bel BW
       obtain ⟨k, hk, rfl, HS, bel⟩ := hrel
       have BW : Hid _ := on B0.out bel
       obtain ⟨r0, r1⟩ := (HV0.out.below bel).two
       by_cases hlt : k < n'
       · have hkl : k < ks.length := by rw [HN'.out]; exact hlt
         obtain ⟨g, off, rfl, -, -, hat⟩ := rKids_at (Rep.below HK.out BW.out) (by omega)
         obtain ⟨c0, lo, hi⟩ := hat k hkl
         have HI := HKd.out k hkl
         have HNx : Hid (Lf.KidOk (l, ks) k → ∀ j, j < k + 1 → Lf.KidOk (l, ks) j) := fun e j hj => if h : j = k then h ▸ e else HS.out j (by omega)
         have hkz : (k : Int) < (n' : Int) := by omega
         obtain ⟨X, hX⟩ : ∃ X, X = ks[k] := ⟨_, rfl⟩
         have HXk : Hid _ := hX
         rw [← hX] at c0 lo hi HI
         clear hX hat
         by_cases x1 : X < 1
         · have HX : Hid (r = 9) := HD.out.trans (Lf.enc9 fun h => by have := HI.1 (h.2.2 k); omega)
           clear HNx HI
           go_wp2
           go_ret
           exact ⟨by rw [HX.out]; rfl, BW.out⟩
         · by_cases x2 : X > 2048
           · have HX : Hid (r = 9) := HD.out.trans (Lf.enc9 fun h => by have := HI.1 (h.2.2 k); omega)
             clear HNx HI
             go_wp2
             go_ret
             exact ⟨by rw [HX.out]; rfl, BW.out⟩
           · have HI2 : Hid ((∀ (i : Nat) (hi : i < k), ks[i] ≠ X) ↔ Lf.KidOk (l, ks) k) := ⟨fun e => HI.2 ⟨⟨by omega, by omega⟩, e⟩, fun e => (HI.1 e).2⟩
             clear HI
             go_wp2
             go_loopw [5] (fun i wr => ∃ m : Nat, m ≤ k ∧ i = .int .i64 m ∧ Hid (∀ (j : Nat) (hj : j < k), j < m → ks[j] ≠ X) ∧ Below w0.heap.size w0 wr) (fun i _ => k - (intOf i).toNat)
             case atStart => exact ⟨0, Nat.zero_le _, rfl, fun j _ h => absurd h (Nat.not_lt_zero _), bel⟩
             case round =>
              clear r0 r1 bel BW c0
              obtain ⟨m, hm, rfl, HT, bel⟩ := hrel
              have BW : Hid _ := on B0.out bel
              obtain ⟨r0, r1⟩ := (HV0.out.below bel).two
              by_cases hmk : m < k
              · obtain ⟨g2, off2, e2, -, -, hat⟩ := rKids_at (Rep.below HK.out BW.out) (by omega)
                obtain ⟨rfl, rfl⟩ : g = g2 ∧ off = off2 := by simpa using e2
                clear e2
                have c0 := (hat k hkl).1
                rw [← HXk.out] at c0
                have c1 := (hat m (by omega)).1
                have HT1 : Hid (ks[m] ≠ X → ∀ (j : Nat) (hj : j < k), j < m + 1 → ks[j] ≠ X) := fun e j hj h => if h2 : j = m then by subst h2; exact e else HT.out j hj (by omega)
                have HT2 : Hid (Lf.KidOk (l, ks) k → ks[m] ≠ X) := fun e => HI2.out.2 e m hmk
                obtain ⟨Y, hY⟩ : ∃ Y, Y = ks[m] := ⟨_, rfl⟩
                rw [← hY] at c1 HT1 HT2
                clear hY hat
                have hmz : (m : Int) < (k : Int) := by omega
                have hmz2 : (m : Int) < (n' : Int) := by omega
                by_cases he : Y = X
                · have HX : Hid (r = 9) := HD.out.trans (Lf.enc9 fun h => HT2.out (h.2.2 k) he)
                  have heb : (Y == X) = true := beq_iff_eq.2 he
                  clear he HT1 HT2
                  go_wp2_with fail
                  go_quiet (fail)
                  go_wp2
                  go_ret
                  exact ⟨by rw [HX.out]; rfl, same_drewN BW.out nq⟩
                · have HN2 : Hid _ := HT1.out he
                  have heb : (Y == X) = false := beq_eq_false_iff_ne.2 he
                  clear he HT1 HT2
                  go_wp2_with fail
                  go_quiet (fail)
                  go_wp2
                  go_roundw
                  case rel => exact ⟨m + 1, by omega, by go_num, HN2, same_drewN bel nq⟩
                  case measure => simp [intOf]; omega
              · obtain rfl : k = m := by omega
                have HN2 : Hid _ := HNx.out (HI2.out.1 fun i hi => HT.out i hi hi)
                clear HNx HI2 HT
                go_wp2
                go_roundw
                case rel => exact ⟨k + 1, by omega, by go_num, HN2, bel⟩
                case measure => simp [intOf]; omega
       · obtain rfl : n' = k := by omega
         have HX : Hid (r = 0) := HD.out.trans (Lf.enc0 ⟨HLn.out, HAll.out, fun j h => if hj : j < n' then HS.out j hj h else absurd h (by have := HN'.out; show ¬ j < ks.length; omega)⟩)
         go_wp2
         go_ret
         exact ⟨by rw [HX.out]; rfl, BW.out⟩
theorem and_one (y : Nat) (h : y < 4294967296) : bits BinOp.and IntKind.u32 (y : Int) 1 = ((y % 2 : Nat) : Int) := by
 have := u32_and_nat y 1 h (by decide)
 rw [Nat.and_one_is_mod] at this
 simpa using this
theorem odd_bit (y : Nat) (h : y < 4294967296) (ho : y % 2 = 1) : (bits BinOp.and IntKind.u32 (y : Int) 1 == 1) = true := by
 rw [and_one y h, ho]; rfl
theorem even_bit (y : Nat) (h : y < 4294967296) (ho : ¬ y % 2 = 1) : (bits BinOp.and IntKind.u32 (y : Int) 1 == 1) = false := by
 rw [and_one y h, show y % 2 = 0 from by omega]; rfl
theorem not_bits (r : Nat) (h : r < 4294967296) : bits BinOp.xor IntKind.u32 IntKind.u32.max (r : Int) = ((4294967295 - r : Nat) : Int) := by
 have h1 := u32_xor_nat 4294967295 r (by decide) h
 rw [Crc.flip_xor h, Nat.xor_comm, ← h1]
 rfl
set_option maxHeartbeats 800000 in
theorem refRun_u (w : World) (c0 : Nat) (C : Int) (hC : C = (c0 : Int)) (hc0 : c0 < 4294967296) (a : Option Addr) (n cap : Nat) (l : List UInt8) (hn : n ≤ maxLen) (hB : IsB w a n l) :
 Calls Tryz.prog 143 #[.int .u32 C, .slice a n cap] w fun e w' => e = .returned (.int .u32 (Crc.run c0 l : Nat)) ∧ w = w' := by
 subst hC
 have hl := hB.1
 unfold maxLen at hn
 have HR0 : Hid (c0 = Crc.run c0 (l.take 0)) := by unfold Hid; rw [List.take_zero, Crc.run_nil]
 go_enter Tryz.func143, Tryz.ntmps143
 go_wp2
 go_loop [0, 5] (fun v i => ∃ (k r : Nat), k ≤ n ∧ i = .int .i64 k ∧ v = .int .u32 r ∧ r < 4294967296 ∧ Hid (r = Crc.run c0 (l.take k)))
  (fun _ i => n - (intOf i).toNat)
 case atStart => exact ⟨0, c0, Nat.zero_le _, rfl, rfl, hc0, HR0⟩
 case round =>
  obtain ⟨k, r, hk, rfl, rfl, hr, HR⟩ := hrel
  by_cases hlt : k < n
  · obtain ⟨b, off, rfl, hcell⟩ := hB.place (by omega)
    have d1 := hcell k (by omega)
    have hx : (l[k]'(by omega)).toNat < 256 := by have := (l[k]'(by omega)).toNat_lt; simpa using this
    have hnext : Crc.run c0 (l.take (k + 1)) = Crc.steps 8 (Crc.run c0 (l.take k) ^^^ (l[k]'(by omega)).toNat) := by
     rw [List.take_succ_eq_append_getElem (by omega), Crc.run_append, Crc.run_cons, Crc.run_nil]
    rw [← HR.out] at hnext
    generalize (l[k]'(by omega)).toNat = x at *
    have HN : Hid _ := hnext
    clear hnext hcell
    have hw8 : IntKind.u32.wrap (x : Int) = (x : Int) := by simp [IntKind.wrap, IntKind.bits, IntKind.signed]; omega
    have hxor := u32_xor_nat r x hr (by omega)
    have hlt0 := Crc.xor_lt hr (show x < 4294967296 by omega)
    generalize r ^^^ x = y0 at *
    have HS0 : Hid (y0 = Crc.steps 0 y0) := by unfold Hid; simp only [Crc.steps]
    go_wp2
    clear hxor hw8 hr HR d1
    go_loop [0, 6] (fun v i => ∃ (j y : Nat), j ≤ 8 ∧ i = .int .i64 j ∧ v = .int .u32 y ∧ y < 4294967296 ∧ Hid (y = Crc.steps j y0))
     (fun _ i => 8 - (intOf i).toNat)
    case atStart => exact ⟨0, y0, Nat.zero_le _, rfl, rfl, hlt0, HS0⟩
    case round =>
     obtain ⟨j, y, hj, rfl, rfl, hy, HY⟩ := hrel
     by_cases hj8 : j < 8
     · have hstep : Crc.steps (j + 1) y0 = Crc.step y := by
        have h1 := HY.out
        rw [Crc.steps_add, ← h1]
        simp only [Crc.steps]
       have hylt := Crc.step_lt hy
       have HST : Hid _ := hstep
       clear hstep
       by_cases ho : y % 2 = 1
       · have hob := odd_bit y hy ho
         have hxy : bits BinOp.xor IntKind.u32 ((y : Int) / 2) 2197175160 = ((Crc.step y : Nat) : Int) := by
          have h1 := u32_xor_nat (y / 2) 2197175160 (by omega) (by decide)
          have h2 : Crc.step y = (y / 2) ^^^ 2197175160 := by unfold Crc.step; rw [if_pos ho]
          rw [h2]
          simpa using h1
         have HXY : Hid _ := hxy
         clear hxy ho
         go_wp2
         go_round
         case rel => exact ⟨j + 1, Crc.step y, by omega, by go_num, by rw [HXY.out], hylt, HST.out.symm⟩
         case measure => simp [intOf]; omega
       · have hob := even_bit y hy ho
         have hst : Crc.step y = y / 2 := by unfold Crc.step; rw [if_neg ho]
         have HSY : Hid _ := hst
         clear hst ho
         go_wp2
         go_round
         case rel => exact ⟨j + 1, y / 2, by omega, by go_num, by go_num, by omega, by unfold Hid; rw [HST.out, HSY.out]⟩
         case measure => simp [intOf]; omega
     · have e : j = 8 := by omega
       subst e
       go_wp2
       go_round
       case rel => exact ⟨k + 1, y, by omega, by go_num, rfl, hy, by unfold Hid; rw [HN.out]; exact HY.out⟩
       case measure => simp [intOf]; omega
  · have e : k = n := by omega
    subst e
    go_wp2
    go_ret
    have h1 := HR.out
    rw [List.take_of_length_le (by omega)] at h1
    exact ⟨by rw [← h1]; rfl, rfl⟩
set_option maxHeartbeats 400000 in
theorem refSum_u (w : World) (a : Option Addr) (n cap : Nat) (l : List UInt8) (hn : n ≤ maxLen) (hB : IsB w a n l) :
 Calls Tryz.prog 135 #[.slice a n cap] w fun e w' => e = .returned (.int .u32 (Crc.sum l : Nat)) ∧ w = w' := by
 have hlt := Crc.run_lt l (show 4294967295 < 4294967296 by decide)
 have hs : Crc.sum l = 4294967295 - Crc.run 4294967295 l := by unfold Crc.sum; rfl
 have HS : Hid _ := hs
 clear hs
 go_enter Tryz.func135, Tryz.ntmps135
 go_wp2_with fail
 refine (refRun_u w 4294967295 _ rfl (by decide) a n cap l hn hB).mono ?_
 rintro e w1 ⟨rfl, rfl⟩
 generalize Crc.run 4294967295 l = r at *
 have hnot := not_bits r hlt
 rw [← HS.out] at hnot
 go_wp2
 go_ret
 exact ⟨rfl, rfl⟩
set_option maxHeartbeats 400000 in
theorem copied_u (w : World) (a : Option Addr) (n c : Nat) (l : List UInt8) (hn : n ≤ 140737488355328) (hc : a = none → c = 0) (hB : IsB w a n l) :
 Calls Tryz.prog 27 #[.slice a n c] w fun e w' => ∃ b d, e = .returned (.slice b n d) ∧
  w'.ownsRow w.heap.size 5 1 (.slice b n d) n (cellsOf l) ∧ Below w.heap.size w w' := by
 obtain ⟨i0, hi, hz0, hz1, hz2⟩ := info_parts info_u8
 have hl := hB.1
 cases a with
 | none =>
   have hn0 := hB.2.1 rfl
   have hc0 := hc rfl
   subst hn0
   subst hc0
   have : l = [] := List.length_eq_zero_iff.1 hl
   subst this
   go_enter Tryz.func27, Tryz.ntmps27
   go_wp2_with (at_builtin; refine wpList_append_own_none rfl _ _ 53 rfl w.heap.size 5 i0 1 Tryz.underlying53 hi _ 0 [] rfl (World.ownsRow_nil w _ _ _) rfl ?_)
   go_ret
   exact ⟨none, 0, rfl, own_nil _ _, Below.refl _ _⟩
 | some x =>
   go_enter Tryz.func27, Tryz.ntmps27
   go_wp2_with (at_builtin; refine wpList_append_own _ rfl _ _ 53 rfl w.heap.size 5 i0 (.int .u8 0) 1 1 Tryz.underlying53 hi hz0 hz1 hz2 rfl (by decide) _ 0 [] rfl (World.ownsRow_nil w _ _ _) x n c (cellsOf l) rfl (by simp [cellsOf, hl]) (isB_cells hB) (cellsOf_oneCell l) (by unfold maxLen; omega) (by omega) (Nat.le_refl _) ?_)
   intro v' w1 hown hgrow _
   try simp only [Nat.zero_add, List.nil_append] at hown
   obtain ⟨b, d, rfl, -⟩ := owns_slice hown
   go_wp2
   go_ret
   exact ⟨b, d, rfl, hown, (Below.refl _ _).grown hgrow (Nat.le_refl _) (fun k h => by cases h)⟩
theorem isB_le4 (w : World) (c : Nat) (hc : c < 4294967296) : IsB (w.alloc (.cells #[.int .u8 ((c : Int) % 256), .int .u8 ((c : Int) / 256 % 256), .int .u8 ((c : Int) / 65536 % 256), .int .u8 ((c : Int) / 16777216)] 5)) (some ⟨w.heap.size, 0, none⟩) 4 (Crc.le4 c) := by
 refine ⟨rfl, fun (e : some _ = none) => (by cases e), fun x hx j hj => ?_⟩
 simp only [Option.some.injEq] at hx
 subst hx
 rw [Addr.add_lit, Nat.zero_add]
 match j, hj with
 | 0, _ => simp [Crc.le4]
 | 1, _ => simp [Crc.le4]
 | 2, _ => simp [Crc.le4]
 | 3, _ => simp [Crc.le4]; omega
set_option maxHeartbeats 400000 in
theorem refSeal_u (w : World) (a : Option Addr) (n cap : Nat) (l : List UInt8) (hn : n ≤ 140737488351232) (hnil : a = none → cap = 0) (hB : IsB w a n l) :
 Calls Tryz.prog 118 #[.slice a n cap] w fun e w' => ∃ b d, e = .returned (.slice b (n + 4) d) ∧
  w'.ownsRow w.heap.size 5 1 (.slice b (n + 4) d) (n + 4) (cellsOf (Crc.sealed l)) ∧ Below w.heap.size w w' := by
 have hs := Crc.sum_lt l
 have HL : Hid (Crc.sealed l = l ++ Crc.le4 (Crc.sum l)) := by unfold Hid Crc.sealed; rfl
 go_enter Tryz.func118, Tryz.ntmps118
 go_wp2_with fail
 refine (refSum_u w a n cap l (by unfold maxLen; omega) hB).mono ?_
 rintro e w1 ⟨rfl, rfl⟩
 generalize Crc.sum l = c at *
 go_wp2_with fail
 refine (copied_u w a n cap l (by omega) hnil hB).mono ?_
 rintro e w1 ⟨b, d, rfl, ho, b1⟩
 have h4 := isB_le4 w1 c hs
 have hz := b1.size
 go_wp2_with (at_builtin; refine append_two rfl _ _ rfl w.heap.size _ n l rfl (ho.alloc _) _ 4 4 _ rfl h4 (fun e => by cases e) (by omega) (by simp; omega) ?_)
 intro b2 d2 w2 ho2 hg2
 rw [← HL.out] at ho2
 have c2 : Below w.heap.size w w2 := (b1.alloc hz _).grown hg2 (by simp; omega) (own_base ho)
 clear ho hg2 b1 h4
 go_wp2
 go_ret
 exact ⟨b2, d2, rfl, ho2, c2⟩
theorem refOpen_short (w : World) (a : Option Addr) (n cap : Nat) (h : n < 4) :
 Calls Tryz.prog 97 #[.slice a n cap] w fun e w' => e = .returned (.tuple #[.slice none 0 0, .int .i64 8]) ∧ w = w' := by
 go_enter Tryz.func97, Tryz.ntmps97
 go_wp2
 go_ret2
 exact ⟨rfl, rfl⟩
set_option maxRecDepth 20000 in
set_option maxHeartbeats 800000 in
theorem refOpen_in (w : World) (a : Option Addr) (n cap : Nat) (l : List UInt8) (h4 : 4 ≤ n) (hn : n ≤ 140737488351232) (hcap : n ≤ cap) (hB : IsB w a n l) :
 Calls Tryz.prog 97 #[.slice a n cap] w fun e w' => ∃ b len d, e = .returned (.tuple #[.slice b len d, .int .i64 (Crc.openE l)]) ∧
  w'.ownsRow w.heap.size 5 1 (.slice b len d) len (cellsOf (Crc.openL l)) ∧ Below w.heap.size w w' := by
 have hl : l.length = n := hB.1
 have hcs := Crc.openE_cases l
 rw [hl] at hcs
 have HCS : Hid _ := hcs
 obtain ⟨b, off, rfl, -⟩ := hB.place (by omega)
 have hH := hB.head (n - 4) (by omega) (by omega)
 have hneg : ¬ ((n : Int) - 4 < 0) := by omega
 clear hcs
 go_enter Tryz.func97, Tryz.ntmps97
 go_upto_region 4 with fail
 go_cut [11] (fun t wx => t = .bool (Crc.sealed (l.take (n - 4)) != l) ∧ Below w.heap.size w wx)
 case first =>
  have hH2 : IsB w.drew (some ⟨b, off, none⟩) (n - 4) (l.take (n - 4)) := hH
  have hB2 : IsB w.drew (some ⟨b, off, none⟩) n l := hB
  have e0 := conv_bytes w.drew _ n cap l hB2
  go_region_with (go_at_call 118; refine (refSeal_u w.drew _ (n - 4) cap (l.take (n - 4)) (by omega) (fun e => by cases e) hH2).mono ?_; rintro e w1 ⟨b1, d1, rfl, ho1, bb1⟩; have e1 := conv_bytes w1 _ _ d1 _ (owns_isB ho1).1; rw [Nat.sub_add_cancel h4] at e1; have e2 := conv_bytes w1 _ n cap l (hB2.below bb1))
  all_goals (try go_wp2_with fail)
  all_goals go_meet
  all_goals refine ⟨?_, ⟨bb1.os, bb1.tape, bb1.output, bb1.size, bb1.block⟩⟩
  all_goals rfl
 case rest =>
  obtain ⟨rfl, hb⟩ := hcut
  rcases HCS.out with ⟨g, _⟩ | ⟨_, g, e1, e2⟩ | ⟨_, g, e1, e2⟩
  · omega
  · have hne : (Crc.sealed (l.take (n - 4)) != l) = false := by rw [g]; exact bne_self_eq_false _
    have E1 : Hid _ := e1
    have E2 : Hid _ := e2
    rw [hne]
    clear e1 e2 g hne
    have hHc := hH.below hb
    have hsz := hb.size
    go_wp2_with (go_at_call 27; refine (copied_u _ _ (n - 4) cap _ (by omega) (fun e => by cases e) hHc).mono ?_; rintro e w3 ⟨b3, d3, rfl, ho3, bb3⟩)
    go_ret2
    exact ⟨b3, n - 4, d3, by rw [E1.out]; rfl, by rw [E2.out]; exact owns_mono ho3 hsz, on hb bb3⟩
  · have hne : (Crc.sealed (l.take (n - 4)) != l) = true := bne_iff_ne.2 g
    have E1 : Hid _ := e1
    have E2 : Hid _ := e2
    rw [hne]
    clear e1 e2 g hne
    go_wp2
    go_ret2
    exact ⟨none, 0, 0, by rw [E1.out]; rfl, by rw [E2.out]; exact own_nil _ _, hb⟩
theorem refOpen_u (w : World) (a : Option Addr) (n cap : Nat) (l : List UInt8) (hn : n ≤ 140737488351232) (hcap : n ≤ cap) (hB : IsB w a n l) :
 Calls Tryz.prog 97 #[.slice a n cap] w fun e w' => ∃ b len d, e = .returned (.tuple #[.slice b len d, .int .i64 (Crc.openE l)]) ∧
  w'.ownsRow w.heap.size 5 1 (.slice b len d) len (cellsOf (Crc.openL l)) ∧ Below w.heap.size w w' := by
 by_cases h : n < 4
 · have hl : l.length = n := hB.1
   rcases Crc.openE_cases l with ⟨_, e1, e2⟩ | ⟨g, _⟩ | ⟨g, _⟩
   · rw [e1, e2]
     refine (refOpen_short w a n cap h).mono ?_
     rintro e w' ⟨rfl, rfl⟩
     exact ⟨none, 0, 0, rfl, own_nil _ _, Below.refl _ _⟩
   · omega
   · omega
 · exact refOpen_in w a n cap l (by omega) hn hcap hB
end Go.Proofs.YtkbmadoaomoojaaGreat
