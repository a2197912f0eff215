/-
  The document's own Check. Conditions: those that each contract names.
-/
import Derived.Test.YtbglgplfjhiafaaIFun
import Derived.Test.YtbglgplfjhiafaaLfChk
namespace Go.Proofs.Ytbglgplfjhiafaa
open Go.RowKit
set_option linter.unusedVariables false

set_option maxRecDepth 20000 in
set_option maxHeartbeats 4000000 in
theorem refCheck_u (w : World) (P P' : Nat → Prop) (a a' : Option Addr) (n c n' c' : Nat) (l : List Itm) (ks : List Int) (hL : rItms.rd w P [.slice a n c] l) (hK : rKids.rd w P' [.slice a' n' c'] ks) :
    Calls Try.prog 21 #[.agg #[.slice a n c, .slice a' n' c']] w fun e w' => e = .returned (.int .i64 (Lf.encodeE (l, ks))) ∧ Below w.heap.size w w' := by
  have HR : Hid _ := hL
  have HK : Hid _ := hK
  have HN : Hid (l.length = n) := (rList_len hL).1
  have HN' : Hid (ks.length = n') := (rList_len hK).1
  have hn0 : n ≤ 8796093022000 := by have : n * 16 ≤ 140737488351232 := (rList_len hL).2.2.2; omega
  have hn1 : n' ≤ 17592186044000 := by have : n' * 8 ≤ 140737488351232 := (rList_len hK).2.2.2; omega
  have HLen : Hid (Lf.LenOk (l, ks) ↔ 1 ≤ n ∧ n ≤ 3 ∧ (n' = 0 ∨ n' = n + 1)) := by unfold Hid Lf.LenOk; simp only [HN.out, HN'.out]
  obtain ⟨r, hr⟩ : ∃ r, r = Lf.encodeE (l, ks) := ⟨_, rfl⟩
  rw [← hr]
  have HD : Hid _ := hr
  clear hr
  obtain ⟨w0, hw0, V0, b0, z0⟩ := boxedRow w 25 [.slice a n c, .slice a' n' c']
  have HV0 : Hid (Row w0 w.heap.size 25 [.slice a n c, .slice a' n' c']) := V0
  have B0 : Hid (Below w.heap.size w w0) := b0
  clear hL hK V0 b0 z0
  go_enter Try.func21, Try.ntmps21
  obtain ⟨r0, r1⟩ := HV0.out.two
  by_cases g1 : n < 1
  · have HX : Hid (r = 9) := HD.out.trans (Lf.enc9 fun h => by have := HLen.out.1 h.1; omega)
    have g1z : (n : Int) < 1 := by omega
    go_wp2
    go_ret
    exact ⟨by rw [HX.out]; rfl, B0.out⟩
  by_cases g2 : n > 3
  · have HX : Hid (r = 9) := HD.out.trans (Lf.enc9 fun h => by have := HLen.out.1 h.1; omega)
    have g1z : ¬ (n : Int) < 1 := by omega
    have g2z : (n : Int) > 3 := by omega
    go_wp2
    go_ret
    exact ⟨by rw [HX.out]; rfl, B0.out⟩
  by_cases g3 : n' > 0 ∧ n' ≠ n + 1
  · have HX : Hid (r = 9) := HD.out.trans (Lf.enc9 fun h => by have := HLen.out.1 h.1; omega)
    have g1z : ¬ (n : Int) < 1 := by omega
    have g2z : ¬ (n : Int) > 3 := by omega
    have g3z : (n' : Int) > 0 := by omega
    have g4z : (n' : Int) ≠ (n : Int) + 1 := by omega
    go_wp2
    go_ret
    exact ⟨by rw [HX.out]; rfl, B0.out⟩
  have g1z : ¬ (n : Int) < 1 := by omega
  have g2z : ¬ (n : Int) > 3 := by omega
  have HLn : Hid (Lf.LenOk (l, ks)) := HLen.out.2 (by omega)
  have HIt : Hid (∀ (k : Nat) (h : k < l.length), Lf.ItemOk (l, ks) k ↔ (0 < k → l[k - 1].1.toNat < l[k].1.toNat) ∧ (0 < n' → l[k].2.toNat = 0)) := by
    intro k h
    rw [← HN'.out]
    exact ⟨fun e => e h, fun e _ => e⟩
  have HKd : Hid (∀ (k : Nat) (h : k < ks.length), Lf.KidOk (l, ks) k ↔ (1 ≤ ks[k] ∧ ks[k] ≤ 2048) ∧ ∀ (i : Nat) (hi : i < k), ks[i] ≠ ks[k]) := fun k h => ⟨fun e => e h, fun e _ => e⟩
  have HItn : True := trivial
  by_cases hn' : n' = 0
  · have g3z : ¬ (n' : Int) > 0 := by omega
    have g3d : decide ((n' : Int) > 0) = false := decide_eq_false g3z
    clear hn'
    go_wp2
    go_loopw [3] (fun i wr => ∃ k : Nat, k ≤ n ∧ i = .int .i64 k ∧ Hid (∀ j, j < k → Lf.ItemOk (l, ks) j) ∧ Below w0.heap.size w0 wr) (fun i _ => n - (intOf i).toNat)
    case atStart => exact ⟨0, Nat.zero_le _, rfl, fun j h => absurd h (Nat.not_lt_zero _), Below.refl _ _⟩
    case round =>
      obtain ⟨k, hk, rfl, HS, bel⟩ := hrel
      have BW : Hid (Below w.heap.size w wr) := on B0.out bel
      obtain ⟨r0, r1⟩ := (HV0.out.below bel).two
      by_cases hlt : k < n
      · have hkl : k < l.length := by rw [HN.out]; exact hlt
        obtain ⟨g, off, rfl, -, -, hat⟩ := rItms_at (Rep.below HR.out BW.out) (by omega)
        obtain ⟨c0, c1⟩ := hat k hkl
        have HI := HIt.out k hkl
        have HNx : Hid (Lf.ItemOk (l, ks) k → ∀ j, j < k + 1 → Lf.ItemOk (l, ks) j) := fun e j hj => if h : j = k then h ▸ e else HS.out j (by omega)
        have hkz : (k : Int) < (n : Int) := by omega
        by_cases k0 : k = 0
        · have k0n : ¬ 0 < k := by omega
          have k0z : decide (0 < k) = false := decide_eq_false k0n
          clear k0
          obtain ⟨y, hX⟩ : ∃ y, y = l[k] := ⟨_, rfl⟩
          rw [← hX] at c0 c1 HI
          clear hX hat
          have HN2 : Hid _ := HNx.out (HI.2 ⟨fun _ => by omega, fun _ => by omega⟩)
          clear HNx HI
          go_wp2_with fail
          go_quiet (fail)
          go_wp2
          go_roundw
          case rel => exact ⟨k + 1, by omega, by go_num, HN2, same_drewN bel nq⟩
          case measure => simp [intOf]; omega
        · have k0p : 0 < k := by omega
          have k0z : decide (0 < k) = true := decide_eq_true k0p
          have k1z : ((k : Int) - 1).toNat = k - 1 := by omega
          have k2z : (0 : Int) ≤ (k : Int) - 1 := by omega
          have k3z : (k : Int) - 1 < (n : Int) := by omega
          obtain ⟨p0, p1⟩ := hat (k - 1) (by omega)
          obtain ⟨y, hX⟩ : ∃ y, y = l[k] := ⟨_, rfl⟩
          rw [← hX] at c0 c1 HI
          obtain ⟨z, hZ⟩ : ∃ z, z = l[k - 1] := ⟨_, rfl⟩
          rw [← hZ] at p0 p1 HI
          clear hX hZ hat
          by_cases ck : y.1.toNat ≤ z.1.toNat
          · have ckz : decide (y.1.toNat ≤ z.1.toNat) = true := decide_eq_true ck
            have HX : Hid (r = 9) := HD.out.trans (Lf.enc9 fun h => by have := HI.1 (h.2.1 k); have := this.1 (by omega); omega)
            clear HNx HI
            go_wp2_with fail
            go_quiet (fail)
            go_wp2
            go_ret
            exact ⟨by rw [HX.out]; rfl, same_drewN BW.out nq⟩
          · have ckz : decide (y.1.toNat ≤ z.1.toNat) = false := decide_eq_false ck
            have HN2 : Hid _ := HNx.out (HI.2 ⟨fun _ => by omega, fun _ => by omega⟩)
            clear HNx HI
            go_wp2_with fail
            go_quiet (fail)
            go_wp2
            go_roundw
            case rel => exact ⟨k + 1, by omega, by go_num, HN2, same_drewN bel nq⟩
            case measure => simp [intOf]; omega
      · obtain rfl : n = k := by omega
        have HAll : Hid (∀ j, Lf.ItemOk (l, ks) j) := fun j h => if hj : j < n then HS.out j hj h else absurd h (by have := HN.out; show ¬ j < l.length; omega)
        clear HS
        go_wp2
        go_loopw [4] (fun i wr => ∃ k : Nat, k ≤ n' ∧ i = .int .i64 k ∧ Hid (∀ j, j < k → Lf.KidOk (l, ks) j) ∧ Below w0.heap.size w0 wr) (fun i _ => n' - (intOf i).toNat)
        case atStart => exact ⟨0, Nat.zero_le _, rfl, fun j h => absurd h (Nat.not_lt_zero _), bel⟩
        case round =>
          clear r0 r1 bel BW
          obtain ⟨k, hk, rfl, HS, bel⟩ := hrel
          have BW : Hid (Below w.heap.size w wr) := on B0.out bel
          obtain ⟨r0, r1⟩ := (HV0.out.below bel).two
          by_cases hlt : k < n'
          · exfalso; omega
          · obtain rfl : n' = k := by omega
            have HX : Hid (r = 0) := HD.out.trans (Lf.enc0 ⟨HLn.out, HAll.out, fun j h => if hj : j < n' then HS.out j hj h else absurd h (by have := HN'.out; show ¬ j < ks.length; omega)⟩)
            go_wp2
            go_ret
            exact ⟨by rw [HX.out]; rfl, BW.out⟩
  · have g3z : (n' : Int) > 0 := by omega
    have g3d : decide ((n' : Int) > 0) = true := decide_eq_true g3z
    have g4z : ((n' : Int) == (n : Int) + 1) = true := beq_iff_eq.2 (by omega)
    have g5z : decide (0 < n') = true := decide_eq_true (by omega)
    clear hn' g3
    go_wp2
    go_loopw [3] (fun i wr => ∃ k : Nat, k ≤ n ∧ i = .int .i64 k ∧ Hid (∀ j, j < k → Lf.ItemOk (l, ks) j) ∧ Below w0.heap.size w0 wr) (fun i _ => n - (intOf i).toNat)
    case atStart => exact ⟨0, Nat.zero_le _, rfl, fun j h => absurd h (Nat.not_lt_zero _), Below.refl _ _⟩
    case round =>
      obtain ⟨k, hk, rfl, HS, bel⟩ := hrel
      have BW : Hid (Below w.heap.size w wr) := on B0.out bel
      obtain ⟨r0, r1⟩ := (HV0.out.below bel).two
      by_cases hlt : k < n
      · have hkl : k < l.length := by rw [HN.out]; exact hlt
        obtain ⟨g, off, rfl, -, -, hat⟩ := rItms_at (Rep.below HR.out BW.out) (by omega)
        obtain ⟨c0, c1⟩ := hat k hkl
        have HI := HIt.out k hkl
        have HNx : Hid (Lf.ItemOk (l, ks) k → ∀ j, j < k + 1 → Lf.ItemOk (l, ks) j) := fun e j hj => if h : j = k then h ▸ e else HS.out j (by omega)
        have hkz : (k : Int) < (n : Int) := by omega
        by_cases k0 : k = 0
        · have k0n : ¬ 0 < k := by omega
          have k0z : decide (0 < k) = false := decide_eq_false k0n
          clear k0
          obtain ⟨y, hX⟩ : ∃ y, y = l[k] := ⟨_, rfl⟩
          rw [← hX] at c0 c1 HI
          clear hX hat
          by_cases d : y.2.toNat = 0
          · rw [d] at c1
            have HN2 : Hid _ := HNx.out (HI.2 ⟨fun _ => by omega, fun _ => by omega⟩)
            clear HNx HI d
            go_wp2_with fail
            go_quiet (fail)
            go_wp2
            go_roundw
            case rel => exact ⟨k + 1, by omega, by go_num, HN2, same_drewN bel nq⟩
            case measure => simp [intOf]; omega
          · obtain ⟨v, hv⟩ : ∃ v, v = y.2.toNat := ⟨_, rfl⟩
            rw [← hv] at c1 d HI
            have d1 : 0 < v := by omega
            have d2 : ¬ v = 0 := by omega
            have HX : Hid (r = 9) := HD.out.trans (Lf.enc9 fun h => by have := HI.1 (h.2.1 k); exact d (this.2 (by omega)))
            clear HNx HI d hv
            go_wp2_with fail
            go_quiet (fail)
            go_wp2
            go_ret
            exact ⟨by rw [HX.out]; rfl, same_drewN BW.out nq⟩
        · have k0p : 0 < k := by omega
          have k0z : decide (0 < k) = true := decide_eq_true k0p
          have k1z : ((k : Int) - 1).toNat = k - 1 := by omega
          have k2z : (0 : Int) ≤ (k : Int) - 1 := by omega
          have k3z : (k : Int) - 1 < (n : Int) := by omega
          obtain ⟨p0, p1⟩ := hat (k - 1) (by omega)
          obtain ⟨y, hX⟩ : ∃ y, y = l[k] := ⟨_, rfl⟩
          rw [← hX] at c0 c1 HI
          obtain ⟨z, hZ⟩ : ∃ z, z = l[k - 1] := ⟨_, rfl⟩
          rw [← hZ] at p0 p1 HI
          clear hX hZ hat
          by_cases ck : y.1.toNat ≤ z.1.toNat
          · have ckz : decide (y.1.toNat ≤ z.1.toNat) = true := decide_eq_true ck
            have HX : Hid (r = 9) := HD.out.trans (Lf.enc9 fun h => by have := HI.1 (h.2.1 k); have := this.1 (by omega); omega)
            clear HNx HI
            go_wp2_with fail
            go_quiet (fail)
            go_wp2
            go_ret
            exact ⟨by rw [HX.out]; rfl, same_drewN BW.out nq⟩
          · have ckz : decide (y.1.toNat ≤ z.1.toNat) = false := decide_eq_false ck
            by_cases d : y.2.toNat = 0
            · rw [d] at c1
              have HN2 : Hid _ := HNx.out (HI.2 ⟨fun _ => by omega, fun _ => by omega⟩)
              clear HNx HI d
              go_wp2_with fail
              go_quiet (fail)
              go_wp2
              go_roundw
              case rel => exact ⟨k + 1, by omega, by go_num, HN2, same_drewN bel nq⟩
              case measure => simp [intOf]; omega
            · obtain ⟨v, hv⟩ : ∃ v, v = y.2.toNat := ⟨_, rfl⟩
              rw [← hv] at c1 d HI
              have d1 : 0 < v := by omega
              have d2 : ¬ v = 0 := by omega
              have HX : Hid (r = 9) := HD.out.trans (Lf.enc9 fun h => by have := HI.1 (h.2.1 k); exact d (this.2 (by omega)))
              clear HNx HI d hv
              go_wp2_with fail
              go_quiet (fail)
              go_wp2
              go_ret
              exact ⟨by rw [HX.out]; rfl, same_drewN BW.out nq⟩
      · obtain rfl : n = k := by omega
        have HAll : Hid (∀ j, Lf.ItemOk (l, ks) j) := fun j h => if hj : j < n then HS.out j hj h else absurd h (by have := HN.out; show ¬ j < l.length; omega)
        clear HS
        go_wp2
        go_loopw [4] (fun i wr => ∃ k : Nat, k ≤ n' ∧ i = .int .i64 k ∧ Hid (∀ j, j < k → Lf.KidOk (l, ks) j) ∧ Below w0.heap.size w0 wr) (fun i _ => n' - (intOf i).toNat)
        case atStart => exact ⟨0, Nat.zero_le _, rfl, fun j h => absurd h (Nat.not_lt_zero _), bel⟩
        case round =>
          clear r0 r1 bel BW
          obtain ⟨k, hk, rfl, HS, bel⟩ := hrel
          have BW : Hid (Below w.heap.size w wr) := on B0.out bel
          obtain ⟨r0, r1⟩ := (HV0.out.below bel).two
          by_cases hlt : k < n'
          · have hkl : k < ks.length := by rw [HN'.out]; exact hlt
            obtain ⟨g, off, rfl, -, -, hat⟩ := rKids_at (Rep.below HK.out BW.out) (by omega)
            obtain ⟨c0, lo, hi⟩ := hat k hkl
            have HI := HKd.out k hkl
            have HNx : Hid (Lf.KidOk (l, ks) k → ∀ j, j < k + 1 → Lf.KidOk (l, ks) j) := fun e j hj => if h : j = k then h ▸ e else HS.out j (by omega)
            have hkz : (k : Int) < (n' : Int) := by omega
            obtain ⟨X, hX⟩ : ∃ X, X = ks[k] := ⟨_, rfl⟩
            have HXk : Hid _ := hX
            rw [← hX] at c0 lo hi HI
            clear hX hat
            by_cases x1 : X < 1
            · have HX : Hid (r = 9) := HD.out.trans (Lf.enc9 fun h => by have := HI.1 (h.2.2 k); omega)
              clear HNx HI
              go_wp2
              go_ret
              exact ⟨by rw [HX.out]; rfl, BW.out⟩
            · by_cases x2 : X > 2048
              · have HX : Hid (r = 9) := HD.out.trans (Lf.enc9 fun h => by have := HI.1 (h.2.2 k); omega)
                clear HNx HI
                go_wp2
                go_ret
                exact ⟨by rw [HX.out]; rfl, BW.out⟩
              · have HI2 : Hid ((∀ (i : Nat) (hi : i < k), ks[i] ≠ X) ↔ Lf.KidOk (l, ks) k) := ⟨fun e => HI.2 ⟨⟨by omega, by omega⟩, e⟩, fun e => (HI.1 e).2⟩
                clear HI
                go_wp2
                go_loopw [5] (fun i wr => ∃ m : Nat, m ≤ k ∧ i = .int .i64 m ∧ Hid (∀ (j : Nat) (hj : j < k), j < m → ks[j] ≠ X) ∧ Below w0.heap.size w0 wr) (fun i _ => k - (intOf i).toNat)
                case atStart => exact ⟨0, Nat.zero_le _, rfl, fun j _ h => absurd h (Nat.not_lt_zero _), bel⟩
                case round =>
                  clear r0 r1 bel BW c0
                  obtain ⟨m, hm, rfl, HT, bel⟩ := hrel
                  have BW : Hid (Below w.heap.size w wr) := on B0.out bel
                  obtain ⟨r0, r1⟩ := (HV0.out.below bel).two
                  by_cases hmk : m < k
                  · obtain ⟨g2, off2, e2, -, -, hat⟩ := rKids_at (Rep.below HK.out BW.out) (by omega)
                    obtain ⟨rfl, rfl⟩ : g = g2 ∧ off = off2 := by simpa using e2
                    clear e2
                    have c0 := (hat k hkl).1
                    rw [← HXk.out] at c0
                    have c1 := (hat m (by omega)).1
                    have HT1 : Hid (ks[m] ≠ X → ∀ (j : Nat) (hj : j < k), j < m + 1 → ks[j] ≠ X) := fun e j hj h => if h2 : j = m then by subst h2; exact e else HT.out j hj (by omega)
                    have HT2 : Hid (Lf.KidOk (l, ks) k → ks[m] ≠ X) := fun e => HI2.out.2 e m hmk
                    obtain ⟨Y, hY⟩ : ∃ Y, Y = ks[m] := ⟨_, rfl⟩
                    rw [← hY] at c1 HT1 HT2
                    clear hY hat
                    have hmz : (m : Int) < (k : Int) := by omega
                    have hmz2 : (m : Int) < (n' : Int) := by omega
                    by_cases he : Y = X
                    · have HX : Hid (r = 9) := HD.out.trans (Lf.enc9 fun h => HT2.out (h.2.2 k) he)
                      have heb : (Y == X) = true := beq_iff_eq.2 he
                      clear he HT1 HT2
                      go_wp2_with fail
                      go_quiet (fail)
                      go_wp2
                      go_ret
                      exact ⟨by rw [HX.out]; rfl, same_drewN BW.out nq⟩
                    · have HN2 : Hid _ := HT1.out he
                      have heb : (Y == X) = false := beq_eq_false_iff_ne.2 he
                      clear he HT1 HT2
                      go_wp2_with fail
                      go_quiet (fail)
                      go_wp2
                      go_roundw
                      case rel => exact ⟨m + 1, by omega, by go_num, HN2, same_drewN bel nq⟩
                      case measure => simp [intOf]; omega
                  · obtain rfl : k = m := by omega
                    have HN2 : Hid _ := HNx.out (HI2.out.1 fun i hi => HT.out i hi hi)
                    clear HNx HI2 HT
                    go_wp2
                    go_roundw
                    case rel => exact ⟨k + 1, by omega, by go_num, HN2, bel⟩
                    case measure => simp [intOf]; omega
          · obtain rfl : n' = k := by omega
            have HX : Hid (r = 0) := HD.out.trans (Lf.enc0 ⟨HLn.out, HAll.out, fun j h => if hj : j < n' then HS.out j hj h else absurd h (by have := HN'.out; show ¬ j < ks.length; omega)⟩)
            go_wp2
            go_ret
            exact ⟨by rw [HX.out]; rfl, BW.out⟩

end Go.Proofs.Ytbglgplfjhiafaa
