/-
  Facts that the proof rests on, part 22. Conditions: those that each of them names.
-/
import Derived.Test.YtkbmadoaomoojaaGreatK20
namespace Go.Proofs.YtkbmadoaomoojaaGreat
set_option maxRecDepth 20000
open Go.RowKit
set_option linter.unusedVariables false
set_option maxHeartbeats 16000000 in
theorem walk_kids (s : Pgs) (f : Nat) (hf : f < 16) (hIH : LSaid s f) (w : World) (g gm : Nat) (P : Nat → Prop) (pa : Option Addr) (pc base : Nat) (k : Tr.Lw) (es : List (Int × Value)) (p dp : Int) (hdp : dp = 17 - ((f + 1 : Nat) : Int)) (hA : LApart P g gm base) (hW : LWalks w g gm P pa pc base s k es) (hb : base ≤ w.heap.size) (h0 : -9223372036854775808 ≤ p) (h1 : p ≤ 9223372036854775807) (hm : p ∉ k.met)
 (hn : 1 ≤ p ∧ p ≤ s.length ∧ Lf.decodeE (Tr.page s p) = 0) (hk : (Tr.nod s p).2 ≠ []) :
 Calls Tryz.prog 45 #[.pointer (some ⟨g, 0, none⟩), .int .i64 p, .int .i64 dp] w fun e w' => LDone s (f + 1) g gm P pa pc base k p w e w' := by
 have HL : Hid (Tr.lwalk s (f + 1) p k = Tr.lkids (Tr.lwalk s f) (Tr.nod s p) (Tr.nod s p).2.length ⟨k.met ++ [p], k.leaf⟩) := by
  unfold Hid
  conv => lhs; unfold Tr.lwalk
  rw [if_pos (Tr.may_iff.2 ⟨hm, hn⟩), if_neg hk]
 have HOK : Hid (Lf.Ok (Tr.nod s p)) := Lf.ok_iff.1 (Lf.enc_decode hn.2.2).1
 have HW : Hid _ := hW
 have HA : Hid _ := hA
 have HN : Hid _ := hn
 have HM : Hid _ := hm
 have HB : Hid _ := hb
 have HKn : Hid _ := hk
 have IH : Hid (LSaid s f) := hIH
 have hd : dp ≤ 16 := by omega
 have hd0 : 1 ≤ dp := by omega
 have HDP : Hid (dp + 1 = 17 - (f : Int)) := by unfold Hid; omega
 clear hW hn hA hm hb hk hIH hdp
 obtain ⟨k1, hk1⟩ : ∃ k1 : Tr.Lw, k1 = ⟨k.met ++ [p], k.leaf⟩ := ⟨_, rfl⟩
 rw [← hk1] at HL
 go_enter Tryz.func45, Tryz.ntmps45
 go_wp2_with fail
 go_at_call 63
 refine (meet_in _ s g gm P pa pc base k es p dp HW.out HA.out HB.out h0 h1 HM.out hd).mono ?_
 rintro e w1 ⟨h2, -⟩
 obtain ⟨ia, il, ic, ka, kl, kc, rfl, W1, T1, I1, K1⟩ := h2 HN.out
 rw [← hk1] at W1
 clear hk1
 obtain ⟨n, hnn⟩ : ∃ n, n = Tr.nod s p := ⟨_, rfl⟩
 rw [← hnn] at I1 K1 HL HOK HKn
 clear hnn
 obtain ⟨w2, hw2, V2, b2, z2⟩ := boxedRow w1 63 [.slice ia il ic, .slice ka kl kc]
 have X2 : Hid _ := V2
 have HW2 : Hid (LWalks w2 g gm P pa pc base s k1 (es ++ [(p, .agg #[.slice ia il ic, .slice ka kl kc])])) := W1.below b2
 have HT2 : Hid (Turn [g, gm] w w2) := (turn2 T1).on b2
 have HS1 : Hid (w.heap.size ≤ w1.heap.size) := T1.size
 have HI2 : Hid (rItms.rd w2 (fun b => w.heap.size ≤ b) [.slice ia il ic] n.1) := Rep.below I1 b2
 have HK2 : Hid (rKids.rd w2 (fun b => w.heap.size ≤ b) [.slice ka kl kc] n.2) := Rep.below K1 b2
 have HKl : Hid (n.2.length = kl) := (rList_len K1).1
 have HIl : Hid (n.1.length = il) := (rList_len I1).1
 have HIK : Hid (kl = il + 1) := by
  have h := Tr.kids_len HOK.out HKn.out
  rw [HIl.out, HKl.out] at h
  exact h
 obtain ⟨x0, x1⟩ := X2.out.two
 have hkz : ¬ (kl : Int) = 0 := by have := HIK.out; omega
 have hil3 : il ≤ 3 := by have h := HOK.out.few; rw [HIl.out] at h; exact h
 have hkl4 : kl ≤ 4 := by have := HIK.out; omega
 have hgw : g < w.heap.size := by have := HA.out.gb; have := HB.out; omega
 have hgmw : gm < w.heap.size := by have := HA.out.gmb; have := HB.out; omega
 clear h2 W1 T1 I1 K1 V2 b2 z2
 go_wp2_with fail
 go_at_call 47
 refine (isLeafT_u _ _ _ _ _).mono ?_
 rintro e w3 ⟨rfl, b3⟩
 have X3 : Hid _ := X2.out.below b3
 have HW3 : Hid _ := HW2.out.below b3
 have HT3 : Hid (Turn [g, gm] w w3) := HT2.out.on b3
 have HI3 : Hid (rItms.rd w3 (fun b => w.heap.size ≤ b) [.slice ia il ic] n.1) := Rep.below HI2.out b3
 have HK3 : Hid (rKids.rd w3 (fun b => w.heap.size ≤ b) [.slice ka kl kc] n.2) := Rep.below HK2.out b3
 have HDK : Hid (decide ((kl : Int) = 0) = false) := decide_eq_false hkz
 obtain ⟨y0, y1⟩ := X3.out.two
 clear b3 x0 x1 hw2 X2 HW2 HT2 HI2 HK2
 have BOX : Hid (∀ {wr : World}, Turn [g, gm] w3 wr → Row wr w1.heap.size 63 [.slice ia il ic, .slice ka kl kc]) := fun h => h.row X3.out (by have := HS1.out; simp; omega)
 have ITM : Hid (∀ {wr : World}, Turn [g, gm] w3 wr → rItms.rd wr (fun b => w.heap.size ≤ b) [.slice ia il ic] n.1) := fun h => h.rep HI3.out (fun b hb _ => by simp; omega)
 have KID : Hid (∀ {wr : World}, Turn [g, gm] w3 wr → rKids.rd wr (fun b => w.heap.size ≤ b) [.slice ka kl kc] n.2) := fun h => h.rep HK3.out (fun b hb _ => by simp; omega)
 rw [HDK.out]
 go_wp2
 clear y0 y1
 go_loopw [6, 7, 54] (fun l m i wr => ∃ (j : Nat) (k' : Tr.Lw) (es' : List (Int × Value)) (a b : UInt64), j ≤ kl ∧ i = .int .i64 j ∧ l = .int .u64 (a.toNat : Int) ∧ m = .int .u64 (b.toNat : Int) ∧ Hid (Tr.lkids (Tr.lwalk s f) n j k1 = some (k', a, b)) ∧ Hid (LWalks wr g gm P pa pc base s k' es') ∧ Hid (Turn [g, gm] w3 wr)) (fun _ _ i _ => kl - (intOf i).toNat)
 case atStart => exact ⟨0, k1, _, 0, 0, Nat.zero_le _, rfl, rfl, rfl, rfl, HW3, Turn.refl _ _⟩
 case round =>
  obtain ⟨j, k', es', a, b, hj, rfl, rfl, rfl, HJ, HWj, HTj⟩ := hrel
  by_cases hlt : j < kl
  · have hjk : j < n.2.length := by rw [HKl.out]; exact hlt
    obtain ⟨gk, offk, rfl, -, -, hak⟩ := rKids_at (KID.out HTj.out) (by omega)
    obtain ⟨ck, kd1, kd2⟩ := hak j hjk
    have hjz : (j : Int) < (kl : Int) := by omega
    have HNX : Hid _ := Tr.lkids_next HJ.out hjk
    obtain ⟨kd, hkd⟩ : ∃ kd, kd = n.2[j] := ⟨_, rfl⟩
    rw [← hkd] at ck kd1 kd2 HNX
    have HBj : Hid (base ≤ wr.heap.size) := Nat.le_trans HB.out (Nat.le_trans HT3.out.size HTj.out.size)
    have HJK : Hid _ := hjk
    clear hak hkd hjk
    go_wp2_with fail
    go_at_call 45
    refine (IH.out wr g gm P pa pc base k' es' kd (dp + 1) HDP.out HA.out HWj.out HBj.out kd1 kd2).mono ?_
    rintro e w5 ⟨t5, hno, hyes⟩
    have HT5 : Hid (Turn [g, gm] w3 w5) := HTj.out.trans t5
    cases hr : Tr.lwalk s f kd k' with
    | none =>
      have e9 := hno hr
      subst e9
      have HN0 : Hid (Tr.lwalk s (f + 1) p k = none) := by
       unfold Hid
       rw [HL.out]
       refine Tr.lkids_all (j := j + 1) ?_ (by have := HJK.out; omega)
       rw [HNX.out, hr]
       rfl
      clear hno hyes hr t5 ck
      go_wp2_with fail
      exact ⟨rfl, LDone.no (HT3.out.trans HT5.out) HN0.out⟩
    | some r =>
      obtain ⟨k5, a5, b5⟩ := r
      obtain ⟨rfl, es5, hW5⟩ := hyes k5 a5 b5 hr
      have HW5 : Hid _ := hW5
      have HR : Hid _ := hr
      clear hno hyes hr t5 hW5 ck
      obtain ⟨n0, n1⟩ := (BOX.out HT5.out).two
      have IT5 : Hid (rItms.rd w5 (fun b => w.heap.size ≤ b) [.slice ia il ic] n.1) := ITM.out HT5.out
      have HFt : Hid (∀ x, (Tr.fits n j a5 b5 = true → x = some (k5, (if j = 0 then a5 else a), b5)) → (Tr.fits n j a5 b5 = false → x = none) → Tr.lkids (Tr.lwalk s f) n (j + 1) k1 = x) := fun x h1 h2 => by
       rw [HNX.out, HR.out, Option.bind_some]
       cases hc : Tr.fits n j a5 b5
       · simp [h2 hc]
       · simp [h1 hc]
      have HFi : Hid _ := Tr.fits_iff (n := n) (j := j) (a := a5) (b := b5) (by have := HIK.out; rw [HIl.out]; omega)
      have hil0 : 0 < il := by have h := HOK.out.some_; rw [HIl.out] at h; exact h
      obtain ⟨gi, offi, rfl, -, -, hat⟩ := rItms_at IT5.out hil0
      have ENDNO : Hid (Tr.lkids (Tr.lwalk s f) n (j + 1) k1 = none → Tr.lwalk s (f + 1) p k = none) := fun h => by rw [HL.out]; exact Tr.lkids_all h (by have := HJK.out; omega)
      have hkil : kl ≤ il + 1 ∧ il + 1 ≤ kl := by have := HIK.out; omega
      obtain ⟨hkil1, hkil2⟩ := hkil
      -- rounds
      by_cases hj0 : j = 0
      · have hjz0 : ((j : Int) == 0) = true := beq_iff_eq.2 (by omega)
        have hjl : j < il := by omega
        obtain ⟨u0, -⟩ := hat j (by rw [HIl.out]; exact hjl)
        obtain ⟨U, hU⟩ : ∃ U, U = (n.1[j]'(by rw [HIl.out]; exact hjl)).1 := ⟨_, rfl⟩
        rw [← hU] at u0
        have HU : Hid (U = (n.1[j]'(by rw [HIl.out]; exact hjl)).1) := hU
        have hjl1 : ((j : Int) == (il : Int)) = false := beq_eq_false_iff_ne.2 (by omega)
        have hjl2 : (j : Int) < (il : Int) := by omega
        clear hU
        by_cases hc : b5.toNat < U.toNat
        · have hcz : (b5.toNat : Int) < (U.toNat : Int) := by omega
          have HJ1 : Hid (Tr.lkids (Tr.lwalk s f) n (j + 1) k1 = some (k5, a5, b5)) := HFt.out _ (fun _ => by rw [if_pos hj0]) (fun h => absurd (HFi.out.2 ⟨fun h => absurd h (by omega), fun _ => by rw [HU.out] at hc; exact hc⟩) (by rw [h]; decide))
          clear hat hj0
          go_wp2_with (go_at_call 64; first | (refine (must_yes _).mono ?_; rintro e w' ⟨rfl, rfl⟩) | (refine (must_no _).mono ?_; rintro e w' ⟨rfl, rfl⟩))
          go_roundw
          case rel => exact ⟨j + 1, k5, es5, a5, b5, by omega, by go_num, rfl, rfl, HJ1, HW5, HT5⟩
          case measure => simp [intOf]; omega
        · have hcz : ¬ (b5.toNat : Int) < (U.toNat : Int) := by omega
          have HN0 : Hid (Tr.lwalk s (f + 1) p k = none) := ENDNO.out (HFt.out none (fun h => absurd (HFi.out.1 h) (fun h' => hc (by have := h'.2 (by rw [HIl.out]; exact hjl); rw [← HU.out] at this; exact this))) (fun _ => rfl))
          clear hat hj0
          go_wp2_with (go_at_call 64; first | (refine (must_yes _).mono ?_; rintro e w' ⟨rfl, rfl⟩) | (refine (must_no _).mono ?_; rintro e w' ⟨rfl, rfl⟩))
          exact ⟨rfl, LDone.no (HT3.out.trans HT5.out) HN0.out⟩
      · obtain ⟨t0, -⟩ := hat (j - 1) (by rw [HIl.out]; omega)
        obtain ⟨Z, hZ⟩ : ∃ Z, Z = (n.1[j - 1]'(by rw [HIl.out]; omega)).1 := ⟨_, rfl⟩
        rw [← hZ] at t0
        have HZ : Hid (Z = (n.1[j - 1]'(by rw [HIl.out]; omega)).1) := hZ
        have hjz0 : ((j : Int) == 0) = false := beq_eq_false_iff_ne.2 (by omega)
        have k1z : ((j : Int) - 1).toNat = j - 1 := by omega
        have k2z : (0 : Int) ≤ (j : Int) - 1 := by omega
        have k3z : (j : Int) - 1 < (il : Int) := by omega
        clear hZ
        by_cases hl : Z.toNat ≤ a5.toNat
        · have hlz : (a5.toNat : Int) ≥ (Z.toNat : Int) := by omega
          by_cases hjl : j < il
          · obtain ⟨u0, -⟩ := hat j (by rw [HIl.out]; exact hjl)
            obtain ⟨U, hU⟩ : ∃ U, U = (n.1[j]'(by rw [HIl.out]; exact hjl)).1 := ⟨_, rfl⟩
            rw [← hU] at u0
            have HU : Hid (U = (n.1[j]'(by rw [HIl.out]; exact hjl)).1) := hU
            have hjl1 : ((j : Int) == (il : Int)) = false := beq_eq_false_iff_ne.2 (by omega)
            have hjl2 : (j : Int) < (il : Int) := by omega
            clear hU
            by_cases hc : b5.toNat < U.toNat
            · have hcz : (b5.toNat : Int) < (U.toNat : Int) := by omega
              have HJ1 : Hid (Tr.lkids (Tr.lwalk s f) n (j + 1) k1 = some (k5, a, b5)) := HFt.out _ (fun _ => by rw [if_neg (by omega)]) (fun h => absurd (HFi.out.2 ⟨fun _ => by rw [HZ.out] at hl; exact hl, fun _ => by rw [HU.out] at hc; exact hc⟩) (by rw [h]; decide))
              clear hat
              go_wp2_with (go_at_call 64; first | (refine (must_yes _).mono ?_; rintro e w' ⟨rfl, rfl⟩) | (refine (must_no _).mono ?_; rintro e w' ⟨rfl, rfl⟩))
              go_roundw
              case rel => exact ⟨j + 1, k5, es5, a, b5, by omega, by go_num, rfl, rfl, HJ1, HW5, HT5⟩
              case measure => simp [intOf]; omega
            · have hcz : ¬ (b5.toNat : Int) < (U.toNat : Int) := by omega
              have HN0 : Hid (Tr.lwalk s (f + 1) p k = none) := ENDNO.out (HFt.out none (fun h => absurd (HFi.out.1 h) (fun h' => hc (by have := h'.2 (by rw [HIl.out]; exact hjl); rw [← HU.out] at this; exact this))) (fun _ => rfl))
              clear hat
              go_wp2_with (go_at_call 64; first | (refine (must_yes _).mono ?_; rintro e w' ⟨rfl, rfl⟩) | (refine (must_no _).mono ?_; rintro e w' ⟨rfl, rfl⟩))
              exact ⟨rfl, LDone.no (HT3.out.trans HT5.out) HN0.out⟩
          · have hjl1 : ((j : Int) == (il : Int)) = true := beq_iff_eq.2 (by omega)
            have HJ1 : Hid (Tr.lkids (Tr.lwalk s f) n (j + 1) k1 = some (k5, a, b5)) := HFt.out _ (fun _ => by rw [if_neg (by omega)]) (fun h => absurd (HFi.out.2 ⟨fun _ => by rw [HZ.out] at hl; exact hl, fun h => absurd h (by rw [HIl.out]; exact hjl)⟩) (by rw [h]; decide))
            clear hat
            go_wp2_with (go_at_call 64; first | (refine (must_yes _).mono ?_; rintro e w' ⟨rfl, rfl⟩) | (refine (must_no _).mono ?_; rintro e w' ⟨rfl, rfl⟩))
            go_roundw
            case rel => exact ⟨j + 1, k5, es5, a, b5, by omega, by go_num, rfl, rfl, HJ1, HW5, HT5⟩
            case measure => simp [intOf]; omega
        · have hlz : ¬ (a5.toNat : Int) ≥ (Z.toNat : Int) := by omega
          have HN0 : Hid (Tr.lwalk s (f + 1) p k = none) := ENDNO.out (HFt.out none (fun h => absurd (HFi.out.1 h) (fun h' => hl (by have := h'.1 (by omega); rw [← HZ.out] at this; exact this))) (fun _ => rfl))
          clear hat
          go_wp2_with (go_at_call 64; first | (refine (must_yes _).mono ?_; rintro e w' ⟨rfl, rfl⟩) | (refine (must_no _).mono ?_; rintro e w' ⟨rfl, rfl⟩))
          exact ⟨rfl, LDone.no (HT3.out.trans HT5.out) HN0.out⟩
  · obtain rfl : kl = j := by omega
    go_wp2
    go_ret2
    exact LDone.yes (HT3.out.trans HTj.out) (by rw [HL.out, HKl.out]; exact HJ.out) rfl HWj.out
theorem walk_u (s : Pgs) : ∀ f, f ≤ 16 → LSaid s f
 | 0, _ => by
   intro w g gm P pa pc base k es p dp hdp hA hW hb h0 h1
   exact walk_shut s 0 w g gm P pa pc base k es p dp hdp hW h0 h1 (.inr (by omega))
 | f + 1, hf => by
   intro w g gm P pa pc base k es p dp hdp hA hW hb h0 h1
   by_cases hm : p ∈ k.met
   · exact walk_shut s (f + 1) w g gm P pa pc base k es p dp hdp hW h0 h1 (.inl hm)
   · by_cases hn : 1 ≤ p ∧ p ≤ s.length ∧ Lf.decodeE (Tr.page s p) = 0
     · by_cases hk : (Tr.nod s p).2 = []
       · exact walk_leaf s f (by omega) w g gm P pa pc base k es p dp hdp hA hW hb h0 h1 hm hn hk
       · exact walk_kids s f (by omega) (walk_u s f (by omega)) w g gm P pa pc base k es p dp hdp hA hW hb h0 h1 hm hn hk
     · exact walk_none s f w g gm P pa pc base k es p dp hdp hA hW hb h0 h1 hm hn
end Go.Proofs.YtkbmadoaomoojaaGreat
