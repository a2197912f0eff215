/-
  Facts that the proof rests on, part 47. Conditions: those that each of them names.
-/
import Derived.Test.YtkbmadoaomoojaaGreatK42
import Derived.Test.YtkbmadoaomoojaaGreatK45
namespace Go.Proofs.YtkbmadoaomoojaaGreat
set_option maxRecDepth 20000
open Go.RowKit
set_option linter.unusedVariables false
namespace Tr
theorem readP_in {s : Pgs} {r : Int} (h : readE s r = 0) : (readP s r).length ≤ 2048 ∧ ∀ p ∈ readP s r, 1 ≤ p ∧ p ≤ s.length := by
 obtain ⟨hl, ⟨-, -, e⟩ | ⟨-, d, W, -, e⟩⟩ := read_zero h
 · rw [e]; exact ⟨by simp, fun p hp => by cases hp⟩
 · rw [e]
   have hm : (mark (none_ s).met (pgs s d r)).length = s.length := by rw [mark_length]; simp [none_]
   refine ⟨?_, fun p hp => ?_⟩
   · have h1 : (numbers (mark (none_ s).met (pgs s d r))).length ≤ (mark (none_ s).met (pgs s d r)).length := by
      unfold numbers
      rw [List.length_map]
      exact Nat.le_trans (List.length_filter_le _ _) (by rw [List.length_range]; exact Nat.le_refl _)
     omega
   · have h1 := mem_numbers.1 hp
     rw [hm] at h1
     exact ⟨h1.1, h1.2.1⟩
end Tr
def lenK (w : World) (p : Addr) : Nat := match w.cell? p with
 | some (.slice _ n _) => n
 | _ => 0
theorem lenK_of {w : World} {p : Addr} {a : Option Addr} {n c : Nat} (h : w.cell? p = some (.slice a n c)) : lenK w p = n := by
 unfold lenK
 rw [h]
theorem info_boolD : (Tryz.prog.info? 4).map (fun i => (i.zero, i.size, i.bytes)) = some (some (.bool false), 1, 1) := by kernel_rfl
set_option maxHeartbeats 8000000 in
theorem dkeep_u (w : World) (P Q : Nat → Prop) (s : Pgs) (roots : List Int) (pa : Option Addr) (pc : Nat) (ra : Option Addr) (rn rc : Nat) (hR : rSectors.rd w P [.slice pa s.length pc] s) (hK : rKids.rd w Q [.slice ra rn rc] roots) :
 Calls Tryz.prog 8 #[.agg #[.slice pa s.length pc], .slice ra rn rc] w fun e w' => ∃ a n c, e = .returned (.tuple #[.agg #[.slice a n c], .int .i64 (Tr.dkeepE s roots)]) ∧ rSectors.rd w' (fun b => w.heap.size ≤ b) [.slice a n c] (Tr.dkeepS s roots) ∧ Below w.heap.size w w' := by
 have hR := rSectors.weaken hR (fun b _ hl => (hl : b < w.heap.size))
 have hK := rKids.weaken hK (fun b _ hl => (hl : b < w.heap.size))
 have HRn : Hid (roots.length = rn) := (rL_len8 hK).1
 have HRb0 : Hid (rn * 8 ≤ 140737488351232) := (rL_len8 hK).2.2.2
 have hsl : s.length * 24 ≤ 140737488351232 := (rL_len8 hR).2.2.2
 obtain ⟨w1, hw1, V1, b1, z1⟩ := boxedRow w 24 [.slice pa s.length pc]
 obtain ⟨w2, hw2, V2, b2, z2⟩ := boxedRow w1 24 [.slice none 0 0]
 have bel : Below w.heap.size w w2 := on b1 b2
 have HZ : Hid (w1.heap.size = w.heap.size + 1 ∧ w2.heap.size = w.heap.size + 2) := by unfold Hid; omega
 have HVt : Hid (Row w2 w.heap.size 24 [.slice pa s.length pc]) := V1.below b2
 have HVp : Hid _ := V2
 have HR : Hid (rSectors.rd w2 (fun b => b < w.heap.size) [.slice pa s.length pc] s) := Rep.below hR bel
 have HK : Hid (rKids.rd w2 (fun b => b < w.heap.size) [.slice ra rn rc] roots) := Rep.below hK bel
 have B2 : Hid _ := bel
 have a0 := HVt.out.cell (j := 0) rfl
 have hz1 : 1 * s.length ≤ 281474976710656 := by omega
 have hz2 : s.length ≤ 9223372036854775807 := by omega
 clear V1 V2 b1 b2 z1 z2 bel hR hK
 go_enter Tryz.func8, Tryz.ntmps8
 go_wp2_with (at_make; refine make_row _ rfl _ _ 43 rfl 4 (.bool false) 1 Tryz.underlying43 info_boolD rfl s.length _ rfl rfl rfl hz1 hz2 ?_; intro w3 HRw b3 z3)
 have HI3 : Hid (Row w3 w2.heap.size 4 ((List.replicate s.length false).map Value.bool)) := by unfold Hid; rw [List.map_replicate]; exact HRw.out
 have HVt3 : Hid _ := HVt.out.below b3
 have HVp3 : Hid _ := HVp.out.below b3
 have HR3 : Hid (rSectors.rd w3 (fun b => b < w.heap.size) [.slice pa s.length pc] s) := Rep.below HR.out b3
 have HK3 : Hid (rKids.rd w3 (fun b => b < w.heap.size) [.slice ra rn rc] roots) := Rep.below HK.out b3
 have B3 : Hid _ := on B2.out b3
 have HZ3 : Hid (w3.heap.size = w2.heap.size + 1) := z3
 have HA0 : Hid (∀ r ∈ roots.take 0, Tr.readE s r = 0) := fun r hr => by rw [List.take_zero] at hr; cases hr
 clear a0 b3 z3 HRw HVt HVp HR HK
 go_loopw [7] (fun iv wr => ∃ i : Nat, i ≤ rn ∧ iv = .int .i64 i ∧ Hid (∀ r ∈ roots.take i, Tr.readE s r = 0) ∧ Hid (Below w3.heap.size w3 wr)) (fun iv _ => rn - (intOf iv).toNat)
 case atStart => exact ⟨0, Nat.zero_le _, rfl, HA0, Below.refl _ _⟩
 case round =>
  obtain ⟨i, hi, rfl, HAi, BR⟩ := hrel
  clear HA0
  by_cases hin : i < rn
  · skip
    have hir : i < roots.length := by rw [HRn.out]; exact hin
    have hiz : (i : Int) < (rn : Int) := by omega
    obtain ⟨rb, roff, rfl, -, -, hat⟩ := rKids_at (Rep.below HK3.out BR.out) (by omega)
    obtain ⟨hc, hr0, hr1⟩ := hat i hir
    obtain ⟨r, hr⟩ : ∃ r, r = roots[i] := ⟨_, rfl⟩
    rw [← hr] at hc hr0 hr1
    have HRr : Hid (r = roots[i]) := hr
    have HI : Hid (-9223372036854775808 ≤ r ∧ r ≤ 9223372036854775807) := ⟨hr0, hr1⟩
    have HVtr : Hid _ := HVt3.out.below BR.out
    have t0 := HVtr.out.cell (j := 0) rfl
    have hrn8 : rn * 8 ≤ 140737488351232 := HRb0.out
    have HSee : Hid (∀ w', Below wr.heap.size wr w' → w'.cell? ⟨w.heap.size, 0, none⟩ = some (.slice pa s.length pc) ∧ w'.cell? ⟨rb, roff + i, none⟩ = some (.int .i64 r)) := fun w' hb => ⟨(HVtr.out.below hb).cell (j := 0) rfl, Kept.cell (Kept.below hb) (p := ⟨rb, roff + i, none⟩) (World.block_lt_of_cell? wr _ hc) hc⟩
    have S0 := HSee.out _ (Below.refl _ wr).drew
    clear hat hr
    go_wp2_with fail
    refine wp_region_held_drew (S := (fun w' : World => w'.cell? ⟨w.heap.size, 0, none⟩ = some (.slice pa s.length pc) ∧ w'.cell? ⟨rb, roff + i, none⟩ = some (.int .i64 r))) (by kernel_rfl) (S0) (fun hH => ?_)
    refine tkM 0 _ rfl rfl ?_; simp only [sz, ss]
    refine tkM 1 _ rfl rfl ?_; simp only [sz, ss]
    refine tkM 2 _ rfl rfl ?_; simp only [sz, ss]
    refine tkM 3 _ rfl rfl ?_; simp only [sz, ss]
    refine tkM 4 _ rfl rfl ?_; simp only [sz, ss]
    refine r1L 5 rfl fun K hK => ?_
    · go_simp
      go_at_call 25
      refine Calls.mono (rcheck_u wr.drew _ s r pa pc (rSectors.keep (Rep.below HR3.out BR.out) (fun _ _ _ => rfl)) HI.out.1 HI.out.2) ?_
      rintro e w5 ⟨rfl, b5⟩
      have BB : Hid (Below wr.heap.size wr w5) := (Below.refl _ wr).drew.trans b5
      have S5 := HSee.out _ BB.out
      clear b5
      go_simp
      refine hK.out _ _ ?_ (fun hH => ?_)
      · try dsimp only
        exact S5
      clear hK K
      refine tkM 6 _ rfl rfl ?_; simp only [sz, ss]
      refine wpAnyH_done (by kernel_rfl) ?_ _
      clear hH S5 S0
      have B5 : Hid _ := on BR.out BB.out
      by_cases hE : Tr.readE s r = 0
      · rw [hE]
        have HAj : Hid (∀ q ∈ roots.take (i + 1), Tr.readE s q = 0) := fun q hq => by
         rw [List.take_succ_eq_append_getElem hir] at hq
         rcases List.mem_append.1 hq with hq | hq
         · exact HAi.out q hq
         · rw [List.mem_singleton.1 hq, ← HRr.out]; exact hE
        clear hE
        go_wp2
        go_roundw
        case rel => exact ⟨i + 1, by omega, by go_num, HAj, B5⟩
        case measure => simp [intOf]; omega
      · have hEb : (Tr.readE s r == 0) = false := beq_eq_false_iff_ne.2 hE
        have hEn : (Tr.readE s r != 0) = true := bne_iff_ne.2 hE
        have HC : Hid (Tr.chkE s roots = Tr.readE s r) := by unfold Hid; rw [HRr.out]; exact Tr.chkE_stop hir HAi.out (by rw [← HRr.out]; exact hE)
        have HEE : Hid (Tr.dkeepE s roots = Tr.readE s r) := by unfold Hid Tr.dkeepE; rw [HC.out, if_pos hE]
        have HSk : Hid (Tr.dkeepS s roots = []) := by unfold Hid Tr.dkeepS; rw [HC.out, if_pos hE]
        have HVp5 : Hid _ := HVp3.out.below B5.out
        have g0 := HVp5.out.cell (j := 0) rfl
        have g2 := HVp5.out.frozen 0
        clear hE
        go_wp2
        exact one_ret2 HVp5.out _ rfl rfl Tryz.underlying24 rfl (by kernel_rfl) (fun w' k' => ⟨none, 0, 0, by rw [HEE.out]; rfl, by rw [HSk.out]; exact rSecs_nil _ _, Kept.belowOf (B3.out.trans (B5.out.mono B3.out.size)) k' (by have := HZ.out; omega)⟩)
  · obtain rfl : rn = i := by omega
    have hiz : ¬ (rn : Int) < (rn : Int) := by omega
    obtain ⟨wA, hwA⟩ : ∃ v, v = wr := ⟨_, rfl⟩
    subst hwA
    have HAll : Hid (∀ r ∈ roots, Tr.readE s r = 0) := by have h := HAi.out; rw [List.take_of_length_le (by rw [HRn.out]; exact Nat.le_refl _)] at h; exact h
    have HCz : Hid (Tr.chkE s roots = 0) := Tr.chkE_zero HAll.out
    have HVtA : Hid _ := HVt3.out.below BR.out
    have HVpA : Hid _ := HVp3.out.below BR.out
    have HRA : Hid (rSectors.rd wA (fun b => b < w.heap.size) [.slice pa s.length pc] s) := Rep.below HR3.out BR.out
    have HKA : Hid (rKids.rd wA (fun b => b < w.heap.size) [.slice ra rn rc] roots) := Rep.below HK3.out BR.out
    have HIA : Hid _ := HI3.out.below BR.out
    have BA : Hid (Below w.heap.size w wA) := B3.out.trans (BR.out.mono B3.out.size)
    have HZA : Hid (w3.heap.size ≤ wA.heap.size) := BR.out.size
    have t0 := HVtA.out.cell (j := 0) rfl
    clear HAi BR HVt3 HVp3 HR3 HK3 HI3
    by_cases hl : 2048 < s.length
    · have hlz : (s.length : Int) > 2048 := by omega
      have HEE : Hid (Tr.dkeepE s roots = 3) := by unfold Hid Tr.dkeepE; rw [if_neg (by rw [HCz.out]; decide), if_pos hl]
      have HSk : Hid (Tr.dkeepS s roots = []) := by unfold Hid Tr.dkeepS; rw [if_neg (by rw [HCz.out]; decide), if_pos hl]
      have g0 := HVpA.out.cell (j := 0) rfl
      have g2 := HVpA.out.frozen 0
      clear hl
      go_wp2
      exact one_ret2 HVpA.out _ rfl rfl Tryz.underlying24 rfl (by kernel_rfl) (fun w' k' => ⟨none, 0, 0, by rw [HEE.out]; rfl, by rw [HSk.out]; exact rSecs_nil _ _, Kept.belowOf BA.out k' (by have := HZ.out; omega)⟩)
    · have hlz : ¬ (s.length : Int) > 2048 := by omega
      have HL : Hid (¬ 2048 < s.length) := hl
      have HMa0 : Hid (Tr.markAll s (List.replicate s.length false) (roots.take 0) = some (List.replicate s.length false)) := by rw [List.take_zero]; rfl
      clear hl
      go_wp2_with fail
      go_loopw [9] (fun iv wr => ∃ (i : Nat) (M : List Bool), i ≤ rn ∧ iv = .int .i64 i ∧ Hid (Tr.markAll s (List.replicate s.length false) (roots.take i) = some M) ∧ Hid (Row wr w2.heap.size 4 (M.map Value.bool)) ∧ Hid (Kept (fun q => q < wA.heap.size ∧ q ≠ w2.heap.size) wA wr)) (fun iv _ => rn - (intOf iv).toNat)
      case atStart => exact ⟨0, _, Nat.zero_le _, rfl, HMa0, HIA, Kept.refl _ _⟩
      case round =>
       obtain ⟨i, M, hi, rfl, HMi, HIi, KC⟩ := hrel
       obtain ⟨wC, hwC⟩ : ∃ v, v = wr := ⟨_, rfl⟩
       subst hwC
       clear HMa0 HIA t0
       have HVtC : Hid (Row wC w.heap.size 24 [.slice pa s.length pc]) := HVtA.out.keep (KC.out.block _ ⟨HVtA.out.lt, by have h := HZ.out; unfold Hid at h; show w.heap.size ≠ w2.heap.size; omega⟩)
       have HVpC : Hid (Row wC w1.heap.size 24 [.slice none 0 0]) := HVpA.out.keep (KC.out.block _ ⟨HVpA.out.lt, by have h := HZ.out; unfold Hid at h; show w1.heap.size ≠ w2.heap.size; omega⟩)
       have HRC : Hid (rSectors.rd wC (fun b => b < w.heap.size) [.slice pa s.length pc] s) := Rep.kept HRA.out KC.out (fun q hq hl => ⟨hl, by have h := HZ.out; have h2 : q < w.heap.size := hq; unfold Hid at h; show q ≠ w2.heap.size; omega⟩)
       have HKC : Hid (rKids.rd wC (fun b => b < w.heap.size) [.slice ra rn rc] roots) := Rep.kept HKA.out KC.out (fun q hq hl => ⟨hl, by have h := HZ.out; have h2 : q < w.heap.size := hq; unfold Hid at h; show q ≠ w2.heap.size; omega⟩)
       have HML : Hid (M.length = s.length) := by have h := Tr.markAll_len HMi.out; rw [List.length_replicate] at h; exact h
       have hsl2 : s.length ≤ 2048 := by have h := HL.out; omega
       by_cases hin : i < rn
       · skip
         have hir : i < roots.length := by rw [HRn.out]; exact hin
         have hiz : (i : Int) < (rn : Int) := by omega
         obtain ⟨rb, roff, rfl, -, -, hat⟩ := rKids_at HKC.out (by omega)
         obtain ⟨hc, hr0, hr1⟩ := hat i hir
         obtain ⟨r, hr⟩ : ∃ r, r = roots[i] := ⟨_, rfl⟩
         rw [← hr] at hc hr0 hr1
         have HRr : Hid (r = roots[i]) := hr
         have HI : Hid (-9223372036854775808 ≤ r ∧ r ≤ 9223372036854775807) := ⟨hr0, hr1⟩
         have HRE : Hid (Tr.readE s r = 0) := by unfold Hid; rw [hr]; exact HAll.out _ (List.getElem_mem hir)
         have t0 := HVtC.out.cell (j := 0) rfl
         have hrn8 : rn * 8 ≤ 140737488351232 := HRb0.out
         have HSee : Hid (∀ w', Below wC.heap.size wC w' → w'.cell? ⟨w.heap.size, 0, none⟩ = some (.slice pa s.length pc) ∧ w'.cell? ⟨rb, roff + i, none⟩ = some (.int .i64 r)) := fun w' hb => ⟨(HVtC.out.below hb).cell (j := 0) rfl, Kept.cell (Kept.below hb) (p := ⟨rb, roff + i, none⟩) (World.block_lt_of_cell? wC _ hc) hc⟩
         have S0 := HSee.out _ (Below.refl _ wC).drew
         clear hat hr
         go_wp2_with fail
         refine wp_region_held_drew (S := (fun w' : World => w'.cell? ⟨w.heap.size, 0, none⟩ = some (.slice pa s.length pc) ∧ w'.cell? ⟨rb, roff + i, none⟩ = some (.int .i64 r))) (by kernel_rfl) (S0) (fun hH => ?_)
         refine tkM 0 _ rfl rfl ?_; simp only [sz, ss]
         refine tkM 1 _ rfl rfl ?_; simp only [sz, ss]
         refine tkM 2 _ rfl rfl ?_; simp only [sz, ss]
         refine tkM 3 _ rfl rfl ?_; simp only [sz, ss]
         refine tkM 4 _ rfl rfl ?_; simp only [sz, ss]
         refine r1L 5 rfl fun K hK => ?_
         · go_simp
           go_at_call 26
           refine Calls.mono (rreach_u wC.drew _ s r pa pc (rSectors.keep HRC.out (fun _ _ _ => rfl)) HI.out.1 HI.out.2) ?_
           rintro e w5 ⟨la, ln, lc, rfl, hown, b5⟩
           have BB : Hid (Below wC.heap.size wC w5) := (Below.refl _ wC).drew.trans b5
           have HOw : Hid _ := hown
           have S5 := HSee.out _ BB.out
           clear b5 hown
           go_simp
           refine hK.out _ _ ?_ (fun hH => ?_)
           · try dsimp only
             exact S5
           clear hK K
           refine tkM 6 _ rfl rfl ?_; simp only [sz, ss]
           refine tkM 7 _ rfl rfl ?_; simp only [sz, ss]
           refine tkM 8 _ rfl rfl ?_; simp only [sz, ss]
           refine tkM 9 _ rfl rfl ?_; simp only [sz, ss]
           refine tkM 10 _ rfl rfl ?_; simp only [sz, ss]
           refine wpAnyH_done (by kernel_rfl) ?_ _
           clear hH S5 S0 HSee
           have HPl : Hid ((Tr.readP s r).length ≤ 2048) := by have h := Tr.readP_in (s := s) (r := r) HRE.out; unfold Hid; omega
           have HKl : Hid (rKids.rd w5 (fun b => wC.heap.size ≤ b) [.slice la ln lc] (Tr.readP s r)) := HOw.out.rd (by have h := HPl.out; omega)
           have HLn : Hid ((Tr.readP s r).length = ln) := (rL_len8 HKl.out).1
           have HI5 : Hid _ := HIi.out.below BB.out
           have HVp5 : Hid _ := HVpC.out.below BB.out
           have HZC : Hid (w2.heap.size < wC.heap.size) := HIi.out.lt
           have KC5 : Hid (Kept (fun q => q < wA.heap.size ∧ q ≠ w2.heap.size) wA w5) := KC.out.on (fun q hq => Nat.lt_of_lt_of_le hq.1 KC.out.size) BB.out
           have HM0 : Hid (Tr.mark1 M ((Tr.readP s r).take 0) = some M) := by rw [List.take_zero]; rfl
           have BS : Hid (wC.heap.size ≤ w5.heap.size) := BB.out.size
           clear HOw HIi HVpC HRC HKC t0
           go_wp2_with fail
           go_loopw [12] (fun jv wr => ∃ (j : Nat) (N : List Bool), j ≤ ln ∧ jv = .int .i64 j ∧ Hid (Tr.mark1 M ((Tr.readP s r).take j) = some N) ∧ Hid (Row wr w2.heap.size 4 (N.map Value.bool)) ∧ Hid (Kept (fun q => q < w5.heap.size ∧ q ≠ w2.heap.size) w5 wr)) (fun jv _ => ln - (intOf jv).toNat)
           case atStart => exact ⟨0, M, Nat.zero_le _, rfl, HM0, HI5, Kept.refl _ _⟩
           case round =>
            obtain ⟨j, N, hj, rfl, HNj, HIj, KJ⟩ := hrel
            clear HM0 HI5
            have hpl : ln ≤ 2048 := by have h := HPl.out; have h2 := HLn.out; omega
            have HNL : Hid (N.length = s.length) := (Tr.mark1_len HNj.out).trans HML.out
            by_cases hjn : j < ln
            · have hjz : (j : Int) < (ln : Int) := by omega
              have hjl : j < (Tr.readP s r).length := by rw [HLn.out]; exact hjn
              obtain ⟨lb, loff, rfl, -, -, hat⟩ := rKids_at (Rep.kept HKl.out KJ.out (fun q hq hl => ⟨hl, by have h := HZC.out; have h2 : wC.heap.size ≤ q := hq; show q ≠ w2.heap.size; omega⟩)) (by omega)
              obtain ⟨hcl, hp0, hp1⟩ := hat j hjl
              obtain ⟨p, hp⟩ : ∃ p, p = (Tr.readP s r)[j] := ⟨_, rfl⟩
              rw [← hp] at hcl hp0 hp1
              have hpin : 1 ≤ p ∧ p ≤ s.length := by rw [hp]; exact (Tr.readP_in HRE.out).2 _ (List.getElem_mem hjl)
              obtain ⟨k, hk⟩ : ∃ k : Nat, p = (k : Int) + 1 := ⟨(p - 1).toNat, by omega⟩
              have HPk : Hid ((Tr.readP s r)[j] = (k : Int) + 1) := hp.symm.trans hk
              subst hk
              have hks : k < s.length := by omega
              have hksz : (k : Int) < (s.length : Int) := by omega
              have hpw : IntKind.i64.wrap ((k : Int) + 1 - 1) = (k : Int) := by rw [IntKind.wrap_i64]; omega
              have hkN : k < N.length := by rw [HNL.out]; exact hks
              have hcn := HIj.out.cell (j := k) (v := .bool N[k]) (by rw [List.getElem?_map, List.getElem?_eq_getElem hkN]; rfl)
              have hfn := HIj.out.frozen k
              have HGd : Hid (N.getD ((Tr.readP s r)[j] - 1).toNat false = N[k]) := by
               unfold Hid
               rw [HPk.out, show ((k : Int) + 1 - 1).toNat = k by omega, List.getD_eq_getElem?_getD, List.getElem?_eq_getElem hkN]
               rfl
              clear hat hp
              cases hb : N[k] with
              | true =>
                rw [hb] at hcn
                have HTw : Hid (Tr.markAll s (List.replicate s.length false) roots = none) := Tr.markAll_stop hir HMi.out (by rw [← HRr.out]; exact Tr.mark1_stop hjl HNj.out (by rw [HGd.out]; exact hb))
                have HEE : Hid (Tr.dkeepE s roots = 6) := by unfold Hid Tr.dkeepE; rw [if_neg (by rw [HCz.out]; decide), if_neg HL.out, HTw.out]
                have HSk : Hid (Tr.dkeepS s roots = []) := by unfold Hid Tr.dkeepS; rw [if_neg (by rw [HCz.out]; decide), if_neg HL.out, HTw.out]
                have HVpj : Hid (Row wr w1.heap.size 24 [.slice none 0 0]) := HVp5.out.keep (KJ.out.block _ ⟨HVp5.out.lt, by have h := HZ.out; unfold Hid at h; show w1.heap.size ≠ w2.heap.size; omega⟩)
                have g0 := HVpj.out.cell (j := 0) rfl
                have g2 := HVpj.out.frozen 0
                have BW : Hid (Below w.heap.size w wr) := Kept.toBelow ((Kept.below BA.out).trans ((KC5.out.mono (fun q hq => by have h1 := BA.out.size; have h2 := HZ.out; have h3 : q < w.heap.size := hq; unfold Hid at h2; exact ⟨by omega, by show q ≠ w2.heap.size; omega⟩)).trans (KJ.out.mono (fun q hq => by have h1 := BA.out.size; have h2 := HZ.out; have h3 : q < w.heap.size := hq; have h4 := KC5.out.size; unfold Hid at h2; exact ⟨by omega, by show q ≠ w2.heap.size; omega⟩))))
                clear hb
                go_wp2
                exact one_ret2 HVpj.out _ rfl rfl Tryz.underlying24 rfl (by kernel_rfl) (fun w' k' => ⟨none, 0, 0, by rw [HEE.out]; rfl, by rw [HSk.out]; exact rSecs_nil _ _, Kept.belowOf BW.out k' (by have := HZ.out; omega)⟩)
              | false =>
                rw [hb] at hcn
                have HNn : Hid (Tr.mark1 M ((Tr.readP s r).take (j + 1)) = some (N.set k true)) := by
                 unfold Hid
                 rw [List.take_succ_eq_append_getElem hjl, Tr.mark1_snoc, HNj.out]
                 show (if N.getD ((Tr.readP s r)[j] - 1).toNat false = true then none else some (N.set ((Tr.readP s r)[j] - 1).toNat true)) = _
                 rw [HGd.out, hb, HPk.out, show ((k : Int) + 1 - 1).toNat = k by omega]
                 rfl
                have HIn : Hid (Row (wr.setCell ⟨w2.heap.size, k, none⟩ (.bool true)) w2.heap.size 4 ((N.set k true).map Value.bool)) := by unfold Hid; rw [List.map_set]; exact HIj.out.set k _
                have KN : Hid (Kept (fun q => q < w5.heap.size ∧ q ≠ w2.heap.size) w5 (wr.setCell ⟨w2.heap.size, k, none⟩ (.bool true))) := KJ.out.setCell (p := ⟨w2.heap.size, k, none⟩) (fun h => h.2 rfl) _
                clear hb
                go_wp2
                go_roundw
                case rel => exact ⟨j + 1, _, by omega, by go_num, HNn, HIn, KN⟩
                case measure => simp [intOf]; omega
            · obtain rfl : ln = j := by omega
              have hjz : ¬ (ln : Int) < (ln : Int) := by omega
              have HMn : Hid (Tr.markAll s (List.replicate s.length false) (roots.take (i + 1)) = some N) := by
               unfold Hid
               rw [List.take_succ_eq_append_getElem hir, Tr.markAll_snoc, HMi.out]
               have h := HNj.out
               rw [List.take_of_length_le (by rw [HLn.out]; exact Nat.le_refl _), HRr.out] at h
               exact h
              have KN : Hid (Kept (fun q => q < wA.heap.size ∧ q ≠ w2.heap.size) wA wr) := KC5.out.trans (KJ.out.mono (fun q hq => ⟨Nat.lt_of_lt_of_le hq.1 KC5.out.size, hq.2⟩))
              go_wp2
              go_roundw
              case rel => exact ⟨i + 1, N, by omega, by go_num, HMn, HIj, KN⟩
              case measure => simp [intOf]; omega
       · obtain rfl : rn = i := by omega
         have hiz : ¬ (rn : Int) < (rn : Int) := by omega
         obtain ⟨wF, hwF⟩ : ∃ v, v = wC := ⟨_, rfl⟩
         subst hwF
         have HMk : Hid (Tr.markAll s (List.replicate s.length false) roots = some M) := by have h := HMi.out; rw [List.take_of_length_le (by rw [HRn.out]; exact Nat.le_refl _)] at h; exact h
         have HEE : Hid (Tr.dkeepE s roots = 0) := by unfold Hid Tr.dkeepE; rw [if_neg (by rw [HCz.out]; decide), if_neg HL.out, HMk.out]
         have HSk : Hid (Tr.dkeepS s roots = Tr.keepL (fun j => M.getD j false) s s.length) := by unfold Hid Tr.dkeepS; rw [if_neg (by rw [HCz.out]; decide), if_neg HL.out, HMk.out]
         have BW : Hid (Below w.heap.size w wF) := Kept.toBelow ((Kept.below BA.out).trans (KC.out.mono (fun q hq => by have h1 := BA.out.size; have h2 := HZ.out; have h3 : q < w.heap.size := hq; unfold Hid at h2; exact ⟨by omega, by show q ≠ w2.heap.size; omega⟩)))
         obtain ⟨w5, hw5, V5, b5, z5⟩ := boxedRow wF 24 [.slice none 0 0]
         have HV5 : Hid _ := V5
         have K5 : Hid (Kept (fun q => q < wF.heap.size) wF w5) := Kept.below b5
         have HZ5 : Hid (w5.heap.size = wF.heap.size + 1) := z5
         have HO5 : Hid (OwnsQ rBytes 53 w5 w5.heap.size (fun b => w5.heap.size ≤ b) (.slice none 0 0) (Tr.keepL (fun j => M.getD j false) s 0)) := OwnsQ.nilP _ _ _
         clear V5 b5 z5 HMi
         go_wp2_with fail
         go_loopw [14] (fun iv wr => ∃ (i : Nat) (oa : Option Addr) (ol oc : Nat), i ≤ s.length ∧ iv = .int .i64 i ∧ Hid (ol = (Tr.keepL (fun j => M.getD j false) s i).length) ∧ Hid (Row wr wF.heap.size 24 [.slice oa ol oc]) ∧ Hid (OwnsQ rBytes 53 wr w5.heap.size (fun b => w5.heap.size ≤ b) (.slice oa ol oc) (Tr.keepL (fun j => M.getD j false) s i)) ∧ Hid (Kept (fun q => q < wF.heap.size) wF wr)) (fun iv _ => s.length - (intOf iv).toNat)
         case atStart => exact ⟨0, none, 0, 0, Nat.zero_le _, rfl, rfl, HV5, HO5, K5⟩
         case round =>
          obtain ⟨i, oa, ol, oc, hi, rfl, HLo, HVo, HO, KZ⟩ := hrel
          clear HV5 HO5 K5 hw5
          obtain ⟨wG, hwG⟩ : ∃ v, v = wr := ⟨_, rfl⟩
          subst hwG
          have HVpz : Hid (Row wG w1.heap.size 24 [.slice none 0 0]) := HVpC.out.keep (KZ.out.block _ HVpC.out.lt)
          have HIz : Hid (Row wG w2.heap.size 4 (M.map Value.bool)) := HIi.out.keep (KZ.out.block _ HIi.out.lt)
          by_cases hil : i < s.length
          · have hiz : (i : Int) < (s.length : Int) := by omega
            have hkM : i < M.length := by rw [HML.out]; exact hil
            have hcn := HIz.out.cell (j := i) (v := .bool M[i]) (by rw [List.getElem?_map, List.getElem?_eq_getElem hkM]; rfl)
            have HGd : Hid (M.getD i false = M[i]) := by unfold Hid; rw [List.getD_eq_getElem?_getD, List.getElem?_eq_getElem hkM]; rfl
            have hol : ol ≤ i := by have h1 := HLo.out; have h2 := Tr.keepL_len (fun j => M.getD j false) s i; omega
            cases hb : M[i] with
            | false =>
              rw [hb] at hcn
              have HN : Hid (Tr.keepL (fun j => M.getD j false) s (i + 1) = Tr.keepL (fun j => M.getD j false) s i) := Tr.keepL_no (by rw [HGd.out]; exact hb)
              clear hb
              go_wp2
              go_roundw
              case rel => exact ⟨i + 1, oa, ol, oc, by omega, by go_num, by unfold Hid; rw [HN.out]; exact HLo.out, HVo, by unfold Hid; rw [HN.out]; exact HO.out, KZ⟩
              case measure => simp [intOf]; omega
            | true =>
              rw [hb] at hcn
              have HY : Hid (Tr.keepL (fun j => M.getD j false) s (i + 1) = Tr.keepL (fun j => M.getD j false) s i ++ List.replicate (i - (Tr.keepL (fun j => M.getD j false) s i).length) [] ++ [s[i]]) := Tr.keepL_yes (by rw [HGd.out]; exact hb) hil
              have HK0 : Hid (OwnsQ rBytes 53 wG w5.heap.size (fun b => w5.heap.size ≤ b) (.slice oa ol oc) (Tr.keepL (fun j => M.getD j false) s i ++ List.replicate 0 [])) := by unfold Hid; rw [List.replicate_zero, List.append_nil]; exact HO.out
              clear hb
              go_wp2_with fail
              go_loopw [] (fun wr => ∃ (k : Nat) (oa : Option Addr) (ol oc : Nat), Hid (ol = (Tr.keepL (fun j => M.getD j false) s i).length + k ∧ ol ≤ i) ∧ Hid (Row wr wF.heap.size 24 [.slice oa ol oc]) ∧ Hid (OwnsQ rBytes 53 wr w5.heap.size (fun b => w5.heap.size ≤ b) (.slice oa ol oc) (Tr.keepL (fun j => M.getD j false) s i ++ List.replicate k [])) ∧ Hid (Kept (fun q => q < wF.heap.size) wF wr)) (fun wr => i - lenK wr ⟨wF.heap.size, 0, none⟩)
              case atStart => exact ⟨0, oa, ol, oc, ⟨by rw [HLo.out]; rfl, hol⟩, HVo, HK0, KZ⟩
              case round =>
               obtain ⟨k, oa, ol, oc, HLk, HVk, HOk, KY⟩ := hrel
               have hol : ol ≤ i := HLk.out.2
               have o0 := HVk.out.cell (j := 0) rfl
               have hll : (Tr.keepL (fun j => M.getD j false) s i ++ List.replicate k ([] : List UInt8)).length = ol := by rw [List.length_append, List.length_replicate]; exact HLk.out.1.symm
               by_cases hlt : ol < i
               · have hltz : (ol : Int) < (i : Int) := by omega
                 obtain ⟨w6, hw6, V6, b6, z6⟩ := boxedRow wr 53 [.slice none 0 0]
                 have hsz : w5.heap.size ≤ w6.heap.size := by have h1 := HVk.out.lt; have h2 := HZ5.out; have h3 := b6.size; unfold Hid at h2; omega
                 obtain ⟨q7, d7, w7, hr7, ho7, g7, hv7⟩ := run_append_q (ty := 22) elem_sec8 (HOk.out.below b6) (ad := ⟨wr.heap.size, 0, none⟩) (c := [.slice none 0 0]) (x := []) (fun j u hj => by rw [Addr.add_lit, Nat.zero_add]; exact V6.cell hj) (rBytes_no _ _ _ rfl) (by show _ * 24 ≤ _; rw [hll]; omega) (by rw [hll]; unfold maxLen; omega) hsz
                 rw [hll] at hr7 ho7 hv7
                 have HR7 : Hid _ := hr7
                 have HO7 : Hid (OwnsQ rBytes 53 w7 w5.heap.size (fun b => w5.heap.size ≤ b) (.slice q7 (ol + 1) d7) (Tr.keepL (fun j => M.getD j false) s i ++ List.replicate (k + 1) [])) := by unfold Hid; rw [List.replicate_succ', ← List.append_assoc]; exact ho7
                 have k7 : Kept (fun q => q < w5.heap.size ∧ q < wr.heap.size) wr w7 := ((Kept.below b6).mono (fun q hq => hq.2)).grown g7 (fun q hq => Nat.lt_of_lt_of_le hq.2 b6.size) (fun q hs hq => by have h1 := (HOk.out.row q hs).1; have h2 := hq.1; omega)
                 have HV7 : Hid (Row w7 wF.heap.size 24 [.slice oa ol oc]) := HVk.out.keep (k7.block _ ⟨by have h2 := HZ5.out; unfold Hid at h2; show wF.heap.size < w5.heap.size; omega, HVk.out.lt⟩)
                 have HB7 : Hid (∀ b, (Value.slice q7 (ol + 1) d7).ownBlock = some b → w5.heap.size ≤ b) := fun b e => (HO7.out.row b e).1
                 obtain ⟨w8, hw8⟩ : ∃ v, w7.setCell ⟨wF.heap.size, 0, none⟩ (.slice q7 (ol + 1) d7) = v := ⟨_, rfl⟩
                 have KX : Kept (· ≠ wF.heap.size) w7 w8 := by rw [← hw8]; exact (Kept.refl _ w7).setCell (p := ⟨wF.heap.size, 0, none⟩) (fun h => h rfl) _
                 have HV8 : Hid (Row w8 wF.heap.size 24 [.slice q7 (ol + 1) d7]) := by rw [← hw8]; exact HV7.out.set 0 _
                 have HO8 : Hid (OwnsQ rBytes 53 w8 w5.heap.size (fun b => w5.heap.size ≤ b) (.slice q7 (ol + 1) d7) (Tr.keepL (fun j => M.getD j false) s i ++ List.replicate (k + 1) [])) := HO7.out.keepK8 KX (fun b hb => by have h2 := HZ5.out; have h3 : w5.heap.size ≤ b := hb; unfold Hid at h2; show b ≠ wF.heap.size; omega) (fun b e => by have h1 := HB7.out b e; have h2 := HZ5.out; unfold Hid at h2; show b ≠ wF.heap.size; omega)
                 have K8 : Hid (Kept (fun q => q < wF.heap.size) wF w8) := KY.out.trans ((k7.mono (fun q hq => by have h2 := HZ5.out; have h3 : q < wF.heap.size := hq; have h4 := KY.out.size; unfold Hid at h2; exact ⟨by omega, by omega⟩)).trans (KX.mono (fun q hq => by have h3 : q < wF.heap.size := hq; show q ≠ wF.heap.size; omega)))
                 have HMs : Hid (i - lenK w8 ⟨wF.heap.size, 0, none⟩ < i - lenK wr ⟨wF.heap.size, 0, none⟩) := by
                  unfold Hid
                  rw [lenK_of (HV8.out.cell (j := 0) rfl), lenK_of o0]
                  omega
                 have x0 := HV7.out.cell (j := 0) rfl
                 have x1 := HV7.out.frozen 0
                 clear hr7 ho7 g7 hv7 k7 KX V6 b6 z6 hll hsz
                 go_wp2_with (at_builtin; refine Lib.wpList_append_run _ rfl _ _ _ _ rfl _ _ rfl rfl _ _ HR7.out ?_)
                 go_roundw
                 case rel => exact ⟨k + 1, q7, ol + 1, d7, ⟨by have h := HLk.out.1; omega, by omega⟩, HV8, HO8, K8⟩
                 case measure => exact HMs.out
               · have hltz : ¬ (ol : Int) < (i : Int) := by omega
                 obtain ⟨wH, hwH⟩ : ∃ v, v = wr := ⟨_, rfl⟩
                 subst hwH
                 have HVtH : Hid (Row wH w.heap.size 24 [.slice pa s.length pc]) := HVtC.out.keep (KY.out.block _ HVtC.out.lt)
                 have HRH : Hid (rSectors.rd wH (fun b => b < w.heap.size) [.slice pa s.length pc] s) := Rep.kept HRC.out KY.out (fun q hq hl => hl)
                 have HYk : Hid (Tr.keepL (fun j => M.getD j false) s (i + 1) = Tr.keepL (fun j => M.getD j false) s i ++ List.replicate k [] ++ [s[i]]) := by
                  have h := HY.out
                  rw [show i - (Tr.keepL (fun j => M.getD j false) s i).length = k from by have h1 := HLk.out; omega] at h
                  exact h
                 obtain ⟨pb, poff, rfl, hpb, -, hat⟩ := rLists_at HRH.out (by omega)
                 obtain ⟨x, xl, xd, hx, hxl, hcell⟩ := hat i hil
                 obtain ⟨X, hX⟩ : ∃ X, X = s[i] := ⟨_, rfl⟩
                 rw [← hX] at hx hxl HYk
                 have HX : Hid (rBytes.rd wH (fun b => b < w.heap.size) [.slice x xl xd] X) := hx
                 have HPb : Hid (pb < w.heap.size) := hpb
                 have HXn : Hid (x = none → xd = 0) := (rL_len8 hx).2.2.1
                 have HLl : Hid ((Tr.keepL (fun j => M.getD j false) s i ++ List.replicate k ([] : List UInt8)).length = ol) := hll
                 have hol2 : ol ≤ 2048 := by omega
                 have HSz : Hid (w5.heap.size ≤ wH.heap.size) := by have h1 := HVk.out.lt; have h2 := HZ5.out; unfold Hid at h2 ⊢; omega
                 have HSee : Hid (∀ w', Below wH.heap.size wH w' → w'.cell? ⟨w.heap.size, 0, none⟩ = some (.slice (some ⟨pb, poff, none⟩) s.length pc) ∧ w'.cell? ⟨pb, poff + i, none⟩ = some (.slice x xl xd)) := fun w' hb => ⟨(HVtH.out.below hb).cell (j := 0) rfl, Kept.cell (Kept.below hb) (p := ⟨pb, poff + i, none⟩) (World.block_lt_of_cell? wH _ hcell) hcell⟩
                 have S0 := HSee.out _ (Below.refl _ wH).drew
                 clear hat hx hX hll hcell HVo HO HK0 hcn KZ HVpz HIz HY
                 go_wp2_with fail
                 clear o0
                 refine wp_region_held_drew (S := (fun w' : World => w'.cell? ⟨w.heap.size, 0, none⟩ = some (.slice (some ⟨pb, poff, none⟩) s.length pc) ∧ w'.cell? ⟨pb, poff + i, none⟩ = some (.slice x xl xd))) (by kernel_rfl) (S0) (fun hH => ?_)
                 refine tkM 0 _ rfl rfl ?_; simp only [sz, ss]
                 refine tkM 2 _ rfl rfl ?_; simp only [sz, ss]
                 refine tkM 3 _ rfl rfl ?_; simp only [sz, ss]
                 refine tkM 4 _ rfl rfl ?_; simp only [sz, ss]
                 refine tkM 5 _ rfl rfl ?_; simp only [sz, ss]
                 refine tkM 6 _ rfl rfl ?_; simp only [sz, ss]
                 refine rdL [1, 7] ?_
                 refine rcL (fun K hK => ?_) ?_
                 · have p1 := HVk.out.cell (j := 0) rfl
                   go_simp
                   clear p1
                   refine hK.out _ _ ?_ (fun hH => ?_)
                   · try dsimp only
                     first | exact S4 | exact S3 | exact S2 | exact S1 | exact S0
                   clear hK K
                   refine r1L 7 rfl fun K hK => ?_
                   · go_simp
                     go_at_call 27
                     refine Calls.mono (copied_u wH.drew x xl xd X (by have h := (rBytes_isB HX.out).2.2.2; omega) HXn.out (rBytes_isB (rBytes.keep HX.out (fun _ _ _ => rfl))).1) ?_
                     rintro e w50 ⟨g5, d5, rfl, hown, bd5⟩
                     have B5 : Hid (Below wH.heap.size wH w50) := (Below.refl _ wH).drew.trans bd5
                     have HC5 : Hid (rBytes.rd w50 (fun b => wH.heap.size ≤ b) [.slice g5 xl d5] X) := rBytes_owned hown (by have h := (rBytes_isB HX.out).2.2.2; omega)
                     have S1 := HSee.out _ B5.out
                     clear hown bd5
                     go_simp
                     refine hK.out _ _ ?_ (fun hH => ?_)
                     · try dsimp only
                       first | exact S4 | exact S3 | exact S2 | exact S1 | exact S0
                     clear hK K
                     refine r1L 8 rfl fun K hK => ?_
                     · go_simp
                       have BA0 : Hid (Below w50.heap.size w50 (w50.alloc (.cells #[.slice g5 xl d5] 53))) := (Below.refl _ _).alloc (Nat.le_refl _) _
                       have BA : Hid _ := on B5.out BA0.out
                       have S2 := HSee.out _ BA.out
                       refine hK.out _ _ ?_ (fun hH => ?_)
                       · try dsimp only
                         first | exact S4 | exact S3 | exact S2 | exact S1 | exact S0
                       clear hK K
                       refine r1L 9 rfl fun K hK => ?_
                       · refine step_append_q elem_sec8 rfl (.tmp 98) (.tmp 105) rfl w5.heap.size (fun b => w5.heap.size ≤ b) (.slice oa ol oc) (Tr.keepL (fun j => M.getD j false) s i ++ List.replicate k []) (by simp [Go.Act.eval]) (HOk.out.below BA.out) ⟨w50.heap.size, 0, none⟩ [.slice g5 xl d5] X (by simp [Go.Act.eval]) (fun j u hj => by rw [Addr.add_lit, Nat.zero_add]; exact (row_new w50 _ _).cell hj) ?_ ?_ ?_ ?_ ?_
                         · exact rBytes.weaken (Rep.below HC5.out BA0.out) (fun b hb _ => by
                            have h1 : wH.heap.size ≤ b := hb
                            exact ⟨by have h2 := HSz.out; show w5.heap.size ≤ b; omega, fun e => by have h2 := (HOk.out.row b e).2; omega⟩)
                         · rw [HLl.out]; show _ * 24 ≤ _; omega
                         · rw [HLl.out]; unfold maxLen; omega
                         · have h1 := BA.out.size; have h2 := HSz.out; omega
                         intro b6 d6 w6 ho6 g6 hown6
                         rw [HLl.out] at ho6 hown6 ⊢
                         have HO6 : Hid (OwnsQ rBytes 53 w6 w5.heap.size (fun b => w5.heap.size ≤ b) (.slice b6 (ol + 1) d6) (Tr.keepL (fun j => M.getD j false) s (i + 1))) := by unfold Hid; rw [HYk.out]; exact ho6
                         have K6 : Hid (Kept (fun q => q < w5.heap.size) wH w6) := ((Kept.below BA.out).mono (fun q hq => Nat.lt_of_lt_of_le hq HSz.out)).grown g6 (fun q hq => Nat.lt_of_lt_of_le (Nat.lt_of_lt_of_le hq HSz.out) BA.out.size) (fun q hs hq => by have h1 := (HOk.out.row q hs).1; have h2 : q < w5.heap.size := hq; omega)
                         have HV6 : Hid (Row w6 wF.heap.size 24 [.slice oa ol oc]) := HVk.out.keep (K6.out.block _ (by have h2 := HZ5.out; unfold Hid at h2; show wF.heap.size < w5.heap.size; omega))
                         have HB6 : Hid (∀ b, (Value.slice b6 (ol + 1) d6).ownBlock = some b → w5.heap.size ≤ b) := fun b e => (HO6.out.row b e).1
                         have S3 : w6.cell? ⟨w.heap.size, 0, none⟩ = some (.slice (some ⟨pb, poff, none⟩) s.length pc) ∧ w6.cell? ⟨pb, poff + i, none⟩ = some (.slice x xl xd) := ⟨(HVtH.out.keep (K6.out.block _ (by have h1 := HVtC.out.lt; have h2 := HZ5.out; unfold Hid at h2; show w.heap.size < w5.heap.size; omega))).cell (j := 0) rfl, Kept.cell K6.out (p := ⟨pb, poff + i, none⟩) (by have h1 := HPb.out; have h2 := HZ5.out; have h3 := HVtC.out.lt; unfold Hid at h1 h2; show pb < w5.heap.size; omega) S0.2⟩
                         clear ho6 g6 hown6
                         try go_simp
                         refine hK.out _ _ ?_ (fun hH => ?_)
                         · try dsimp only
                           first | exact S4 | exact S3 | exact S2 | exact S1 | exact S0
                         clear hK K
                         refine tkM 10 _ rfl rfl ?_; simp only [sz, ss]
                         refine r1L 11 rfl fun K hK => ?_
                         · have p1 := HV6.out.cell (j := 0) rfl
                           have f1 := HV6.out.frozen 0
                           have HV7 : Hid (Row (w6.setCell ⟨wF.heap.size, 0, none⟩ (.slice b6 (ol + 1) d6)) wF.heap.size 24 [.slice b6 (ol + 1) d6]) := HV6.out.set 0 _
                           have KX : Hid (Kept (· ≠ wF.heap.size) w6 (w6.setCell ⟨wF.heap.size, 0, none⟩ (.slice b6 (ol + 1) d6))) := (Kept.refl _ w6).setCell (p := ⟨wF.heap.size, 0, none⟩) (fun h => h rfl) _
                           have S4 : (w6.setCell ⟨wF.heap.size, 0, none⟩ (.slice b6 (ol + 1) d6)).cell? ⟨w.heap.size, 0, none⟩ = some (.slice (some ⟨pb, poff, none⟩) s.length pc) ∧ (w6.setCell ⟨wF.heap.size, 0, none⟩ (.slice b6 (ol + 1) d6)).cell? ⟨pb, poff + i, none⟩ = some (.slice x xl xd) := ⟨Kept.cell KX.out (p := ⟨w.heap.size, 0, none⟩) (by have h1 := HVtC.out.lt; show w.heap.size ≠ wF.heap.size; omega) S3.1, Kept.cell KX.out (p := ⟨pb, poff + i, none⟩) (by have h1 := HPb.out; have h3 := HVtC.out.lt; unfold Hid at h1; show pb ≠ wF.heap.size; omega) S3.2⟩
                           go_simp
                           clear p1 f1
                           refine hK.out _ _ ?_ (fun hH => ?_)
                           · try dsimp only
                             first | exact S4 | exact S3 | exact S2 | exact S1 | exact S0
                           clear hK K
                           refine wpAnyH_done (by kernel_rfl) ?_ _
                           clear hH S4 S3 S2 S1 S0
                           have HO7 : Hid (OwnsQ rBytes 53 (w6.setCell ⟨wF.heap.size, 0, none⟩ (.slice b6 (ol + 1) d6)) w5.heap.size (fun b => w5.heap.size ≤ b) (.slice b6 (ol + 1) d6) (Tr.keepL (fun j => M.getD j false) s (i + 1))) := HO6.out.keepK8 KX.out (fun b hb => by have h2 := HZ5.out; have h3 : w5.heap.size ≤ b := hb; unfold Hid at h2; show b ≠ wF.heap.size; omega) (fun b e => by have h1 := HB6.out b e; have h2 := HZ5.out; unfold Hid at h2; show b ≠ wF.heap.size; omega)
                           have HL7 : Hid (ol + 1 = (Tr.keepL (fun j => M.getD j false) s (i + 1)).length) := by unfold Hid; rw [HYk.out, List.length_append, HLl.out]; rfl
                           have K7 : Hid (Kept (fun q => q < wF.heap.size) wF (w6.setCell ⟨wF.heap.size, 0, none⟩ (.slice b6 (ol + 1) d6))) := KY.out.trans ((K6.out.mono (fun q hq => by have h2 := HZ5.out; have h3 : q < wF.heap.size := hq; unfold Hid at h2; show q < w5.heap.size; omega)).trans (KX.out.mono (fun q hq => by have h3 : q < wF.heap.size := hq; show q ≠ wF.heap.size; omega)))
                           go_wp2
                           go_roundw
                           case rel => exact ⟨i + 1, b6, ol + 1, d6, by omega, by go_num, HL7, HV7, HO7, K7⟩
                           case measure => simp [intOf]; omega
                 refine rcL (fun K hK => ?_) ?_
                 · go_simp
                   go_at_call 27
                   refine Calls.mono (copied_u wH.drew x xl xd X (by have h := (rBytes_isB HX.out).2.2.2; omega) HXn.out (rBytes_isB (rBytes.keep HX.out (fun _ _ _ => rfl))).1) ?_
                   rintro e w50 ⟨g5, d5, rfl, hown, bd5⟩
                   have B5 : Hid (Below wH.heap.size wH w50) := (Below.refl _ wH).drew.trans bd5
                   have HC5 : Hid (rBytes.rd w50 (fun b => wH.heap.size ≤ b) [.slice g5 xl d5] X) := rBytes_owned hown (by have h := (rBytes_isB HX.out).2.2.2; omega)
                   have S1 := HSee.out _ B5.out
                   clear hown bd5
                   go_simp
                   refine hK.out _ _ ?_ (fun hH => ?_)
                   · try dsimp only
                     first | exact S4 | exact S3 | exact S2 | exact S1 | exact S0
                   clear hK K
                   refine rdL [1, 8] ?_
                   refine rcL (fun K hK => ?_) ?_
                   · have p1 := (HVk.out.below B5.out).cell (j := 0) rfl
                     go_simp
                     clear p1
                     refine hK.out _ _ ?_ (fun hH => ?_)
                     · try dsimp only
                       first | exact S4 | exact S3 | exact S2 | exact S1 | exact S0
                     clear hK K
                     refine r1L 8 rfl fun K hK => ?_
                     · go_simp
                       have BA0 : Hid (Below w50.heap.size w50 (w50.alloc (.cells #[.slice g5 xl d5] 53))) := (Below.refl _ _).alloc (Nat.le_refl _) _
                       have BA : Hid _ := on B5.out BA0.out
                       have S2 := HSee.out _ BA.out
                       refine hK.out _ _ ?_ (fun hH => ?_)
                       · try dsimp only
                         first | exact S4 | exact S3 | exact S2 | exact S1 | exact S0
                       clear hK K
                       refine r1L 9 rfl fun K hK => ?_
                       · refine step_append_q elem_sec8 rfl (.tmp 98) (.tmp 105) rfl w5.heap.size (fun b => w5.heap.size ≤ b) (.slice oa ol oc) (Tr.keepL (fun j => M.getD j false) s i ++ List.replicate k []) (by simp [Go.Act.eval]) (HOk.out.below BA.out) ⟨w50.heap.size, 0, none⟩ [.slice g5 xl d5] X (by simp [Go.Act.eval]) (fun j u hj => by rw [Addr.add_lit, Nat.zero_add]; exact (row_new w50 _ _).cell hj) ?_ ?_ ?_ ?_ ?_
                         · exact rBytes.weaken (Rep.below HC5.out BA0.out) (fun b hb _ => by
                            have h1 : wH.heap.size ≤ b := hb
                            exact ⟨by have h2 := HSz.out; show w5.heap.size ≤ b; omega, fun e => by have h2 := (HOk.out.row b e).2; omega⟩)
                         · rw [HLl.out]; show _ * 24 ≤ _; omega
                         · rw [HLl.out]; unfold maxLen; omega
                         · have h1 := BA.out.size; have h2 := HSz.out; omega
                         intro b6 d6 w6 ho6 g6 hown6
                         rw [HLl.out] at ho6 hown6 ⊢
                         have HO6 : Hid (OwnsQ rBytes 53 w6 w5.heap.size (fun b => w5.heap.size ≤ b) (.slice b6 (ol + 1) d6) (Tr.keepL (fun j => M.getD j false) s (i + 1))) := by unfold Hid; rw [HYk.out]; exact ho6
                         have K6 : Hid (Kept (fun q => q < w5.heap.size) wH w6) := ((Kept.below BA.out).mono (fun q hq => Nat.lt_of_lt_of_le hq HSz.out)).grown g6 (fun q hq => Nat.lt_of_lt_of_le (Nat.lt_of_lt_of_le hq HSz.out) BA.out.size) (fun q hs hq => by have h1 := (HOk.out.row q hs).1; have h2 : q < w5.heap.size := hq; omega)
                         have HV6 : Hid (Row w6 wF.heap.size 24 [.slice oa ol oc]) := HVk.out.keep (K6.out.block _ (by have h2 := HZ5.out; unfold Hid at h2; show wF.heap.size < w5.heap.size; omega))
                         have HB6 : Hid (∀ b, (Value.slice b6 (ol + 1) d6).ownBlock = some b → w5.heap.size ≤ b) := fun b e => (HO6.out.row b e).1
                         have S3 : w6.cell? ⟨w.heap.size, 0, none⟩ = some (.slice (some ⟨pb, poff, none⟩) s.length pc) ∧ w6.cell? ⟨pb, poff + i, none⟩ = some (.slice x xl xd) := ⟨(HVtH.out.keep (K6.out.block _ (by have h1 := HVtC.out.lt; have h2 := HZ5.out; unfold Hid at h2; show w.heap.size < w5.heap.size; omega))).cell (j := 0) rfl, Kept.cell K6.out (p := ⟨pb, poff + i, none⟩) (by have h1 := HPb.out; have h2 := HZ5.out; have h3 := HVtC.out.lt; unfold Hid at h1 h2; show pb < w5.heap.size; omega) S0.2⟩
                         clear ho6 g6 hown6
                         try go_simp
                         refine hK.out _ _ ?_ (fun hH => ?_)
                         · try dsimp only
                           first | exact S4 | exact S3 | exact S2 | exact S1 | exact S0
                         clear hK K
                         refine tkM 10 _ rfl rfl ?_; simp only [sz, ss]
                         refine r1L 11 rfl fun K hK => ?_
                         · have p1 := HV6.out.cell (j := 0) rfl
                           have f1 := HV6.out.frozen 0
                           have HV7 : Hid (Row (w6.setCell ⟨wF.heap.size, 0, none⟩ (.slice b6 (ol + 1) d6)) wF.heap.size 24 [.slice b6 (ol + 1) d6]) := HV6.out.set 0 _
                           have KX : Hid (Kept (· ≠ wF.heap.size) w6 (w6.setCell ⟨wF.heap.size, 0, none⟩ (.slice b6 (ol + 1) d6))) := (Kept.refl _ w6).setCell (p := ⟨wF.heap.size, 0, none⟩) (fun h => h rfl) _
                           have S4 : (w6.setCell ⟨wF.heap.size, 0, none⟩ (.slice b6 (ol + 1) d6)).cell? ⟨w.heap.size, 0, none⟩ = some (.slice (some ⟨pb, poff, none⟩) s.length pc) ∧ (w6.setCell ⟨wF.heap.size, 0, none⟩ (.slice b6 (ol + 1) d6)).cell? ⟨pb, poff + i, none⟩ = some (.slice x xl xd) := ⟨Kept.cell KX.out (p := ⟨w.heap.size, 0, none⟩) (by have h1 := HVtC.out.lt; show w.heap.size ≠ wF.heap.size; omega) S3.1, Kept.cell KX.out (p := ⟨pb, poff + i, none⟩) (by have h1 := HPb.out; have h3 := HVtC.out.lt; unfold Hid at h1; show pb ≠ wF.heap.size; omega) S3.2⟩
                           go_simp
                           clear p1 f1
                           refine hK.out _ _ ?_ (fun hH => ?_)
                           · try dsimp only
                             first | exact S4 | exact S3 | exact S2 | exact S1 | exact S0
                           clear hK K
                           refine wpAnyH_done (by kernel_rfl) ?_ _
                           clear hH S4 S3 S2 S1 S0
                           have HO7 : Hid (OwnsQ rBytes 53 (w6.setCell ⟨wF.heap.size, 0, none⟩ (.slice b6 (ol + 1) d6)) w5.heap.size (fun b => w5.heap.size ≤ b) (.slice b6 (ol + 1) d6) (Tr.keepL (fun j => M.getD j false) s (i + 1))) := HO6.out.keepK8 KX.out (fun b hb => by have h2 := HZ5.out; have h3 : w5.heap.size ≤ b := hb; unfold Hid at h2; show b ≠ wF.heap.size; omega) (fun b e => by have h1 := HB6.out b e; have h2 := HZ5.out; unfold Hid at h2; show b ≠ wF.heap.size; omega)
                           have HL7 : Hid (ol + 1 = (Tr.keepL (fun j => M.getD j false) s (i + 1)).length) := by unfold Hid; rw [HYk.out, List.length_append, HLl.out]; rfl
                           have K7 : Hid (Kept (fun q => q < wF.heap.size) wF (w6.setCell ⟨wF.heap.size, 0, none⟩ (.slice b6 (ol + 1) d6))) := KY.out.trans ((K6.out.mono (fun q hq => by have h2 := HZ5.out; have h3 : q < wF.heap.size := hq; unfold Hid at h2; show q < w5.heap.size; omega)).trans (KX.out.mono (fun q hq => by have h3 : q < wF.heap.size := hq; show q ≠ wF.heap.size; omega)))
                           go_wp2
                           go_roundw
                           case rel => exact ⟨i + 1, b6, ol + 1, d6, by omega, by go_num, HL7, HV7, HO7, K7⟩
                           case measure => simp [intOf]; omega
                   refine rcL (fun K hK => ?_) ?_
                   · go_simp
                     have BA0 : Hid (Below w50.heap.size w50 (w50.alloc (.cells #[.slice g5 xl d5] 53))) := (Below.refl _ _).alloc (Nat.le_refl _) _
                     have BA : Hid _ := on B5.out BA0.out
                     have S2 := HSee.out _ BA.out
                     refine hK.out _ _ ?_ (fun hH => ?_)
                     · try dsimp only
                       first | exact S4 | exact S3 | exact S2 | exact S1 | exact S0
                     clear hK K
                     refine r1L 1 rfl fun K hK => ?_
                     · have p1 := (HVk.out.below BA.out).cell (j := 0) rfl
                       go_simp
                       clear p1
                       refine hK.out _ _ ?_ (fun hH => ?_)
                       · try dsimp only
                         first | exact S4 | exact S3 | exact S2 | exact S1 | exact S0
                       clear hK K
                       refine r1L 9 rfl fun K hK => ?_
                       · refine step_append_q elem_sec8 rfl (.tmp 98) (.tmp 105) rfl w5.heap.size (fun b => w5.heap.size ≤ b) (.slice oa ol oc) (Tr.keepL (fun j => M.getD j false) s i ++ List.replicate k []) (by simp [Go.Act.eval]) (HOk.out.below BA.out) ⟨w50.heap.size, 0, none⟩ [.slice g5 xl d5] X (by simp [Go.Act.eval]) (fun j u hj => by rw [Addr.add_lit, Nat.zero_add]; exact (row_new w50 _ _).cell hj) ?_ ?_ ?_ ?_ ?_
                         · exact rBytes.weaken (Rep.below HC5.out BA0.out) (fun b hb _ => by
                            have h1 : wH.heap.size ≤ b := hb
                            exact ⟨by have h2 := HSz.out; show w5.heap.size ≤ b; omega, fun e => by have h2 := (HOk.out.row b e).2; omega⟩)
                         · rw [HLl.out]; show _ * 24 ≤ _; omega
                         · rw [HLl.out]; unfold maxLen; omega
                         · have h1 := BA.out.size; have h2 := HSz.out; omega
                         intro b6 d6 w6 ho6 g6 hown6
                         rw [HLl.out] at ho6 hown6 ⊢
                         have HO6 : Hid (OwnsQ rBytes 53 w6 w5.heap.size (fun b => w5.heap.size ≤ b) (.slice b6 (ol + 1) d6) (Tr.keepL (fun j => M.getD j false) s (i + 1))) := by unfold Hid; rw [HYk.out]; exact ho6
                         have K6 : Hid (Kept (fun q => q < w5.heap.size) wH w6) := ((Kept.below BA.out).mono (fun q hq => Nat.lt_of_lt_of_le hq HSz.out)).grown g6 (fun q hq => Nat.lt_of_lt_of_le (Nat.lt_of_lt_of_le hq HSz.out) BA.out.size) (fun q hs hq => by have h1 := (HOk.out.row q hs).1; have h2 : q < w5.heap.size := hq; omega)
                         have HV6 : Hid (Row w6 wF.heap.size 24 [.slice oa ol oc]) := HVk.out.keep (K6.out.block _ (by have h2 := HZ5.out; unfold Hid at h2; show wF.heap.size < w5.heap.size; omega))
                         have HB6 : Hid (∀ b, (Value.slice b6 (ol + 1) d6).ownBlock = some b → w5.heap.size ≤ b) := fun b e => (HO6.out.row b e).1
                         have S3 : w6.cell? ⟨w.heap.size, 0, none⟩ = some (.slice (some ⟨pb, poff, none⟩) s.length pc) ∧ w6.cell? ⟨pb, poff + i, none⟩ = some (.slice x xl xd) := ⟨(HVtH.out.keep (K6.out.block _ (by have h1 := HVtC.out.lt; have h2 := HZ5.out; unfold Hid at h2; show w.heap.size < w5.heap.size; omega))).cell (j := 0) rfl, Kept.cell K6.out (p := ⟨pb, poff + i, none⟩) (by have h1 := HPb.out; have h2 := HZ5.out; have h3 := HVtC.out.lt; unfold Hid at h1 h2; show pb < w5.heap.size; omega) S0.2⟩
                         clear ho6 g6 hown6
                         try go_simp
                         refine hK.out _ _ ?_ (fun hH => ?_)
                         · try dsimp only
                           first | exact S4 | exact S3 | exact S2 | exact S1 | exact S0
                         clear hK K
                         refine tkM 10 _ rfl rfl ?_; simp only [sz, ss]
                         refine r1L 11 rfl fun K hK => ?_
                         · have p1 := HV6.out.cell (j := 0) rfl
                           have f1 := HV6.out.frozen 0
                           have HV7 : Hid (Row (w6.setCell ⟨wF.heap.size, 0, none⟩ (.slice b6 (ol + 1) d6)) wF.heap.size 24 [.slice b6 (ol + 1) d6]) := HV6.out.set 0 _
                           have KX : Hid (Kept (· ≠ wF.heap.size) w6 (w6.setCell ⟨wF.heap.size, 0, none⟩ (.slice b6 (ol + 1) d6))) := (Kept.refl _ w6).setCell (p := ⟨wF.heap.size, 0, none⟩) (fun h => h rfl) _
                           have S4 : (w6.setCell ⟨wF.heap.size, 0, none⟩ (.slice b6 (ol + 1) d6)).cell? ⟨w.heap.size, 0, none⟩ = some (.slice (some ⟨pb, poff, none⟩) s.length pc) ∧ (w6.setCell ⟨wF.heap.size, 0, none⟩ (.slice b6 (ol + 1) d6)).cell? ⟨pb, poff + i, none⟩ = some (.slice x xl xd) := ⟨Kept.cell KX.out (p := ⟨w.heap.size, 0, none⟩) (by have h1 := HVtC.out.lt; show w.heap.size ≠ wF.heap.size; omega) S3.1, Kept.cell KX.out (p := ⟨pb, poff + i, none⟩) (by have h1 := HPb.out; have h3 := HVtC.out.lt; unfold Hid at h1; show pb ≠ wF.heap.size; omega) S3.2⟩
                           go_simp
                           clear p1 f1
                           refine hK.out _ _ ?_ (fun hH => ?_)
                           · try dsimp only
                             first | exact S4 | exact S3 | exact S2 | exact S1 | exact S0
                           clear hK K
                           refine wpAnyH_done (by kernel_rfl) ?_ _
                           clear hH S4 S3 S2 S1 S0
                           have HO7 : Hid (OwnsQ rBytes 53 (w6.setCell ⟨wF.heap.size, 0, none⟩ (.slice b6 (ol + 1) d6)) w5.heap.size (fun b => w5.heap.size ≤ b) (.slice b6 (ol + 1) d6) (Tr.keepL (fun j => M.getD j false) s (i + 1))) := HO6.out.keepK8 KX.out (fun b hb => by have h2 := HZ5.out; have h3 : w5.heap.size ≤ b := hb; unfold Hid at h2; show b ≠ wF.heap.size; omega) (fun b e => by have h1 := HB6.out b e; have h2 := HZ5.out; unfold Hid at h2; show b ≠ wF.heap.size; omega)
                           have HL7 : Hid (ol + 1 = (Tr.keepL (fun j => M.getD j false) s (i + 1)).length) := by unfold Hid; rw [HYk.out, List.length_append, HLl.out]; rfl
                           have K7 : Hid (Kept (fun q => q < wF.heap.size) wF (w6.setCell ⟨wF.heap.size, 0, none⟩ (.slice b6 (ol + 1) d6))) := KY.out.trans ((K6.out.mono (fun q hq => by have h2 := HZ5.out; have h3 : q < wF.heap.size := hq; unfold Hid at h2; show q < w5.heap.size; omega)).trans (KX.out.mono (fun q hq => by have h3 : q < wF.heap.size := hq; show q ≠ wF.heap.size; omega)))
                           go_wp2
                           go_roundw
                           case rel => exact ⟨i + 1, b6, ol + 1, d6, by omega, by go_num, HL7, HV7, HO7, K7⟩
                           case measure => simp [intOf]; omega
                   exact rnL
                 exact rnL
          · obtain rfl : i = s.length := by omega
            have hiz : ¬ (s.length : Int) < (s.length : Int) := by omega
            have o0 := HVo.out.cell (j := 0) rfl
            have g0 := HVpz.out.cell (j := 0) rfl
            have g2 := HVpz.out.frozen 0
            go_wp2
            exact one_ret2 HVpz.out _ rfl rfl Tryz.underlying24 rfl (by kernel_rfl) (fun w' k' => ⟨oa, ol, oc, by rw [HEE.out]; rfl, by
             rw [HSk.out]
             have h := OwnsQ.rdP HO.out HLo.out.symm (by have h1 := Tr.keepL_len (fun j => M.getD j false) s s.length; have h2 := HLo.out; omega)
             exact rSectors.weaken (Rep.kept h k' (fun q hq hl => by have h1 := HZ.out; have h2 := HZ5.out; have h3 := HVpC.out.lt; have h5 : w5.heap.size ≤ q := hq; show q ≠ w1.heap.size; unfold Hid at h1 h2; omega)) (fun q hq _ => by have h2 := HZ5.out; have h3 := BW.out.size; have h5 : w5.heap.size ≤ q := hq; show w.heap.size ≤ q; unfold Hid at h2; omega),
             Kept.belowOf (Kept.toBelow ((Kept.below BW.out).trans (KZ.out.mono (fun q hq => by have h1 := BW.out.size; have h2 : q < w.heap.size := hq; show q < wF.heap.size; omega)))) k' (by have := HZ.out; omega)⟩)
end Go.Proofs.YtkbmadoaomoojaaGreat
