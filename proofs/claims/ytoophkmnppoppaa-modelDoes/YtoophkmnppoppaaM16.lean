/-
  Facts that the proof rests on, part 17. Conditions: those that each of them names.
-/
import Derived.Test.YtoophkmnppoppaaM10
import Derived.Test.YtoophkmnppoppaaM11
import Derived.Test.YtoophkmnppoppaaM15
namespace Go.Proofs.Ytoophkmnppoppaa
set_option maxHeartbeats 16000000
open Go.RowKit
set_option linter.unusedVariables false
set_option maxRecDepth 20000 in
theorem do_u (w : World) (P : Nat → Prop) (a b : Option Addr) (n c m d : Nat) (s : Sta) (hS : rSta.rd w P [.slice a n c, .slice b m d, .int .i64 s.2.2] s) (k at' N id : Int) (nm : ByteArray) (dt : List UInt8) (xa : Option Addr) (xn xc : Nat) (hX : rOpn.rd w P [.int .i64 k, .int .i64 at', .int .i64 N, .int .i64 id, .string nm, .slice xa xn xc] (k, at', N, id, nm, dt)) :
 Calls Try.prog 11 #[.agg #[.slice a n c, .slice b m d, .int .i64 s.2.2], .agg #[.int .i64 k, .int .i64 at', .int .i64 N, .int .i64 id, .string nm, .slice xa xn xc]] w fun e w' => ∃ (cs rs : List Value) (db : Nat), e = .returned (.tuple #[.agg cs.toArray, .agg rs.toArray]) ∧ rSta.rd w' (fun q => w.heap.size ≤ q ∧ q ≠ db) cs (Mo.doS s (k, at', N, id, nm, dt)) ∧ RplAt w' w.heap.size db rs (Mo.doR s (k, at', N, id, nm, dt)) ∧ w.heap.size ≤ db ∧ db < w'.heap.size ∧ Below w.heap.size w w' := by
 obtain ⟨a', n', c', b', m', d', e, hD, hL, hi⟩ := q0X hS
 simp only [List.cons.injEq, Value.slice.injEq, and_true] at e
 obtain ⟨⟨rfl, rfl, rfl⟩, rfl, rfl, rfl⟩ := e
 obtain ⟨a', n', c', e, hXd, h1, h2, h3, h4, hs⟩ := q1X hX
 simp only [List.cons.injEq, Value.slice.injEq, and_true, true_and] at e
 obtain ⟨rfl, rfl, rfl⟩ := e
 simp only at hXd h1 h2 h3 h4 hs
 obtain ⟨next, hnx⟩ : ∃ next, next = s.2.2 := ⟨_, rfl⟩
 rw [← hnx] at hS hi ⊢
 have HM : Hid (s.2.1.length = m) := (q0Q hL).1
 have HN : Hid (s.1.length = n) := (q0Q hD).1
 have HNx : Hid (s.2.2 = next) := hnx.symm
 obtain ⟨w0, hw0, V0, b0, z0⟩ := q0q w 31 [.slice a n c, .slice b m d, .int .i64 next]
 obtain ⟨w1, hw1, V1, b1, z1⟩ := q0q w0 33 [.int .i64 k, .int .i64 at', .int .i64 N, .int .i64 id, .string nm, .slice xa xn xc]
 obtain ⟨w2, hw2, V2, b2, z2⟩ := q0q w1 31 [.slice none 0 0, .slice none 0 0, .int .i64 0]
 obtain ⟨w3, hw3, V3, b3, z3⟩ := q0q w2 38 [.int .i64 0, .slice none 0 0, .int .i64 0, .slice none 0 0, .int .i64 0]
 have B3 : Hid (Below w.heap.size w w3) := on (on (on b0 b1) b2) b3
 have HV0 : Hid _ := ((V0.below b1).below b2).below b3
 have HV1 : Hid _ := (V1.below b2).below b3
 have HV2 : Hid (Row w3 w1.heap.size 31 [.slice none 0 0, .slice none 0 0, .int .i64 0]) := V2.below b3
 have HV3 : Hid _ := V3
 have HZ : Hid (w0.heap.size = w.heap.size + 1 ∧ w1.heap.size = w.heap.size + 2 ∧ w2.heap.size = w.heap.size + 3 ∧ w3.heap.size = w.heap.size + 4) := by unfold Hid; omega
 have HS3 : Hid (rSta.rd w3 P [.slice a n c, .slice b m d, .int .i64 next] s) := Rep.below hS B3.out
 have HL3 : Hid (rSnps.rd w3 P [.slice b m d] s.2.1) := Rep.below hL B3.out
 have HX3 : Hid (rOpn.rd w3 P [.int .i64 k, .int .i64 at', .int .i64 N, .int .i64 id, .string nm, .slice xa xn xc] (k, at', N, id, nm, dt)) := Rep.below hX B3.out
 have HXd3 : Hid (rBytes.rd w3 P [.slice xa xn xc] dt) := Rep.below hXd B3.out
 have HI2 : Hid (I64 at') := h2
 have HI3 : Hid (I64 N) := h3
 have HI4 : Hid (I64 id) := h4
 have HNs : Hid (nm.size ≤ maxLen) := hs
 have c0 := HV0.out.cell (j := 0) rfl
 have c1 := HV0.out.cell (j := 1) rfl
 have c2 := HV0.out.cell (j := 2) rfl
 clear hS hX hD hL hXd h1 h2 h3 h4 hs hi V0 V1 V2 V3 b0 b1 b2 b3 z0 z1 z2 z3 hnx
 have hcase : Mo.ok s = false ∨ Mo.ok s = true := by
  by_cases h : Mo.ok s = true
  · exact .inr h
  · exact .inl (Bool.eq_false_iff.2 h)
 rcases hcase with hok | hok
 · skip
   have HE : Hid (Mo.checkE s = 9) := Mo.checkE_nine hok
   have HdS : Hid (Mo.doS s (k, at', N, id, nm, dt) = ([], [], 0)) := by unfold Hid Mo.doS; rw [hok]; rfl
   have HdR : Hid (Mo.doR s (k, at', N, id, nm, dt) = (9, [], 0, [], 0)) := by unfold Hid Mo.doR; rw [hok]; rfl
   clear hok
   go_enter Try.func11, Try.ntmps11
   go_wp2_with fail
   go_at_call 16
   have hck := check_u w3 P a b n c m d s (by rw [HNx.out]; exact HS3.out)
   rw [HNx.out, HE.out] at hck
   refine Calls.mono hck ?_
   clear hck
   rintro e w4 ⟨rfl, b4⟩
   have B4 : Hid _ := b4
   have R2 : Hid _ := HV2.out.below b4
   have R3 : Hid _ := HV3.out.below b4
   have pc0 := R2.out.cell (j := 0) rfl
   have pc1 := R2.out.cell (j := 1) rfl
   have pc2 := R2.out.cell (j := 2) rfl
   have pf0 := R2.out.frozen 0
   have pf1 := R2.out.frozen 1
   have pf2 := R2.out.frozen 2
   obtain ⟨w5, hw5, V5, K5⟩ := R2.out.whole3 (.slice none 0 0) (.slice none 0 0) (.int .i64 0)
   have R5 : Hid (Row w5 w2.heap.size 38 [.int .i64 0, .slice none 0 0, .int .i64 0, .slice none 0 0, .int .i64 0]) := R3.out.keep (K5.block _ (by show w2.heap.size ≠ w1.heap.size; (have h7 := HZ.out; unfold Hid at h7; omega)))
   have sc0 := R5.out.cell (j := 0) rfl
   have sc1 := R5.out.cell (j := 1) rfl
   have sc2 := R5.out.cell (j := 2) rfl
   have sc3 := R5.out.cell (j := 3) rfl
   have sc4 := R5.out.cell (j := 4) rfl
   have sf0 := R5.out.frozen 0
   have sf1 := R5.out.frozen 1
   have sf2 := R5.out.frozen 2
   have sf3 := R5.out.frozen 3
   have sf4 := R5.out.frozen 4
   obtain ⟨w6, hw6, V6, K6⟩ := R5.out.whole5 (.int .i64 9) (.slice none 0 0) (.int .i64 0) (.slice none 0 0) (.int .i64 0)
   have HV6 : Hid _ := V6
   have HK : Hid (Kept (fun q => q ≠ w1.heap.size ∧ q ≠ w2.heap.size) w4 w6) := (K5.mono (fun q hq => hq.1)).trans (K6.mono (fun q hq => hq.2))
   have V7 : Hid (Row w6 w1.heap.size 31 [.slice none 0 0, .slice none 0 0, .int .i64 0]) := V5.keep (K6.block _ (by show w1.heap.size ≠ w2.heap.size; (have h7 := HZ.out; unfold Hid at h7; omega)))
   clear b4 V5 K5 V6 K6
   go_wp2
   refine bodyPost_ret (q0x rfl rfl rfl V7.out HV6.out Try.underlying31 rfl (by kernel_rfl) Try.underlying38 rfl (by kernel_rfl)) rfl ⟨_, _, w.heap.size, rfl, ?_, ?_, Nat.le_refl _, ?_, ?_⟩
   · rw [HdS.out]
     exact q2Q (s := ([], [], 0)) (q7j _ _) (q8x _ _) (by show (-9223372036854775808 : Int) ≤ 0 ∧ (0 : Int) ≤ 9223372036854775807; decide)
   · rw [HdR.out]
     exact ⟨none, 0, 0, none, 0, 0, rfl, q2x _ _, q0Z _ _⟩
   · have h1 := HK.out.size; have h2 := B4.out.size; (have h7 := HZ.out; unfold Hid at h7; omega)
   · exact Kept.toBelow (((Kept.below (B3.out.trans (B4.out.mono B3.out.size)))).trans (HK.out.mono (fun q hq => by (have h7 := HZ.out; unfold Hid at h7; omega))))
 · skip
   have HOk : Hid (Mo.ok s = true) := hok
   have HE : Hid (Mo.checkE s = 0) := Mo.checkE_zero.2 hok
   have HF : Hid _ := (Mo.ok_iff s).1 hok
   have hm8 : m ≤ 8 := by have h1 := HF.out.few; have h2 := HM.out; unfold Hid at h2; omega
   have hn6 : n ≤ 65536 := by have h1 := (Mo.okDisk_iff.1 HF.out.now).1; have h2 := HN.out; unfold Hid at h2; omega
   have HI1 : Hid (I64 next) := by have h1 := HF.out.low; have h2 := HF.out.high; have h3 := HNx.out; unfold Hid at *; unfold I64; omega
   obtain ⟨E, hE⟩ : ∃ E, E = Mo.opE s (k, at', N, id, nm, dt) := ⟨_, rfl⟩
   have HOe : Hid (Mo.opE s (k, at', N, id, nm, dt) = E) := hE.symm
   have HMay : Hid (Mo.mayE (n : Int) (Mo.named s.2.1) next (k, at', N, id, nm, dt) = E) := by unfold Hid; rw [hE]; unfold Mo.opE; rw [HN.out, HNx.out]
   clear hok hE
   go_enter Try.func11, Try.ntmps11
   go_wp2_with fail
   go_at_call 16
   have hck := check_u w3 P a b n c m d s (by rw [HNx.out]; exact HS3.out)
   rw [HNx.out, HE.out] at hck
   refine Calls.mono hck ?_
   clear hck
   rintro e w4 ⟨rfl, b4⟩
   have B4 : Hid _ := b4
   have c0 := (HV0.out.below b4).cell (j := 0) rfl
   have c1 := (HV0.out.below b4).cell (j := 1) rfl
   have c2 := (HV0.out.below b4).cell (j := 2) rfl
   clear b4
   go_wp2_with fail
   go_at_call 29
   have hcp := copiedS_u w4 P a b n c m d s (by rw [HNx.out]; exact Rep.below HS3.out B4.out) hm8
   rw [HNx.out] at hcp
   refine Calls.mono hcp ?_
   clear hcp
   rintro e w5 ⟨g, vs, v, rfl, hg1, hg2, hda, hown, b5⟩
   have HG : Hid (w4.heap.size ≤ g ∧ g < w5.heap.size ∧ w3.heap.size ≤ w4.heap.size) := ⟨hg1, hg2, B4.out.size⟩
   have HDo : Hid (DiskR w5 (fun q => g + 1 ≤ q ∧ v.ownBlock ≠ some q) g vs s.1) := hda.toRo hown
   have HOwn : Hid (Owns rSnp 66 w5 (g + 1) v s.2.1) := hown
   have B5 : Hid _ := on B4.out b5
   obtain ⟨va, vc, hv, -⟩ := Owns.rd (hs := by decide) hown (by show _ * 48 ≤ _; rw [HM.out]; omega)
   rw [HM.out] at hv
   obtain ⟨w6, hw6, V6, b6, z6⟩ := q0q w5 31 [.slice (some ⟨g, 0, none⟩) n n, v, .int .i64 next]
   have hV6 : Row w6 w5.heap.size 31 [.slice (some ⟨g, 0, none⟩) n n, v, .int .i64 next] := V6
   have HV6 : Hid _ := hV6
   have B6 : Hid _ := b6
   have B36 : Hid _ := on B5.out b6
   have HZ6 : Hid (w6.heap.size = w5.heap.size + 1) := z6
   subst hv
   have HSt : Hid (∀ w', Below w6.heap.size w6 w' → StAt w5 w' w5.heap.size g n vs (.slice va m vc) s) := fun w' hb => ⟨by rw [HNx.out]; exact HV6.out.below hb, HDo.out, HOwn.out, HN.out, HG.out.2.1, Nat.le_refl _, B6.out.trans (hb.mono B6.out.size)⟩
   have HSee : Hid (∀ w', Below w6.heap.size w6 w' → w'.cell? ⟨w.heap.size, 0, none⟩ = some (.slice a n c) ∧ w'.cell? ⟨w.heap.size, 1, none⟩ = some (.slice b m d) ∧ w'.cell? ⟨w.heap.size, 2, none⟩ = some (.int .i64 next) ∧ w'.cell? ⟨w0.heap.size, 0, none⟩ = some (.int .i64 k) ∧ w'.cell? ⟨w0.heap.size, 1, none⟩ = some (.int .i64 at') ∧ w'.cell? ⟨w0.heap.size, 2, none⟩ = some (.int .i64 N) ∧ w'.cell? ⟨w0.heap.size, 3, none⟩ = some (.int .i64 id) ∧ w'.cell? ⟨w0.heap.size, 4, none⟩ = some (.string nm) ∧ w'.cell? ⟨w0.heap.size, 5, none⟩ = some (.slice xa xn xc)) := fun w' hb => ⟨((HV0.out.below B36.out).below hb).cell (j := 0) rfl, ((HV0.out.below B36.out).below hb).cell (j := 1) rfl, ((HV0.out.below B36.out).below hb).cell (j := 2) rfl, ((HV1.out.below B36.out).below hb).cell (j := 0) rfl, ((HV1.out.below B36.out).below hb).cell (j := 1) rfl, ((HV1.out.below B36.out).below hb).cell (j := 2) rfl, ((HV1.out.below B36.out).below hb).cell (j := 3) rfl, ((HV1.out.below B36.out).below hb).cell (j := 4) rfl, ((HV1.out.below B36.out).below hb).cell (j := 5) rfl⟩
   clear hg1 hg2 hda hown b5 V6 b6 z6 hV6 c0 c1 c2
   go_wp2_with fail
   have S0 := HSee.out _ (Below.refl _ w6).drew
   go_cut [8] (fun t wx => ∃ rb, t = .pointer (some ⟨rb, 0, none⟩) ∧ w6.heap.size ≤ rb ∧ Hid (Row wx rb 38 [.int .i64 E, .slice none 0 0, .int .i64 0, .slice none 0 0, .int .i64 0]) ∧ Hid (Below w6.heap.size w6 wx))
   case first =>
    refine wp_region_held_drew (S := (fun w' : World => w'.cell? ⟨w.heap.size, 0, none⟩ = some (.slice a n c) ∧ w'.cell? ⟨w.heap.size, 1, none⟩ = some (.slice b m d) ∧ w'.cell? ⟨w.heap.size, 2, none⟩ = some (.int .i64 next) ∧ w'.cell? ⟨w0.heap.size, 0, none⟩ = some (.int .i64 k) ∧ w'.cell? ⟨w0.heap.size, 1, none⟩ = some (.int .i64 at') ∧ w'.cell? ⟨w0.heap.size, 2, none⟩ = some (.int .i64 N) ∧ w'.cell? ⟨w0.heap.size, 3, none⟩ = some (.int .i64 id) ∧ w'.cell? ⟨w0.heap.size, 4, none⟩ = some (.string nm) ∧ w'.cell? ⟨w0.heap.size, 5, none⟩ = some (.slice xa xn xc))) (by kernel_rfl) (S0) (fun hH => ?_)
    refine tkM 0 _ rfl rfl ?_; simp only [sz, ss]
    refine tkM 1 _ rfl rfl ?_; simp only [sz, ss]
    refine tkM 2 _ rfl rfl ?_; simp only [sz, ss]
    refine tkM 3 _ rfl rfl ?_; simp only [sz, ss]
    refine tkM 4 _ rfl rfl ?_; simp only [sz, ss]
    refine tkM 6 _ rfl rfl ?_; simp only [sz, ss]
    refine tkM 7 _ rfl rfl ?_; simp only [sz, ss]
    refine tkM 8 _ rfl rfl ?_; simp only [sz, ss]
    refine rdL [5, 11] ?_
    refine rcL (fun K hK => ?_) ?_
    · go_simp
      go_at_call 30
      refine Calls.mono (named_u w6.drew P b m d s.2.1 (rSnps.keep (Rep.below HL3.out B36.out) (fun _ _ _ => rfl)) (by omega)) ?_
      rintro e wn ⟨nb, nd, rfl, hrn, bn⟩
      have BN : Hid (Below w6.heap.size w6 wn) := (Below.refl _ w6).drew.trans bn
      have HRn : Hid (rNmds.rd wn (fun _ => True) [.slice nb m nd] (Mo.named s.2.1)) := rNmds.weaken hrn (fun _ _ _ => trivial)
      have SN := HSee.out _ BN.out
      clear hrn bn
      go_simp
      refine hK.out _ _ ?_ (fun hH => ?_)
      · try dsimp only
        first | exact SX | exact SM | exact SA | exact SN | exact S0
      clear hK K
      refine rdL [9, 11] ?_
      refine rcL (fun K hK => ?_) ?_
      · go_simp
        go_at_call 22
        refine Calls.mono (may_u wn (fun _ => True) nb m nd (Mo.named s.2.1) (HRn.out) (n : Int) next (by unfold I64; omega) (k, at', N, id, nm, dt) xa xn xc (rOpn.weaken (Rep.below (Rep.below HX3.out B36.out) BN.out) (fun _ _ _ => trivial))) ?_
        rw [HMay.out]
        rintro e wm ⟨rfl, bm⟩
        have BM : Hid _ := on BN.out bm
        have SM := HSee.out _ BM.out
        clear bm
        go_simp
        refine hK.out _ _ ?_ (fun hH => ?_)
        · try dsimp only
          first | exact SX | exact SM | exact SA | exact SN | exact S0
        clear hK K
        refine tkM 10 _ rfl rfl ?_; simp only [sz, ss]
        refine r1L 11 rfl fun K hK => ?_
        · go_simp
          obtain ⟨wA, hwA, vA, bA, zA⟩ := q0q wm 38 [.int .i64 0, .slice none 0 0, .int .i64 0, .slice none 0 0, .int .i64 0]
          obtain ⟨rb, hrb⟩ : ∃ rb, rb = wm.heap.size := ⟨_, rfl⟩
          have BA : Hid _ := on BM.out bA
          have HRB : Hid (w6.heap.size ≤ rb) := by rw [hrb]; exact (BM.out).size
          have hrb' : wm.heap.size = rb := hrb.symm
          have VA : Hid (Row wA rb 38 [.int .i64 0, .slice none 0 0, .int .i64 0, .slice none 0 0, .int .i64 0]) := by rw [hrb]; exact vA
          have SA := HSee.out _ BA.out
          have VM := VA
          have BM := BA
          clear vA zA hrb
          first | rw [hwA, hrb'] | (rw [hwA]; try rw [hrb'])
          go_simp
          refine hK.out _ _ ?_ (fun hH => ?_)
          · try dsimp only
            first | exact SX | exact SM | exact SA | exact SN | exact S0
          clear hK K
          refine r1L 12 rfl fun K hK => ?_
          · have r0 := VM.out.cell (j := 0) rfl
            have r1 := VM.out.cell (j := 1) rfl
            have r2 := VM.out.cell (j := 2) rfl
            have r3 := VM.out.cell (j := 3) rfl
            have r4 := VM.out.cell (j := 4) rfl
            have f0 := VM.out.frozen 0
            have f1 := VM.out.frozen 1
            have f2 := VM.out.frozen 2
            have f3 := VM.out.frozen 3
            have f4 := VM.out.frozen 4
            obtain ⟨wX, hwX, VX, KX⟩ := VM.out.whole5 (.int .i64 E) (.slice none 0 0) (.int .i64 0) (.slice none 0 0) (.int .i64 0)
            have BX : Hid (Below w6.heap.size w6 wX) := Kept.belowOf BA.out KX HRB.out
            have HVX : Hid _ := VX
            have SX := HSee.out _ BX.out
            clear VX KX
            go_simp
            refine hK.out _ _ ?_ (fun hH => ?_)
            · try dsimp only
              first | exact SX | exact SM | exact SA | exact SN | exact S0
            clear hK K
            refine wpAnyH_done (by kernel_rfl) ?_ _
            clear hH SX
            go_wp2_with fail
            go_meet
            exact ⟨rb, rfl, HRB.out, HVX, BX⟩
      refine rcL (fun K hK => ?_) ?_
      · go_simp
        obtain ⟨wA, hwA, vA, bA, zA⟩ := q0q wn 38 [.int .i64 0, .slice none 0 0, .int .i64 0, .slice none 0 0, .int .i64 0]
        obtain ⟨rb, hrb⟩ : ∃ rb, rb = wn.heap.size := ⟨_, rfl⟩
        have BA : Hid _ := on BN.out bA
        have HRB : Hid (w6.heap.size ≤ rb) := by rw [hrb]; exact (BN.out).size
        have hrb' : wn.heap.size = rb := hrb.symm
        have VA : Hid (Row wA rb 38 [.int .i64 0, .slice none 0 0, .int .i64 0, .slice none 0 0, .int .i64 0]) := by rw [hrb]; exact vA
        have SA := HSee.out _ BA.out
        clear vA zA hrb
        first | rw [hwA, hrb'] | (rw [hwA]; try rw [hrb'])
        go_simp
        refine hK.out _ _ ?_ (fun hH => ?_)
        · try dsimp only
          first | exact SX | exact SM | exact SA | exact SN | exact S0
        clear hK K
        refine r1L 9 rfl fun K hK => ?_
        · go_simp
          go_at_call 22
          refine Calls.mono (may_u wA (fun _ => True) nb m nd (Mo.named s.2.1) (Rep.below HRn.out bA) (n : Int) next (by unfold I64; omega) (k, at', N, id, nm, dt) xa xn xc (rOpn.weaken (Rep.below (Rep.below HX3.out B36.out) BA.out) (fun _ _ _ => trivial))) ?_
          rw [HMay.out]
          rintro e wm ⟨rfl, bm⟩
          have BM : Hid _ := on BA.out bm
          have SM := HSee.out _ BM.out
          have VM : Hid _ := VA.out.below bm
          clear bm
          go_simp
          refine hK.out _ _ ?_ (fun hH => ?_)
          · try dsimp only
            first | exact SX | exact SM | exact SA | exact SN | exact S0
          clear hK K
          refine tkM 10 _ rfl rfl ?_; simp only [sz, ss]
          refine r1L 12 rfl fun K hK => ?_
          · have r0 := VM.out.cell (j := 0) rfl
            have r1 := VM.out.cell (j := 1) rfl
            have r2 := VM.out.cell (j := 2) rfl
            have r3 := VM.out.cell (j := 3) rfl
            have r4 := VM.out.cell (j := 4) rfl
            have f0 := VM.out.frozen 0
            have f1 := VM.out.frozen 1
            have f2 := VM.out.frozen 2
            have f3 := VM.out.frozen 3
            have f4 := VM.out.frozen 4
            obtain ⟨wX, hwX, VX, KX⟩ := VM.out.whole5 (.int .i64 E) (.slice none 0 0) (.int .i64 0) (.slice none 0 0) (.int .i64 0)
            have BX : Hid (Below w6.heap.size w6 wX) := Kept.belowOf BM.out KX HRB.out
            have HVX : Hid _ := VX
            have SX := HSee.out _ BX.out
            clear VX KX
            go_simp
            refine hK.out _ _ ?_ (fun hH => ?_)
            · try dsimp only
              first | exact SX | exact SM | exact SA | exact SN | exact S0
            clear hK K
            refine wpAnyH_done (by kernel_rfl) ?_ _
            clear hH SX
            go_wp2_with fail
            go_meet
            exact ⟨rb, rfl, HRB.out, HVX, BX⟩
      exact rnL
    refine rcL (fun K hK => ?_) ?_
    · go_simp
      obtain ⟨wB, hwB, vB, bB, zB⟩ := q0q w6 38 [.int .i64 0, .slice none 0 0, .int .i64 0, .slice none 0 0, .int .i64 0]
      obtain ⟨rb, hrb⟩ : ∃ rb, rb = w6.heap.size := ⟨_, rfl⟩
      have BA : Hid (Below w6.heap.size w6 wB.drew) := Below.drew bB
      have HRB : Hid (w6.heap.size ≤ rb) := by rw [hrb]; exact Nat.le_refl _
      have hrb' : w6.heap.size = rb := hrb.symm
      have VA : Hid (Row wB.drew rb 38 [.int .i64 0, .slice none 0 0, .int .i64 0, .slice none 0 0, .int .i64 0]) := by rw [hrb]; exact vB.keep rfl
      have SA := HSee.out _ BA.out
      clear vB zB hrb bB
      rw [hwB, hrb']
      refine hK.out _ _ ?_ (fun hH => ?_)
      · try dsimp only
        first | exact SX | exact SM | exact SA | exact SN | exact S0
      clear hK K
      refine r1L 5 rfl fun K hK => ?_
      · go_simp
        go_at_call 30
        refine Calls.mono (named_u wB.drew P b m d s.2.1 (Rep.below (Rep.below HL3.out B36.out) BA.out) (by omega)) ?_
        rintro e wn ⟨nb, nd, rfl, hrn, bn⟩
        have BN : Hid _ := on BA.out bn
        have HRn : Hid (rNmds.rd wn (fun _ => True) [.slice nb m nd] (Mo.named s.2.1)) := rNmds.weaken hrn (fun _ _ _ => trivial)
        have SN := HSee.out _ BN.out
        have VA2 : Hid _ := VA.out.below bn
        clear hrn bn
        go_simp
        refine hK.out _ _ ?_ (fun hH => ?_)
        · try dsimp only
          first | exact SX | exact SM | exact SA | exact SN | exact S0
        clear hK K
        refine r1L 9 rfl fun K hK => ?_
        · go_simp
          go_at_call 22
          refine Calls.mono (may_u wn (fun _ => True) nb m nd (Mo.named s.2.1) (HRn.out) (n : Int) next (by unfold I64; omega) (k, at', N, id, nm, dt) xa xn xc (rOpn.weaken (Rep.below (Rep.below HX3.out B36.out) BN.out) (fun _ _ _ => trivial))) ?_
          rw [HMay.out]
          rintro e wm ⟨rfl, bm⟩
          have BM : Hid _ := on BN.out bm
          have SM := HSee.out _ BM.out
          have VM : Hid _ := VA2.out.below bm
          clear bm
          go_simp
          refine hK.out _ _ ?_ (fun hH => ?_)
          · try dsimp only
            first | exact SX | exact SM | exact SA | exact SN | exact S0
          clear hK K
          refine tkM 10 _ rfl rfl ?_; simp only [sz, ss]
          refine r1L 12 rfl fun K hK => ?_
          · have r0 := VM.out.cell (j := 0) rfl
            have r1 := VM.out.cell (j := 1) rfl
            have r2 := VM.out.cell (j := 2) rfl
            have r3 := VM.out.cell (j := 3) rfl
            have r4 := VM.out.cell (j := 4) rfl
            have f0 := VM.out.frozen 0
            have f1 := VM.out.frozen 1
            have f2 := VM.out.frozen 2
            have f3 := VM.out.frozen 3
            have f4 := VM.out.frozen 4
            obtain ⟨wX, hwX, VX, KX⟩ := VM.out.whole5 (.int .i64 E) (.slice none 0 0) (.int .i64 0) (.slice none 0 0) (.int .i64 0)
            have BX : Hid (Below w6.heap.size w6 wX) := Kept.belowOf BM.out KX HRB.out
            have HVX : Hid _ := VX
            have SX := HSee.out _ BX.out
            clear VX KX
            go_simp
            refine hK.out _ _ ?_ (fun hH => ?_)
            · try dsimp only
              first | exact SX | exact SM | exact SA | exact SN | exact S0
            clear hK K
            refine wpAnyH_done (by kernel_rfl) ?_ _
            clear hH SX
            go_wp2_with fail
            go_meet
            exact ⟨rb, rfl, HRB.out, HVX, BX⟩
    exact rnL
   case rest =>
    obtain ⟨rb, rfl, hrb, HR7, B7⟩ := hcut
    obtain ⟨w7, hw7⟩ : ∃ w7, w7 = wc := ⟨_, rfl⟩
    subst hw7
    have HRb : Hid (w6.heap.size ≤ rb ∧ rb < w7.heap.size) := ⟨hrb, HR7.out.lt⟩
    have HSt7 := HSt.out w7 B7.out
    have HS7 : Hid (StAt w5 w7 w5.heap.size g n vs (.slice va m vc) s) := HSt7
    have B37 : Hid (Below w3.heap.size w3 w7) := B36.out.trans (B7.out.mono B36.out.size)
    clear HSt7 S0 hrb
    have r0 := HR7.out.cell (j := 0) rfl
    by_cases hE : E = 0
    · subst hE
      have HdS : Hid (Mo.doS s (k, at', N, id, nm, dt) = Mo.chgS s (k, at', N, id, nm, dt)) := (Mo.do_done HOk.out HOe.out).1
      have HdR : Hid (Mo.doR s (k, at', N, id, nm, dt) = (0, Mo.chgD s (k, at', N, id, nm, dt), Mo.chgI s (k, at', N, id, nm, dt), Mo.chgL s (k, at', N, id, nm, dt), ((Mo.chgS s (k, at', N, id, nm, dt)).1.length : Int))) := (Mo.do_done HOk.out HOe.out).2
      have HX7 : Hid _ := HV1.out.below B37.out
      have xc0 := HX7.out.cell (j := 0) rfl
      have xc1 := HX7.out.cell (j := 1) rfl
      have xc2 := HX7.out.cell (j := 2) rfl
      have xc3 := HX7.out.cell (j := 3) rfl
      have xc4 := HX7.out.cell (j := 4) rfl
      have xc5 := HX7.out.cell (j := 5) rfl
      go_wp2_with fail
      go_at_call 31
      have HDN : Hid _ := done_u w5 w7 P w5.heap.size g n vs (.slice va m vc) s HS7.out HOk.out k at' N id nm dt xa xn xc (Rep.below HXd3.out B37.out) HI2.out HI3.out HI4.out HNs.out HOe.out
      refine Calls.mono HDN.out ?_
      rintro e w8 ⟨cs, da, dn, dc, la, ln, lc, db, rfl, R8, hst, hfr, hnm, hdb1, hdb2, k8⟩
      obtain ⟨qa, qn, qc, qb, qm, qd, rfl, hq1, hq2, hq3⟩ := q0X hst
      have HLq : Hid ((Mo.chgS s (k, at', N, id, nm, dt)).1.length = qn) := (q0Q hq1).1
      have HR8 : Hid _ := R8
      have K8 : Hid _ := k8
      have HSt8 : Hid (rSta.rd w8 (fun q => g ≤ q ∧ q ≠ w5.heap.size ∧ q ≠ db ∧ (q < w5.heap.size ∨ w7.heap.size ≤ q)) [.slice qa qn qc, .slice qb qm qd, .int .i64 (Mo.chgS s (k, at', N, id, nm, dt)).2.2] (Mo.chgS s (k, at', N, id, nm, dt))) := hst
      have HFr8 : Hid _ := hfr
      have HNm8 : Hid _ := hnm
      have HDb : Hid ((db = w5.heap.size ∨ w7.heap.size ≤ db) ∧ db < w8.heap.size) := ⟨hdb1, hdb2⟩
      have HX8 : Hid (I64 (Mo.chgS s (k, at', N, id, nm, dt)).2.2) := hq3
      clear hst hfr hnm hdb1 hdb2 k8 R8 hq1 hq2 hq3
      have HF8 := (HF.out.chg HOe.out)
      have hqn : qn ≤ 65536 := by have h1 := (Mo.okDisk_iff.1 HF8.now).1; have h2 := HLq.out; unfold Hid at h2; omega
      have HI8 : Hid (I64 (Mo.chgI s (k, at', N, id, nm, dt))) := by
       have h1 := HF.out.low; have h2 := HF.out.high
       unfold Hid Mo.chgI I64
       split <;> omega
      have RR8 : Hid (Row w8 rb 38 [.int .i64 0, .slice none 0 0, .int .i64 0, .slice none 0 0, .int .i64 0]) := HR7.out.keep (K8.out.block rb (by have h1 := HRb.out; have h2 := HZ6.out; unfold Hid at h1 h2; omega))
      generalize Mo.chgI s (k, at', N, id, nm, dt) = CI at *
      generalize (Mo.chgS s (k, at', N, id, nm, dt)).2.2 = QN at *
      have r0 := RR8.out.cell (j := 0) rfl
      have r1 := RR8.out.cell (j := 1) rfl
      have r2 := RR8.out.cell (j := 2) rfl
      have r3 := RR8.out.cell (j := 3) rfl
      have r4 := RR8.out.cell (j := 4) rfl
      have f0 := RR8.out.frozen 0
      have f1 := RR8.out.frozen 1
      have f2 := RR8.out.frozen 2
      have f3 := RR8.out.frozen 3
      have f4 := RR8.out.frozen 4
      obtain ⟨w9, hw9, V9, K9⟩ := RR8.out.whole5 (.int .i64 0) (.slice da dn dc) (.int .i64 CI) (.slice la ln lc) (.int .i64 0)
      have HR9 : Hid (Row w9 w5.heap.size 31 [.slice qa qn qc, .slice qb qm qd, .int .i64 QN]) := HR8.out.keep (K9.block _ (by have h1 := HRb.out; have h2 := HZ6.out; unfold Hid at h1 h2; show w5.heap.size ≠ rb; omega))
      have HK9 : Hid _ := K9
      have HR9r : Hid _ := V9
      have RA2 : Hid (Row w9 w1.heap.size 31 [.slice none 0 0, .slice none 0 0, .int .i64 0]) := ((HV2.out.below B37.out).keep (K8.out.block _ (by show w1.heap.size < _ ∧ w1.heap.size ≠ _ ∧ (w1.heap.size < g ∨ _ ≤ w1.heap.size); (have h7 := HZ.out; have h8 := HRb.out; have h9 := HZ6.out; have h10 := HG.out; unfold Hid at h7 h8 h9 h10; omega)))).keep (K9.block _ (by show w1.heap.size ≠ rb; (have h7 := HZ.out; have h8 := HRb.out; have h9 := HZ6.out; have h10 := HG.out; unfold Hid at h7 h8 h9 h10; omega)))
      have RA3 : Hid (Row w9 w2.heap.size 38 [.int .i64 0, .slice none 0 0, .int .i64 0, .slice none 0 0, .int .i64 0]) := ((HV3.out.below B37.out).keep (K8.out.block _ (by show w2.heap.size < _ ∧ w2.heap.size ≠ _ ∧ (w2.heap.size < g ∨ _ ≤ w2.heap.size); (have h7 := HZ.out; have h8 := HRb.out; have h9 := HZ6.out; have h10 := HG.out; unfold Hid at h7 h8 h9 h10; omega)))).keep (K9.block _ (by show w2.heap.size ≠ rb; (have h7 := HZ.out; have h8 := HRb.out; have h9 := HZ6.out; have h10 := HG.out; unfold Hid at h7 h8 h9 h10; omega)))
      clear V9 K9
      have u0 := HR9.out.cell (j := 0) rfl
      have u4 := HR9r.out.cell (j := 4) rfl
      have v4 := HR9r.out.frozen 4
      obtain ⟨wY, hwY⟩ : ∃ wY, w9.setCell ⟨rb, 4, none⟩ (.int .i64 (qn : Int)) = wY := ⟨_, rfl⟩
      have KY : Hid (Kept (· ≠ rb) w9 wY) := by rw [← hwY]; exact (Kept.refl _ w9).setCell (p := ⟨rb, 4, none⟩) (fun h => h rfl) _
      have YR : Hid (Row wY rb 38 [.int .i64 0, .slice da dn dc, .int .i64 CI, .slice la ln lc, .int .i64 (qn : Int)]) := by rw [← hwY]; exact HR9r.out.set 4 _
      have YS : Hid (Row wY w5.heap.size 31 [.slice qa qn qc, .slice qb qm qd, .int .i64 QN]) := HR9.out.keep (KY.out.block _ (by show w5.heap.size ≠ rb; (have h7 := HZ.out; have h8 := HRb.out; have h9 := HZ6.out; have h10 := HG.out; unfold Hid at h7 h8 h9 h10; omega)))
      have Y2 : Hid (Row wY w1.heap.size 31 [.slice none 0 0, .slice none 0 0, .int .i64 0]) := RA2.out.keep (KY.out.block _ (by show w1.heap.size ≠ rb; (have h7 := HZ.out; have h8 := HRb.out; have h9 := HZ6.out; have h10 := HG.out; unfold Hid at h7 h8 h9 h10; omega)))
      have Y3 : Hid (Row wY w2.heap.size 38 [.int .i64 0, .slice none 0 0, .int .i64 0, .slice none 0 0, .int .i64 0]) := RA3.out.keep (KY.out.block _ (by show w2.heap.size ≠ rb; (have h7 := HZ.out; have h8 := HRb.out; have h9 := HZ6.out; have h10 := HG.out; unfold Hid at h7 h8 h9 h10; omega)))
      have HSeeY : Hid (∀ w', Kept (fun q => q ≠ w1.heap.size ∧ q ≠ w2.heap.size) wY w' → w'.cell? ⟨w5.heap.size, 0, none⟩ = some (.slice qa qn qc) ∧ w'.cell? ⟨w5.heap.size, 1, none⟩ = some (.slice qb qm qd) ∧ w'.cell? ⟨w5.heap.size, 2, none⟩ = some (.int .i64 QN) ∧ w'.cell? ⟨rb, 0, none⟩ = some (.int .i64 0) ∧ w'.cell? ⟨rb, 1, none⟩ = some (.slice da dn dc) ∧ w'.cell? ⟨rb, 2, none⟩ = some (.int .i64 CI) ∧ w'.cell? ⟨rb, 3, none⟩ = some (.slice la ln lc) ∧ w'.cell? ⟨rb, 4, none⟩ = some (.int .i64 (qn : Int))) := fun w' hk => ⟨hk.cell (p := ⟨w5.heap.size, 0, none⟩) (by show w5.heap.size ≠ _ ∧ w5.heap.size ≠ _; (have h7 := HZ.out; have h8 := HRb.out; have h9 := HZ6.out; have h10 := HG.out; unfold Hid at h7 h8 h9 h10; omega)) (YS.out.cell (j := 0) rfl), hk.cell (p := ⟨w5.heap.size, 1, none⟩) (by show w5.heap.size ≠ _ ∧ w5.heap.size ≠ _; (have h7 := HZ.out; have h8 := HRb.out; have h9 := HZ6.out; have h10 := HG.out; unfold Hid at h7 h8 h9 h10; omega)) (YS.out.cell (j := 1) rfl), hk.cell (p := ⟨w5.heap.size, 2, none⟩) (by show w5.heap.size ≠ _ ∧ w5.heap.size ≠ _; (have h7 := HZ.out; have h8 := HRb.out; have h9 := HZ6.out; have h10 := HG.out; unfold Hid at h7 h8 h9 h10; omega)) (YS.out.cell (j := 2) rfl), hk.cell (p := ⟨rb, 0, none⟩) (by show rb ≠ _ ∧ rb ≠ _; (have h7 := HZ.out; have h8 := HRb.out; have h9 := HZ6.out; have h10 := HG.out; unfold Hid at h7 h8 h9 h10; omega)) (YR.out.cell (j := 0) rfl), hk.cell (p := ⟨rb, 1, none⟩) (by show rb ≠ _ ∧ rb ≠ _; (have h7 := HZ.out; have h8 := HRb.out; have h9 := HZ6.out; have h10 := HG.out; unfold Hid at h7 h8 h9 h10; omega)) (YR.out.cell (j := 1) rfl), hk.cell (p := ⟨rb, 2, none⟩) (by show rb ≠ _ ∧ rb ≠ _; (have h7 := HZ.out; have h8 := HRb.out; have h9 := HZ6.out; have h10 := HG.out; unfold Hid at h7 h8 h9 h10; omega)) (YR.out.cell (j := 2) rfl), hk.cell (p := ⟨rb, 3, none⟩) (by show rb ≠ _ ∧ rb ≠ _; (have h7 := HZ.out; have h8 := HRb.out; have h9 := HZ6.out; have h10 := HG.out; unfold Hid at h7 h8 h9 h10; omega)) (YR.out.cell (j := 3) rfl), hk.cell (p := ⟨rb, 4, none⟩) (by show rb ≠ _ ∧ rb ≠ _; (have h7 := HZ.out; have h8 := HRb.out; have h9 := HZ6.out; have h10 := HG.out; unfold Hid at h7 h8 h9 h10; omega)) (YR.out.cell (j := 4) rfl)⟩
      go_wp2_with fail
      have S0 := HSeeY.out _ (Kept.refl _ wY).drew
      refine wp_region_held_drew (S := (fun w' : World => w'.cell? ⟨w5.heap.size, 0, none⟩ = some (.slice qa qn qc) ∧ w'.cell? ⟨w5.heap.size, 1, none⟩ = some (.slice qb qm qd) ∧ w'.cell? ⟨w5.heap.size, 2, none⟩ = some (.int .i64 QN) ∧ w'.cell? ⟨rb, 0, none⟩ = some (.int .i64 0) ∧ w'.cell? ⟨rb, 1, none⟩ = some (.slice da dn dc) ∧ w'.cell? ⟨rb, 2, none⟩ = some (.int .i64 CI) ∧ w'.cell? ⟨rb, 3, none⟩ = some (.slice la ln lc) ∧ w'.cell? ⟨rb, 4, none⟩ = some (.int .i64 (qn : Int)))) (by kernel_rfl) (S0) (fun hH => ?_)
      refine tkM 0 _ rfl rfl ?_; simp only [sz, ss]
      refine rdL [1, 2] ?_
      refine rcL (fun K hK => ?_) ?_
      · have e0 := (HSeeY.out _ (Kept.refl _ wY).drew).2.2.2.1
        have e1 := (HSeeY.out _ (Kept.refl _ wY).drew).2.2.2.2.1
        have e2 := (HSeeY.out _ (Kept.refl _ wY).drew).2.2.2.2.2.1
        have e3 := (HSeeY.out _ (Kept.refl _ wY).drew).2.2.2.2.2.2.1
        have e4 := (HSeeY.out _ (Kept.refl _ wY).drew).2.2.2.2.2.2.2
        go_simp
        refine hK.out _ _ ?_ (fun hH => ?_)
        · try dsimp only
          first | exact SQ | exact SP | exact S0
        clear hK K
        refine r1L 2 rfl fun K hK => ?_
        · have P2 : Hid (Row wY w1.heap.size 31 [.slice none 0 0, .slice none 0 0, .int .i64 0]) := Y2.out
          have pc0 := P2.out.cell (j := 0) rfl
          have pc1 := P2.out.cell (j := 1) rfl
          have pc2 := P2.out.cell (j := 2) rfl
          have pf0 := P2.out.frozen 0
          have pf1 := P2.out.frozen 1
          have pf2 := P2.out.frozen 2
          obtain ⟨wP, hwP, VP, KP⟩ := P2.out.whole3 (.slice qa qn qc) (.slice qb qm qd) (.int .i64 QN)
          have HVP : Hid _ := VP
          have KP2 : Hid _ := KP
          have SP := HSeeY.out wP.drew (KP2.out.drew.mono (fun q hq => hq.1))
          clear VP KP
          go_simp
          refine hK.out _ _ ?_ (fun hH => ?_)
          · try dsimp only
            first | exact SQ | exact SP | exact S0
          clear hK K
          refine r1L 3 rfl fun K hK => ?_
          · have P3 : Hid (Row wP w2.heap.size 38 [.int .i64 0, .slice none 0 0, .int .i64 0, .slice none 0 0, .int .i64 0]) := Y3.out.keep (KP2.out.block _ (by show w2.heap.size ≠ w1.heap.size; (have h7 := HZ.out; unfold Hid at h7; omega)))
            have sc0 := P3.out.cell (j := 0) rfl
            have sc1 := P3.out.cell (j := 1) rfl
            have sc2 := P3.out.cell (j := 2) rfl
            have sc3 := P3.out.cell (j := 3) rfl
            have sc4 := P3.out.cell (j := 4) rfl
            have sf0 := P3.out.frozen 0
            have sf1 := P3.out.frozen 1
            have sf2 := P3.out.frozen 2
            have sf3 := P3.out.frozen 3
            have sf4 := P3.out.frozen 4
            obtain ⟨wQ, hwQ, VQ, KQ⟩ := P3.out.whole5 (.int .i64 0) (.slice da dn dc) (.int .i64 CI) (.slice la ln lc) (.int .i64 (qn : Int))
            have HVQ : Hid _ := VQ
            have KQ2 : Hid (Kept (fun q => q ≠ w1.heap.size ∧ q ≠ w2.heap.size) wY wQ.drew) := ((KP2.out.mono (fun q hq => hq.1)).trans (KQ.mono (fun q hq => hq.2))).drew
            have HVP2 : Hid (Row wQ.drew w1.heap.size 31 [.slice qa qn qc, .slice qb qm qd, .int .i64 QN]) := (HVP.out.keep (KQ.block _ (by show w1.heap.size ≠ w2.heap.size; (have h7 := HZ.out; unfold Hid at h7; omega)))).keep rfl
            have HVQd : Hid (Row wQ.drew w2.heap.size 38 [.int .i64 0, .slice da dn dc, .int .i64 CI, .slice la ln lc, .int .i64 (qn : Int)]) := HVQ.out.keep rfl
            have SQ := HSeeY.out _ KQ2.out
            clear VQ KQ
            go_simp
            refine hK.out _ _ ?_ (fun hH => ?_)
            · try dsimp only
              first | exact SQ | exact SP | exact S0
            clear hK K
            refine wpAnyH_done (by kernel_rfl) ?_ _
            clear hH SQ
            go_wp2
            refine bodyPost_ret (q0x rfl rfl rfl HVP2.out HVQd.out Try.underlying31 rfl (by kernel_rfl) Try.underlying38 rfl (by kernel_rfl)) rfl ⟨_, _, db, rfl, ?_, ?_, ?_, ?_, ?_⟩
            · rw [HdS.out]
              exact rSta.weaken (Rep.kept (Rep.kept (Rep.kept HSt8.out HK9.out (fun q hq _ => by have h2 := hq.2.2.2; have h1 := hq.2.1; show q ≠ rb; (have h7 := HZ.out; have h8 := HRb.out; have h9 := HZ6.out; have h10 := HG.out; unfold Hid at h7 h8 h9 h10; omega))) KY.out (fun q hq _ => by have h2 := hq.2.2.2; have h1 := hq.2.1; show q ≠ rb; (have h7 := HZ.out; have h8 := HRb.out; have h9 := HZ6.out; have h10 := HG.out; unfold Hid at h7 h8 h9 h10; omega))) KQ2.out (fun q hq _ => by have h2 := hq.1; show q ≠ _ ∧ q ≠ _; (have h7 := HZ.out; have h8 := HRb.out; have h9 := HZ6.out; have h10 := HG.out; unfold Hid at h7 h8 h9 h10; omega))) (fun q hq _ => ⟨by have h2 := hq.1; (have h7 := HZ.out; have h8 := HRb.out; have h9 := HZ6.out; have h10 := HG.out; unfold Hid at h7 h8 h9 h10; omega), hq.2.2.1⟩)
            · rw [HdR.out]
              refine ⟨da, dn, dc, la, ln, lc, by rw [← HLq.out], Rep.kept (Rep.kept (Rep.kept HFr8.out HK9.out (fun q hq _ => by have h2 : q = db := hq; have h1 := HDb.out; unfold Hid at h1; show q ≠ rb; (have h7 := HZ.out; have h8 := HRb.out; have h9 := HZ6.out; have h10 := HG.out; unfold Hid at h7 h8 h9 h10; omega))) KY.out (fun q hq _ => by have h2 : q = db := hq; have h1 := HDb.out; unfold Hid at h1; show q ≠ rb; (have h7 := HZ.out; have h8 := HRb.out; have h9 := HZ6.out; have h10 := HG.out; unfold Hid at h7 h8 h9 h10; omega))) KQ2.out (fun q hq _ => by have h2 : q = db := hq; have h1 := HDb.out; unfold Hid at h1; show q ≠ _ ∧ q ≠ _; (have h7 := HZ.out; have h8 := HRb.out; have h9 := HZ6.out; have h10 := HG.out; unfold Hid at h7 h8 h9 h10; omega)), rNmds.weaken (Rep.kept (Rep.kept (Rep.kept HNm8.out HK9.out (fun q hq _ => by have h2 : w7.heap.size ≤ q := hq; show q ≠ rb; (have h7 := HZ.out; have h8 := HRb.out; have h9 := HZ6.out; have h10 := HG.out; unfold Hid at h7 h8 h9 h10; omega))) KY.out (fun q hq _ => by have h2 : w7.heap.size ≤ q := hq; show q ≠ rb; (have h7 := HZ.out; have h8 := HRb.out; have h9 := HZ6.out; have h10 := HG.out; unfold Hid at h7 h8 h9 h10; omega))) KQ2.out (fun q hq _ => by have h2 : w7.heap.size ≤ q := hq; show q ≠ _ ∧ q ≠ _; (have h7 := HZ.out; have h8 := HRb.out; have h9 := HZ6.out; have h10 := HG.out; unfold Hid at h7 h8 h9 h10; omega))) (fun q hq _ => by have h2 : w7.heap.size ≤ q := hq; (have h7 := HZ.out; have h8 := HRb.out; have h9 := HZ6.out; have h10 := HG.out; unfold Hid at h7 h8 h9 h10; omega))⟩
            · have h1 := HDb.out; unfold Hid at h1; (have h7 := HZ.out; have h8 := HRb.out; have h9 := HZ6.out; have h10 := HG.out; unfold Hid at h7 h8 h9 h10; omega)
            · exact Nat.lt_of_lt_of_le HDb.out.2 (Nat.le_trans HK9.out.size (Nat.le_trans KY.out.size KQ2.out.size))
            · exact Kept.toBelow ((Kept.below (B3.out.trans (B37.out.mono B3.out.size))).trans ((K8.out.mono (fun q hq => by have hq0 : q < w.heap.size := hq; (have h7 := HZ.out; have h8 := HRb.out; have h9 := HZ6.out; have h10 := HG.out; unfold Hid at h7 h8 h9 h10; omega))).trans ((HK9.out.mono (fun q hq => by have hq0 : q < w.heap.size := hq; (have h7 := HZ.out; have h8 := HRb.out; have h9 := HZ6.out; have h10 := HG.out; unfold Hid at h7 h8 h9 h10; omega))).trans ((KY.out.mono (fun q hq => by have hq0 : q < w.heap.size := hq; (have h7 := HZ.out; have h8 := HRb.out; have h9 := HZ6.out; have h10 := HG.out; unfold Hid at h7 h8 h9 h10; omega))).trans (KQ2.out.mono (fun q hq => by have hq0 : q < w.heap.size := hq; (have h7 := HZ.out; have h8 := HRb.out; have h9 := HZ6.out; have h10 := HG.out; unfold Hid at h7 h8 h9 h10; omega)))))))
      refine rcL (fun K hK => ?_) ?_
      · have P2 : Hid (Row wY w1.heap.size 31 [.slice none 0 0, .slice none 0 0, .int .i64 0]) := Y2.out
        have pc0 := P2.out.cell (j := 0) rfl
        have pc1 := P2.out.cell (j := 1) rfl
        have pc2 := P2.out.cell (j := 2) rfl
        have pf0 := P2.out.frozen 0
        have pf1 := P2.out.frozen 1
        have pf2 := P2.out.frozen 2
        obtain ⟨wP, hwP, VP, KP⟩ := P2.out.whole3 (.slice qa qn qc) (.slice qb qm qd) (.int .i64 QN)
        have HVP : Hid _ := VP
        have KP2 : Hid _ := KP
        have SP := HSeeY.out wP.drew (KP2.out.drew.mono (fun q hq => hq.1))
        clear VP KP
        go_simp
        refine hK.out _ _ ?_ (fun hH => ?_)
        · try dsimp only
          first | exact SQ | exact SP | exact S0
        clear hK K
        refine r1L 1 rfl fun K hK => ?_
        · have e0 := SP.2.2.2.1
          have e1 := SP.2.2.2.2.1
          have e2 := SP.2.2.2.2.2.1
          have e3 := SP.2.2.2.2.2.2.1
          have e4 := SP.2.2.2.2.2.2.2
          go_simp
          refine hK.out _ _ ?_ (fun hH => ?_)
          · try dsimp only
            first | exact SQ | exact SP | exact S0
          clear hK K
          refine r1L 3 rfl fun K hK => ?_
          · have P3 : Hid (Row wP w2.heap.size 38 [.int .i64 0, .slice none 0 0, .int .i64 0, .slice none 0 0, .int .i64 0]) := Y3.out.keep (KP2.out.block _ (by show w2.heap.size ≠ w1.heap.size; (have h7 := HZ.out; unfold Hid at h7; omega)))
            have sc0 := P3.out.cell (j := 0) rfl
            have sc1 := P3.out.cell (j := 1) rfl
            have sc2 := P3.out.cell (j := 2) rfl
            have sc3 := P3.out.cell (j := 3) rfl
            have sc4 := P3.out.cell (j := 4) rfl
            have sf0 := P3.out.frozen 0
            have sf1 := P3.out.frozen 1
            have sf2 := P3.out.frozen 2
            have sf3 := P3.out.frozen 3
            have sf4 := P3.out.frozen 4
            obtain ⟨wQ, hwQ, VQ, KQ⟩ := P3.out.whole5 (.int .i64 0) (.slice da dn dc) (.int .i64 CI) (.slice la ln lc) (.int .i64 (qn : Int))
            have HVQ : Hid _ := VQ
            have KQ2 : Hid (Kept (fun q => q ≠ w1.heap.size ∧ q ≠ w2.heap.size) wY wQ.drew) := ((KP2.out.mono (fun q hq => hq.1)).trans (KQ.mono (fun q hq => hq.2))).drew
            have HVP2 : Hid (Row wQ.drew w1.heap.size 31 [.slice qa qn qc, .slice qb qm qd, .int .i64 QN]) := (HVP.out.keep (KQ.block _ (by show w1.heap.size ≠ w2.heap.size; (have h7 := HZ.out; unfold Hid at h7; omega)))).keep rfl
            have HVQd : Hid (Row wQ.drew w2.heap.size 38 [.int .i64 0, .slice da dn dc, .int .i64 CI, .slice la ln lc, .int .i64 (qn : Int)]) := HVQ.out.keep rfl
            have SQ := HSeeY.out _ KQ2.out
            clear VQ KQ
            go_simp
            refine hK.out _ _ ?_ (fun hH => ?_)
            · try dsimp only
              first | exact SQ | exact SP | exact S0
            clear hK K
            refine wpAnyH_done (by kernel_rfl) ?_ _
            clear hH SQ
            go_wp2
            refine bodyPost_ret (q0x rfl rfl rfl HVP2.out HVQd.out Try.underlying31 rfl (by kernel_rfl) Try.underlying38 rfl (by kernel_rfl)) rfl ⟨_, _, db, rfl, ?_, ?_, ?_, ?_, ?_⟩
            · rw [HdS.out]
              exact rSta.weaken (Rep.kept (Rep.kept (Rep.kept HSt8.out HK9.out (fun q hq _ => by have h2 := hq.2.2.2; have h1 := hq.2.1; show q ≠ rb; (have h7 := HZ.out; have h8 := HRb.out; have h9 := HZ6.out; have h10 := HG.out; unfold Hid at h7 h8 h9 h10; omega))) KY.out (fun q hq _ => by have h2 := hq.2.2.2; have h1 := hq.2.1; show q ≠ rb; (have h7 := HZ.out; have h8 := HRb.out; have h9 := HZ6.out; have h10 := HG.out; unfold Hid at h7 h8 h9 h10; omega))) KQ2.out (fun q hq _ => by have h2 := hq.1; show q ≠ _ ∧ q ≠ _; (have h7 := HZ.out; have h8 := HRb.out; have h9 := HZ6.out; have h10 := HG.out; unfold Hid at h7 h8 h9 h10; omega))) (fun q hq _ => ⟨by have h2 := hq.1; (have h7 := HZ.out; have h8 := HRb.out; have h9 := HZ6.out; have h10 := HG.out; unfold Hid at h7 h8 h9 h10; omega), hq.2.2.1⟩)
            · rw [HdR.out]
              refine ⟨da, dn, dc, la, ln, lc, by rw [← HLq.out], Rep.kept (Rep.kept (Rep.kept HFr8.out HK9.out (fun q hq _ => by have h2 : q = db := hq; have h1 := HDb.out; unfold Hid at h1; show q ≠ rb; (have h7 := HZ.out; have h8 := HRb.out; have h9 := HZ6.out; have h10 := HG.out; unfold Hid at h7 h8 h9 h10; omega))) KY.out (fun q hq _ => by have h2 : q = db := hq; have h1 := HDb.out; unfold Hid at h1; show q ≠ rb; (have h7 := HZ.out; have h8 := HRb.out; have h9 := HZ6.out; have h10 := HG.out; unfold Hid at h7 h8 h9 h10; omega))) KQ2.out (fun q hq _ => by have h2 : q = db := hq; have h1 := HDb.out; unfold Hid at h1; show q ≠ _ ∧ q ≠ _; (have h7 := HZ.out; have h8 := HRb.out; have h9 := HZ6.out; have h10 := HG.out; unfold Hid at h7 h8 h9 h10; omega)), rNmds.weaken (Rep.kept (Rep.kept (Rep.kept HNm8.out HK9.out (fun q hq _ => by have h2 : w7.heap.size ≤ q := hq; show q ≠ rb; (have h7 := HZ.out; have h8 := HRb.out; have h9 := HZ6.out; have h10 := HG.out; unfold Hid at h7 h8 h9 h10; omega))) KY.out (fun q hq _ => by have h2 : w7.heap.size ≤ q := hq; show q ≠ rb; (have h7 := HZ.out; have h8 := HRb.out; have h9 := HZ6.out; have h10 := HG.out; unfold Hid at h7 h8 h9 h10; omega))) KQ2.out (fun q hq _ => by have h2 : w7.heap.size ≤ q := hq; show q ≠ _ ∧ q ≠ _; (have h7 := HZ.out; have h8 := HRb.out; have h9 := HZ6.out; have h10 := HG.out; unfold Hid at h7 h8 h9 h10; omega))) (fun q hq _ => by have h2 : w7.heap.size ≤ q := hq; (have h7 := HZ.out; have h8 := HRb.out; have h9 := HZ6.out; have h10 := HG.out; unfold Hid at h7 h8 h9 h10; omega))⟩
            · have h1 := HDb.out; unfold Hid at h1; (have h7 := HZ.out; have h8 := HRb.out; have h9 := HZ6.out; have h10 := HG.out; unfold Hid at h7 h8 h9 h10; omega)
            · exact Nat.lt_of_lt_of_le HDb.out.2 (Nat.le_trans HK9.out.size (Nat.le_trans KY.out.size KQ2.out.size))
            · exact Kept.toBelow ((Kept.below (B3.out.trans (B37.out.mono B3.out.size))).trans ((K8.out.mono (fun q hq => by have hq0 : q < w.heap.size := hq; (have h7 := HZ.out; have h8 := HRb.out; have h9 := HZ6.out; have h10 := HG.out; unfold Hid at h7 h8 h9 h10; omega))).trans ((HK9.out.mono (fun q hq => by have hq0 : q < w.heap.size := hq; (have h7 := HZ.out; have h8 := HRb.out; have h9 := HZ6.out; have h10 := HG.out; unfold Hid at h7 h8 h9 h10; omega))).trans ((KY.out.mono (fun q hq => by have hq0 : q < w.heap.size := hq; (have h7 := HZ.out; have h8 := HRb.out; have h9 := HZ6.out; have h10 := HG.out; unfold Hid at h7 h8 h9 h10; omega))).trans (KQ2.out.mono (fun q hq => by have hq0 : q < w.heap.size := hq; (have h7 := HZ.out; have h8 := HRb.out; have h9 := HZ6.out; have h10 := HG.out; unfold Hid at h7 h8 h9 h10; omega)))))))
      exact rnL
    · have HdS : Hid (Mo.doS s (k, at', N, id, nm, dt) = s) := by unfold Hid Mo.doS; rw [if_pos HOk.out, if_neg (by rw [HOe.out]; exact hE)]
      have HdR : Hid (Mo.doR s (k, at', N, id, nm, dt) = (E, [], 0, [], (s.1.length : Int))) := by unfold Hid Mo.doR; rw [if_pos HOk.out, if_neg (by rw [HOe.out]; exact hE), HOe.out]
      have HBox7 : Hid (Row w7 w5.heap.size 31 [.slice (some ⟨g, 0, none⟩) n n, .slice va m vc, .int .i64 next]) := by have h := HS7.out.box; rw [HNx.out] at h; exact h
      have HDk7 : Hid (DiskR w7 (fun q => g + 1 ≤ q ∧ q < w5.heap.size) g vs s.1) := (HDo.out.weaken (fun q hq hl => ⟨hq.1, hl⟩)).below HS7.out.bel
      have HSn7 : Hid (rSnps.rd w7 (fun q => g + 1 ≤ q ∧ q < w5.heap.size) [.slice va m vc] s.2.1) := by
       obtain ⟨a9, c9, e9, h9⟩ := HS7.out.list HF.out.few
       exact Rep.below h9 HS7.out.bel
      have RA2 : Hid _ := HV2.out.below B37.out
      have RA3 : Hid _ := HV3.out.below B37.out
      have u0 := HBox7.out.cell (j := 0) rfl
      have u4 := HR7.out.cell (j := 4) rfl
      have v4 := HR7.out.frozen 4
      obtain ⟨wY, hwY⟩ : ∃ wY, w7.setCell ⟨rb, 4, none⟩ (.int .i64 (n : Int)) = wY := ⟨_, rfl⟩
      have KY : Hid (Kept (· ≠ rb) w7 wY) := by rw [← hwY]; exact (Kept.refl _ w7).setCell (p := ⟨rb, 4, none⟩) (fun h => h rfl) _
      have YR : Hid (Row wY rb 38 [.int .i64 E, .slice none 0 0, .int .i64 0, .slice none 0 0, .int .i64 (n : Int)]) := by rw [← hwY]; exact HR7.out.set 4 _
      have YS : Hid (Row wY w5.heap.size 31 [.slice (some ⟨g, 0, none⟩) n n, .slice va m vc, .int .i64 next]) := HBox7.out.keep (KY.out.block _ (by show w5.heap.size ≠ rb; (have h7 := HZ.out; have h8 := HRb.out; have h9 := HZ6.out; have h10 := HG.out; unfold Hid at h7 h8 h9 h10; omega)))
      have Y2 : Hid (Row wY w1.heap.size 31 [.slice none 0 0, .slice none 0 0, .int .i64 0]) := RA2.out.keep (KY.out.block _ (by show w1.heap.size ≠ rb; (have h7 := HZ.out; have h8 := HRb.out; have h9 := HZ6.out; have h10 := HG.out; unfold Hid at h7 h8 h9 h10; omega)))
      have Y3 : Hid (Row wY w2.heap.size 38 [.int .i64 0, .slice none 0 0, .int .i64 0, .slice none 0 0, .int .i64 0]) := RA3.out.keep (KY.out.block _ (by show w2.heap.size ≠ rb; (have h7 := HZ.out; have h8 := HRb.out; have h9 := HZ6.out; have h10 := HG.out; unfold Hid at h7 h8 h9 h10; omega)))
      have HSeeY : Hid (∀ w', Kept (fun q => q ≠ w1.heap.size ∧ q ≠ w2.heap.size) wY w' → w'.cell? ⟨w5.heap.size, 0, none⟩ = some (.slice (some ⟨g, 0, none⟩) n n) ∧ w'.cell? ⟨w5.heap.size, 1, none⟩ = some (.slice va m vc) ∧ w'.cell? ⟨w5.heap.size, 2, none⟩ = some (.int .i64 next) ∧ w'.cell? ⟨rb, 0, none⟩ = some (.int .i64 E) ∧ w'.cell? ⟨rb, 1, none⟩ = some (.slice none 0 0) ∧ w'.cell? ⟨rb, 2, none⟩ = some (.int .i64 0) ∧ w'.cell? ⟨rb, 3, none⟩ = some (.slice none 0 0) ∧ w'.cell? ⟨rb, 4, none⟩ = some (.int .i64 (n : Int))) := fun w' hk => ⟨hk.cell (p := ⟨w5.heap.size, 0, none⟩) (by show w5.heap.size ≠ _ ∧ w5.heap.size ≠ _; (have h7 := HZ.out; have h8 := HRb.out; have h9 := HZ6.out; have h10 := HG.out; unfold Hid at h7 h8 h9 h10; omega)) (YS.out.cell (j := 0) rfl), hk.cell (p := ⟨w5.heap.size, 1, none⟩) (by show w5.heap.size ≠ _ ∧ w5.heap.size ≠ _; (have h7 := HZ.out; have h8 := HRb.out; have h9 := HZ6.out; have h10 := HG.out; unfold Hid at h7 h8 h9 h10; omega)) (YS.out.cell (j := 1) rfl), hk.cell (p := ⟨w5.heap.size, 2, none⟩) (by show w5.heap.size ≠ _ ∧ w5.heap.size ≠ _; (have h7 := HZ.out; have h8 := HRb.out; have h9 := HZ6.out; have h10 := HG.out; unfold Hid at h7 h8 h9 h10; omega)) (YS.out.cell (j := 2) rfl), hk.cell (p := ⟨rb, 0, none⟩) (by show rb ≠ _ ∧ rb ≠ _; (have h7 := HZ.out; have h8 := HRb.out; have h9 := HZ6.out; have h10 := HG.out; unfold Hid at h7 h8 h9 h10; omega)) (YR.out.cell (j := 0) rfl), hk.cell (p := ⟨rb, 1, none⟩) (by show rb ≠ _ ∧ rb ≠ _; (have h7 := HZ.out; have h8 := HRb.out; have h9 := HZ6.out; have h10 := HG.out; unfold Hid at h7 h8 h9 h10; omega)) (YR.out.cell (j := 1) rfl), hk.cell (p := ⟨rb, 2, none⟩) (by show rb ≠ _ ∧ rb ≠ _; (have h7 := HZ.out; have h8 := HRb.out; have h9 := HZ6.out; have h10 := HG.out; unfold Hid at h7 h8 h9 h10; omega)) (YR.out.cell (j := 2) rfl), hk.cell (p := ⟨rb, 3, none⟩) (by show rb ≠ _ ∧ rb ≠ _; (have h7 := HZ.out; have h8 := HRb.out; have h9 := HZ6.out; have h10 := HG.out; unfold Hid at h7 h8 h9 h10; omega)) (YR.out.cell (j := 3) rfl), hk.cell (p := ⟨rb, 4, none⟩) (by show rb ≠ _ ∧ rb ≠ _; (have h7 := HZ.out; have h8 := HRb.out; have h9 := HZ6.out; have h10 := HG.out; unfold Hid at h7 h8 h9 h10; omega)) (YR.out.cell (j := 4) rfl)⟩
      go_wp2_with fail
      have S0 := HSeeY.out _ (Kept.refl _ wY).drew
      refine wp_region_held_drew (S := (fun w' : World => w'.cell? ⟨w5.heap.size, 0, none⟩ = some (.slice (some ⟨g, 0, none⟩) n n) ∧ w'.cell? ⟨w5.heap.size, 1, none⟩ = some (.slice va m vc) ∧ w'.cell? ⟨w5.heap.size, 2, none⟩ = some (.int .i64 next) ∧ w'.cell? ⟨rb, 0, none⟩ = some (.int .i64 E) ∧ w'.cell? ⟨rb, 1, none⟩ = some (.slice none 0 0) ∧ w'.cell? ⟨rb, 2, none⟩ = some (.int .i64 0) ∧ w'.cell? ⟨rb, 3, none⟩ = some (.slice none 0 0) ∧ w'.cell? ⟨rb, 4, none⟩ = some (.int .i64 (n : Int)))) (by kernel_rfl) (S0) (fun hH => ?_)
      refine tkM 0 _ rfl rfl ?_; simp only [sz, ss]
      refine rdL [1, 2] ?_
      refine rcL (fun K hK => ?_) ?_
      · have e0 := (HSeeY.out _ (Kept.refl _ wY).drew).2.2.2.1
        have e1 := (HSeeY.out _ (Kept.refl _ wY).drew).2.2.2.2.1
        have e2 := (HSeeY.out _ (Kept.refl _ wY).drew).2.2.2.2.2.1
        have e3 := (HSeeY.out _ (Kept.refl _ wY).drew).2.2.2.2.2.2.1
        have e4 := (HSeeY.out _ (Kept.refl _ wY).drew).2.2.2.2.2.2.2
        go_simp
        refine hK.out _ _ ?_ (fun hH => ?_)
        · try dsimp only
          first | exact SQ | exact SP | exact S0
        clear hK K
        refine r1L 2 rfl fun K hK => ?_
        · have P2 : Hid (Row wY w1.heap.size 31 [.slice none 0 0, .slice none 0 0, .int .i64 0]) := Y2.out
          have pc0 := P2.out.cell (j := 0) rfl
          have pc1 := P2.out.cell (j := 1) rfl
          have pc2 := P2.out.cell (j := 2) rfl
          have pf0 := P2.out.frozen 0
          have pf1 := P2.out.frozen 1
          have pf2 := P2.out.frozen 2
          obtain ⟨wP, hwP, VP, KP⟩ := P2.out.whole3 (.slice (some ⟨g, 0, none⟩) n n) (.slice va m vc) (.int .i64 next)
          have HVP : Hid _ := VP
          have KP2 : Hid _ := KP
          have SP := HSeeY.out wP.drew (KP2.out.drew.mono (fun q hq => hq.1))
          clear VP KP
          go_simp
          refine hK.out _ _ ?_ (fun hH => ?_)
          · try dsimp only
            first | exact SQ | exact SP | exact S0
          clear hK K
          refine r1L 3 rfl fun K hK => ?_
          · have P3 : Hid (Row wP w2.heap.size 38 [.int .i64 0, .slice none 0 0, .int .i64 0, .slice none 0 0, .int .i64 0]) := Y3.out.keep (KP2.out.block _ (by show w2.heap.size ≠ w1.heap.size; (have h7 := HZ.out; unfold Hid at h7; omega)))
            have sc0 := P3.out.cell (j := 0) rfl
            have sc1 := P3.out.cell (j := 1) rfl
            have sc2 := P3.out.cell (j := 2) rfl
            have sc3 := P3.out.cell (j := 3) rfl
            have sc4 := P3.out.cell (j := 4) rfl
            have sf0 := P3.out.frozen 0
            have sf1 := P3.out.frozen 1
            have sf2 := P3.out.frozen 2
            have sf3 := P3.out.frozen 3
            have sf4 := P3.out.frozen 4
            obtain ⟨wQ, hwQ, VQ, KQ⟩ := P3.out.whole5 (.int .i64 E) (.slice none 0 0) (.int .i64 0) (.slice none 0 0) (.int .i64 (n : Int))
            have HVQ : Hid _ := VQ
            have KQ2 : Hid (Kept (fun q => q ≠ w1.heap.size ∧ q ≠ w2.heap.size) wY wQ.drew) := ((KP2.out.mono (fun q hq => hq.1)).trans (KQ.mono (fun q hq => hq.2))).drew
            have HVP2 : Hid (Row wQ.drew w1.heap.size 31 [.slice (some ⟨g, 0, none⟩) n n, .slice va m vc, .int .i64 next]) := (HVP.out.keep (KQ.block _ (by show w1.heap.size ≠ w2.heap.size; (have h7 := HZ.out; unfold Hid at h7; omega)))).keep rfl
            have HVQd : Hid (Row wQ.drew w2.heap.size 38 [.int .i64 E, .slice none 0 0, .int .i64 0, .slice none 0 0, .int .i64 (n : Int)]) := HVQ.out.keep rfl
            have SQ := HSeeY.out _ KQ2.out
            clear VQ KQ
            go_simp
            refine hK.out _ _ ?_ (fun hH => ?_)
            · try dsimp only
              first | exact SQ | exact SP | exact S0
            clear hK K
            refine wpAnyH_done (by kernel_rfl) ?_ _
            clear hH SQ
            go_wp2
            refine bodyPost_ret (q0x rfl rfl rfl HVP2.out HVQd.out Try.underlying31 rfl (by kernel_rfl) Try.underlying38 rfl (by kernel_rfl)) rfl ⟨_, _, w5.heap.size, rfl, ?_, ?_, ?_, ?_, ?_⟩
            · rw [HdS.out, ← HNx.out]
              refine q2Q (rSectors.weaken (Rep.kept (Rep.kept (DiskR.rd (P := fun q => g ≤ q ∧ q < w5.heap.size) ((HDk7.out).weaken (fun q hq _ => ⟨by omega, hq.2⟩)) ⟨Nat.le_refl _, HG.out.2.1⟩ HN.out (by omega)) KY.out (fun q hq _ => by have h2 := hq.2; show q ≠ rb; (have h7 := HZ.out; have h8 := HRb.out; have h9 := HZ6.out; have h10 := HG.out; unfold Hid at h7 h8 h9 h10; omega))) KQ2.out (fun q hq _ => by have h2 := hq.1; show q ≠ _ ∧ q ≠ _; (have h7 := HZ.out; have h8 := HRb.out; have h9 := HZ6.out; have h10 := HG.out; unfold Hid at h7 h8 h9 h10; omega))) (fun q hq _ => ⟨by have h2 := hq.1; (have h7 := HZ.out; have h8 := HRb.out; have h9 := HZ6.out; have h10 := HG.out; unfold Hid at h7 h8 h9 h10; omega), by have h2 := hq.2; show q ≠ w5.heap.size; omega⟩)) (rSnps.weaken (Rep.kept (Rep.kept HSn7.out KY.out (fun q hq _ => by have h2 := hq.2; show q ≠ rb; (have h7 := HZ.out; have h8 := HRb.out; have h9 := HZ6.out; have h10 := HG.out; unfold Hid at h7 h8 h9 h10; omega))) KQ2.out (fun q hq _ => by have h2 := hq.1; show q ≠ _ ∧ q ≠ _; (have h7 := HZ.out; have h8 := HRb.out; have h9 := HZ6.out; have h10 := HG.out; unfold Hid at h7 h8 h9 h10; omega))) (fun q hq _ => ⟨by have h2 := hq.1; (have h7 := HZ.out; have h8 := HRb.out; have h9 := HZ6.out; have h10 := HG.out; unfold Hid at h7 h8 h9 h10; omega), by have h2 := hq.2; show q ≠ w5.heap.size; omega⟩)) (by rw [HNx.out]; exact HI1.out)
            · rw [HdR.out]
              exact ⟨none, 0, 0, none, 0, 0, by rw [← HN.out], q2x _ _, q0Z _ _⟩
            · (have h7 := HZ.out; have h8 := HRb.out; have h9 := HZ6.out; have h10 := HG.out; unfold Hid at h7 h8 h9 h10; omega)
            · exact Nat.lt_of_lt_of_le HS7.out.bs_lt (Nat.le_trans KY.out.size KQ2.out.size)
            · exact Kept.toBelow ((Kept.below (B3.out.trans (B37.out.mono B3.out.size))).trans ((KY.out.mono (fun q hq => by have hq0 : q < w.heap.size := hq; (have h7 := HZ.out; have h8 := HRb.out; have h9 := HZ6.out; have h10 := HG.out; unfold Hid at h7 h8 h9 h10; omega))).trans (KQ2.out.mono (fun q hq => by have hq0 : q < w.heap.size := hq; (have h7 := HZ.out; have h8 := HRb.out; have h9 := HZ6.out; have h10 := HG.out; unfold Hid at h7 h8 h9 h10; omega)))))
      refine rcL (fun K hK => ?_) ?_
      · have P2 : Hid (Row wY w1.heap.size 31 [.slice none 0 0, .slice none 0 0, .int .i64 0]) := Y2.out
        have pc0 := P2.out.cell (j := 0) rfl
        have pc1 := P2.out.cell (j := 1) rfl
        have pc2 := P2.out.cell (j := 2) rfl
        have pf0 := P2.out.frozen 0
        have pf1 := P2.out.frozen 1
        have pf2 := P2.out.frozen 2
        obtain ⟨wP, hwP, VP, KP⟩ := P2.out.whole3 (.slice (some ⟨g, 0, none⟩) n n) (.slice va m vc) (.int .i64 next)
        have HVP : Hid _ := VP
        have KP2 : Hid _ := KP
        have SP := HSeeY.out wP.drew (KP2.out.drew.mono (fun q hq => hq.1))
        clear VP KP
        go_simp
        refine hK.out _ _ ?_ (fun hH => ?_)
        · try dsimp only
          first | exact SQ | exact SP | exact S0
        clear hK K
        refine r1L 1 rfl fun K hK => ?_
        · have e0 := SP.2.2.2.1
          have e1 := SP.2.2.2.2.1
          have e2 := SP.2.2.2.2.2.1
          have e3 := SP.2.2.2.2.2.2.1
          have e4 := SP.2.2.2.2.2.2.2
          go_simp
          refine hK.out _ _ ?_ (fun hH => ?_)
          · try dsimp only
            first | exact SQ | exact SP | exact S0
          clear hK K
          refine r1L 3 rfl fun K hK => ?_
          · have P3 : Hid (Row wP w2.heap.size 38 [.int .i64 0, .slice none 0 0, .int .i64 0, .slice none 0 0, .int .i64 0]) := Y3.out.keep (KP2.out.block _ (by show w2.heap.size ≠ w1.heap.size; (have h7 := HZ.out; unfold Hid at h7; omega)))
            have sc0 := P3.out.cell (j := 0) rfl
            have sc1 := P3.out.cell (j := 1) rfl
            have sc2 := P3.out.cell (j := 2) rfl
            have sc3 := P3.out.cell (j := 3) rfl
            have sc4 := P3.out.cell (j := 4) rfl
            have sf0 := P3.out.frozen 0
            have sf1 := P3.out.frozen 1
            have sf2 := P3.out.frozen 2
            have sf3 := P3.out.frozen 3
            have sf4 := P3.out.frozen 4
            obtain ⟨wQ, hwQ, VQ, KQ⟩ := P3.out.whole5 (.int .i64 E) (.slice none 0 0) (.int .i64 0) (.slice none 0 0) (.int .i64 (n : Int))
            have HVQ : Hid _ := VQ
            have KQ2 : Hid (Kept (fun q => q ≠ w1.heap.size ∧ q ≠ w2.heap.size) wY wQ.drew) := ((KP2.out.mono (fun q hq => hq.1)).trans (KQ.mono (fun q hq => hq.2))).drew
            have HVP2 : Hid (Row wQ.drew w1.heap.size 31 [.slice (some ⟨g, 0, none⟩) n n, .slice va m vc, .int .i64 next]) := (HVP.out.keep (KQ.block _ (by show w1.heap.size ≠ w2.heap.size; (have h7 := HZ.out; unfold Hid at h7; omega)))).keep rfl
            have HVQd : Hid (Row wQ.drew w2.heap.size 38 [.int .i64 E, .slice none 0 0, .int .i64 0, .slice none 0 0, .int .i64 (n : Int)]) := HVQ.out.keep rfl
            have SQ := HSeeY.out _ KQ2.out
            clear VQ KQ
            go_simp
            refine hK.out _ _ ?_ (fun hH => ?_)
            · try dsimp only
              first | exact SQ | exact SP | exact S0
            clear hK K
            refine wpAnyH_done (by kernel_rfl) ?_ _
            clear hH SQ
            go_wp2
            refine bodyPost_ret (q0x rfl rfl rfl HVP2.out HVQd.out Try.underlying31 rfl (by kernel_rfl) Try.underlying38 rfl (by kernel_rfl)) rfl ⟨_, _, w5.heap.size, rfl, ?_, ?_, ?_, ?_, ?_⟩
            · rw [HdS.out, ← HNx.out]
              refine q2Q (rSectors.weaken (Rep.kept (Rep.kept (DiskR.rd (P := fun q => g ≤ q ∧ q < w5.heap.size) ((HDk7.out).weaken (fun q hq _ => ⟨by omega, hq.2⟩)) ⟨Nat.le_refl _, HG.out.2.1⟩ HN.out (by omega)) KY.out (fun q hq _ => by have h2 := hq.2; show q ≠ rb; (have h7 := HZ.out; have h8 := HRb.out; have h9 := HZ6.out; have h10 := HG.out; unfold Hid at h7 h8 h9 h10; omega))) KQ2.out (fun q hq _ => by have h2 := hq.1; show q ≠ _ ∧ q ≠ _; (have h7 := HZ.out; have h8 := HRb.out; have h9 := HZ6.out; have h10 := HG.out; unfold Hid at h7 h8 h9 h10; omega))) (fun q hq _ => ⟨by have h2 := hq.1; (have h7 := HZ.out; have h8 := HRb.out; have h9 := HZ6.out; have h10 := HG.out; unfold Hid at h7 h8 h9 h10; omega), by have h2 := hq.2; show q ≠ w5.heap.size; omega⟩)) (rSnps.weaken (Rep.kept (Rep.kept HSn7.out KY.out (fun q hq _ => by have h2 := hq.2; show q ≠ rb; (have h7 := HZ.out; have h8 := HRb.out; have h9 := HZ6.out; have h10 := HG.out; unfold Hid at h7 h8 h9 h10; omega))) KQ2.out (fun q hq _ => by have h2 := hq.1; show q ≠ _ ∧ q ≠ _; (have h7 := HZ.out; have h8 := HRb.out; have h9 := HZ6.out; have h10 := HG.out; unfold Hid at h7 h8 h9 h10; omega))) (fun q hq _ => ⟨by have h2 := hq.1; (have h7 := HZ.out; have h8 := HRb.out; have h9 := HZ6.out; have h10 := HG.out; unfold Hid at h7 h8 h9 h10; omega), by have h2 := hq.2; show q ≠ w5.heap.size; omega⟩)) (by rw [HNx.out]; exact HI1.out)
            · rw [HdR.out]
              exact ⟨none, 0, 0, none, 0, 0, by rw [← HN.out], q2x _ _, q0Z _ _⟩
            · (have h7 := HZ.out; have h8 := HRb.out; have h9 := HZ6.out; have h10 := HG.out; unfold Hid at h7 h8 h9 h10; omega)
            · exact Nat.lt_of_lt_of_le HS7.out.bs_lt (Nat.le_trans KY.out.size KQ2.out.size)
            · exact Kept.toBelow ((Kept.below (B3.out.trans (B37.out.mono B3.out.size))).trans ((KY.out.mono (fun q hq => by have hq0 : q < w.heap.size := hq; (have h7 := HZ.out; have h8 := HRb.out; have h9 := HZ6.out; have h10 := HG.out; unfold Hid at h7 h8 h9 h10; omega))).trans (KQ2.out.mono (fun q hq => by have hq0 : q < w.heap.size := hq; (have h7 := HZ.out; have h8 := HRb.out; have h9 := HZ6.out; have h10 := HG.out; unfold Hid at h7 h8 h9 h10; omega)))))
      exact rnL
end Go.Proofs.Ytoophkmnppoppaa
