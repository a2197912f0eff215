/-
  What the model answers shares nothing with what was handed in, nor the state with the reply. Conditions: none.
-/
import Derived.Test.YtoophkmnppoppaaM17
import Derived.Test.YtoophkmnppoppaaM19
import Derived.Test.YtoophkmnppoppaaM20
import Derived.Test.YtoophkmnppoppaaM31
import Derived.Test.YtoophkmnppoppaaM32
namespace Go.Proofs.Ytoophkmnppoppaa
set_option maxHeartbeats 16000000
open Go.ChangeShapes Go.WideShapes Go.ChangeAt Go.RowKit
open Go.ChangeMaps (open_string shut_string)
set_option linter.unusedVariables false
set_option maxRecDepth 20000 in
theorem lown_walk (cs0 : List Value) (s : Sta) (xs : List Value) (x : Opn) (W : World) (h0 : rSta.rd W (fun b => b < W.heap.size) cs0 s) (hx : rOpn.rd W (fun b => b < W.heap.size) xs x) :
 Calls Try.prog 8 #[.agg cs0.toArray, .agg xs.toArray] W fun e W' => e = .returned (.bool true) ∧ Below W.heap.size W W' := by
 obtain ⟨a0, n0, c0, b0, m0, d0, rfl, hD, hU, hI⟩ := q0X h0
 obtain ⟨t0, ht0⟩ : ∃ t, t = s.2.2 := ⟨_, rfl⟩
 rw [← ht0] at h0 ⊢
 rw [← ht0] at hI
 obtain ⟨k, at', N, id, nm, dt⟩ := x
 obtain ⟨xa, xn, xc, rfl, hd, i0, i1, i2, i3, i4⟩ := q1X hx
 dsimp only at hx hd i0 i1 i2 i3 i4 ⊢
 have HIx : Hid (I64 k ∧ I64 at' ∧ I64 N ∧ I64 id ∧ nm.size ≤ maxLen) := ⟨i0, i1, i2, i3, i4⟩
 have HTs : Hid _ := ht0
 have HNs : Hid (s.1.length = n0) := (q0Q hD).1
 have HMs : Hid (s.2.1.length = m0) := (q0Q hU).1
 rw [show ([.slice a0 n0 c0, .slice b0 m0 d0, .int .i64 t0] : List Value).toArray = #[.slice a0 n0 c0, .slice b0 m0 d0, .int .i64 t0] from rfl, show ([.int .i64 k, .int .i64 at', .int .i64 N, .int .i64 id, .string nm, .slice xa xn xc] : List Value).toArray = #[.int .i64 k, .int .i64 at', .int .i64 N, .int .i64 id, .string nm, .slice xa xn xc] from rfl]
 obtain ⟨w0, hw0, V0, b00, z0⟩ := q0q W 25 [.slice a0 n0 c0, .slice b0 m0 d0, .int .i64 t0]
 obtain ⟨w1, hw1, V1, b1, z1⟩ := q0q w0 28 [.int .i64 k, .int .i64 at', .int .i64 N, .int .i64 id, .string nm, .slice xa xn xc]
 have bel : Below W.heap.size W w1 := on b00 b1
 have HSx : Hid (w0.heap.size = W.heap.size + 1 ∧ w1.heap.size = W.heap.size + 2) := by unfold Hid; omega
 have Rs_1 : Hid (Row w1 (W.heap.size) 25 [.slice a0 n0 c0, .slice b0 m0 d0, .int .i64 t0]) := V0.below b1
 have Rx_1 : Hid _ := V1
 have Ds_1 : Hid (rSta.rd w1 (fun b => b < W.heap.size) [.slice a0 n0 c0, .slice b0 m0 d0, .int .i64 t0] (s)) := Rep.below h0 bel
 have Yx_1 : Hid (rBytes.rd w1 (fun b => b < W.heap.size) [.slice xa xn xc] (dt)) := Rep.below hd bel
 have B_1 : Hid _ := bel
 clear V0 V1 b00 b1 z0 z1 bel hd i0 i1 i2 i3 i4 hD hU hI h0 hx ht0
 go_enter Try.func8, Try.ntmps8
 go_wp2_with fail
 refine Calls.mono (alive10_u _) ?_
 rintro e w2 ⟨rfl, b2⟩
 have Rs_2 : Hid _ := Rs_1.out.below (b2)
 have Rx_2 : Hid _ := Rx_1.out.below (b2)
 have Ds_2 : Hid (rSta.rd w2 (fun b => b < W.heap.size) [.slice a0 n0 c0, .slice b0 m0 d0, .int .i64 t0] (s)) := Rep.below Ds_1.out (b2)
 have Yx_2 : Hid (rBytes.rd w2 (fun b => b < W.heap.size) [.slice xa xn xc] (dt)) := Rep.below Yx_1.out (b2)
 have B_2 : Hid _ := on B_1.out (b2)
 clear Rs_1 Rx_1 Ds_1 Yx_1
 clear b2
 have qs0 := Rs_2.out.cell (j := 0) rfl
 have qs1 := Rs_2.out.cell (j := 1) rfl
 have qs2 := Rs_2.out.cell (j := 2) rfl
 have qx0 := Rx_2.out.cell (j := 0) rfl
 have qx1 := Rx_2.out.cell (j := 1) rfl
 have qx2 := Rx_2.out.cell (j := 2) rfl
 have qx3 := Rx_2.out.cell (j := 3) rfl
 have qx4 := Rx_2.out.cell (j := 4) rfl
 have qx5 := Rx_2.out.cell (j := 5) rfl
 have HKx : Hid (W.heap.size < w2.heap.size ∧ w0.heap.size < w2.heap.size) := ⟨Rs_2.out.lt, Rx_2.out.lt⟩
 have HSee : Hid (∀ w', Below w2.heap.size w2 w' → w'.cell? ⟨W.heap.size, 0, none⟩ = some (.slice a0 n0 c0) ∧ w'.cell? ⟨W.heap.size, 1, none⟩ = some (.slice b0 m0 d0) ∧ w'.cell? ⟨W.heap.size, 2, none⟩ = some (.int .i64 t0) ∧ w'.cell? ⟨w0.heap.size, 0, none⟩ = some (.int .i64 k) ∧ w'.cell? ⟨w0.heap.size, 1, none⟩ = some (.int .i64 at') ∧ w'.cell? ⟨w0.heap.size, 2, none⟩ = some (.int .i64 N) ∧ w'.cell? ⟨w0.heap.size, 3, none⟩ = some (.int .i64 id) ∧ w'.cell? ⟨w0.heap.size, 4, none⟩ = some (.string nm) ∧ w'.cell? ⟨w0.heap.size, 5, none⟩ = some (.slice xa xn xc)) := fun w' hb => ⟨(Rs_2.out.below hb).cell (j := 0) rfl, (Rs_2.out.below hb).cell (j := 1) rfl, (Rs_2.out.below hb).cell (j := 2) rfl, (Rx_2.out.below hb).cell (j := 0) rfl, (Rx_2.out.below hb).cell (j := 1) rfl, (Rx_2.out.below hb).cell (j := 2) rfl, (Rx_2.out.below hb).cell (j := 3) rfl, (Rx_2.out.below hb).cell (j := 4) rfl, (Rx_2.out.below hb).cell (j := 5) rfl⟩
 have S0 := HSee.out _ (Below.refl _ w2).drew
 clear qs0 qs1 qs2 qx0 qx1 qx2 qx3 qx4 qx5
 go_wp2_with fail
 go_cut [5, 6] (fun t u wx => ∃ (o4 o5 : Nat) (oa : Option Addr) (oc : Nat) (ob : Option Addr) (od : Nat) (xb : Option Addr) (xd : Nat), t = .pointer (some ⟨o4, 0, none⟩) ∧ u = .pointer (some ⟨o5, 0, none⟩) ∧ Hid (o4 ≠ o5 ∧ w2.heap.size ≤ o4 ∧ w2.heap.size ≤ o5) ∧ Hid (Row wx o4 31 [.slice oa n0 oc, .slice ob m0 od, .int .i64 t0]) ∧ Hid (Row wx o5 33 [.int .i64 k, .int .i64 at', .int .i64 N, .int .i64 id, .string nm, .slice xb xn xd]) ∧ Hid (rStaF.rd wx (fun q => w2.heap.size ≤ q ∧ q ≠ o4 ∧ q ≠ o5) [.slice oa n0 oc, .slice ob m0 od, .int .i64 t0] s) ∧ Hid (rFree.rd wx (fun q => w2.heap.size ≤ q ∧ q ≠ o4 ∧ q ≠ o5) [.slice xb xn xd] dt) ∧ Hid (Below w2.heap.size w2 wx))
 case first =>
  refine wp_region_held_drew (S := (fun w' : World => w'.cell? ⟨W.heap.size, 0, none⟩ = some (.slice a0 n0 c0) ∧ w'.cell? ⟨W.heap.size, 1, none⟩ = some (.slice b0 m0 d0) ∧ w'.cell? ⟨W.heap.size, 2, none⟩ = some (.int .i64 t0) ∧ w'.cell? ⟨w0.heap.size, 0, none⟩ = some (.int .i64 k) ∧ w'.cell? ⟨w0.heap.size, 1, none⟩ = some (.int .i64 at') ∧ w'.cell? ⟨w0.heap.size, 2, none⟩ = some (.int .i64 N) ∧ w'.cell? ⟨w0.heap.size, 3, none⟩ = some (.int .i64 id) ∧ w'.cell? ⟨w0.heap.size, 4, none⟩ = some (.string nm) ∧ w'.cell? ⟨w0.heap.size, 5, none⟩ = some (.slice xa xn xc))) (by kernel_rfl) (S0) (fun hH => ?_)
  refine tkM 0 _ rfl rfl ?_; simp only [sz, ss]
  refine tkM 2 _ rfl rfl ?_; simp only [sz, ss]
  refine rdL [1, 4, 5] ?_
  refine rcL (fun K hK => ?_) ?_
  · go_simp
    go_at_call 9
    refine Calls.mono (ofV (w2.drew) _ a0 b0 n0 c0 m0 d0 t0 s (rSta.keep Ds_2.out (fun _ _ _ => rfl))) ?_
    rintro e wv1 ⟨oa, oc, ob, od, rfl, hq1, bq1⟩
    obtain ⟨s1, hs⟩ : ∃ z, z = w2.heap.size := ⟨_, rfl⟩
    obtain ⟨e1, he⟩ : ∃ z, z = wv1.heap.size := ⟨_, rfl⟩
    have HO1 : Hid (rStaF.rd wv1 (fun q => s1 ≤ q ∧ q < e1) [.slice oa n0 oc, .slice ob m0 od, .int .i64 t0] s) := rStaF.weaken hq1 (fun q hq hl => ⟨by have h : w2.heap.size ≤ q := hq; omega, by omega⟩)
    have HZ1 : Hid (s1 = w2.heap.size ∧ e1 = wv1.heap.size ∧ w2.heap.size ≤ wv1.heap.size ∧ w2.heap.size ≤ w2.heap.size) := ⟨hs, he, bq1.size, Nat.le_refl _⟩
    have BT1 : Hid (Below w2.heap.size w2 wv1) := (Below.refl _ w2).drew.trans bq1
    skip
    have S1 := HSee.out _ BT1.out
    clear hq1 bq1 hs he
    go_simp
    refine hK.out _ _ ?_ (fun hH => ?_)
    · try dsimp only
      exact S1
    clear hK K
    refine rdL [3, 4, 5] ?_
    refine rcL (fun K hK => ?_) ?_
    · go_simp
      go_at_call 10
      refine Calls.mono (q3Q (wv1) _ k at' N id nm dt xa xn xc (Rep.below Yx_2.out BT1.out)) ?_
      rintro e wv3 ⟨xb, xd, rfl, hq3, bq3⟩
      obtain ⟨s3, hs⟩ : ∃ z, z = wv1.heap.size := ⟨_, rfl⟩
      obtain ⟨e3, he⟩ : ∃ z, z = wv3.heap.size := ⟨_, rfl⟩
      have HX3 : Hid (rFree.rd wv3 (fun q => s3 ≤ q ∧ q < e3) [.slice xb xn xd] dt) := rFree.weaken hq3 (fun q hq hl => ⟨by have h : wv1.heap.size ≤ q := hq; omega, by omega⟩)
      have HZ3 : Hid (s3 = wv1.heap.size ∧ e3 = wv3.heap.size ∧ wv1.heap.size ≤ wv3.heap.size ∧ w2.heap.size ≤ wv1.heap.size) := ⟨hs, he, bq3.size, BT1.out.size⟩
      have BT3 : Hid _ := on BT1.out bq3
      replace HO1 : Hid (rStaF.rd wv3 (fun q => s1 ≤ q ∧ q < e1) [.slice oa n0 oc, .slice ob m0 od, .int .i64 t0] s) := Rep.below HO1.out bq3
      have S3 := HSee.out _ BT3.out
      clear hq3 bq3 hs he
      go_simp
      refine hK.out _ _ ?_ (fun hH => ?_)
      · try dsimp only
        exact S3
      clear hK K
      refine rdL [4, 5] ?_
      refine rcL (fun K hK => ?_) ?_
      · go_simp
        obtain ⟨wv4, hw, vA, bA, zA⟩ := q0q wv3 31 [.slice none 0 0, .slice none 0 0, .int .i64 0]
        obtain ⟨o4, ho⟩ : ∃ o, o = wv3.heap.size := ⟨_, rfl⟩
        have HZ4 : Hid (o4 = wv3.heap.size ∧ wv4.heap.size = wv3.heap.size + 1 ∧ w2.heap.size ≤ wv3.heap.size) := ⟨ho, zA, BT3.out.size⟩
        have ho' : wv3.heap.size = o4 := ho.symm
        have bB : Below (wv3).heap.size (wv3) (wv4) := bA
        have BT4 : Hid _ := on BT3.out bB
        replace HO1 : Hid (rStaF.rd wv4 (fun q => s1 ≤ q ∧ q < e1) [.slice oa n0 oc, .slice ob m0 od, .int .i64 t0] s) := Rep.below HO1.out bB
        replace HX3 : Hid (rFree.rd wv4 (fun q => s3 ≤ q ∧ q < e3) [.slice xb xn xd] dt) := Rep.below HX3.out bB
        have R4 : Hid (Row (wv4) o4 31 [.slice none 0 0, .slice none 0 0, .int .i64 0]) := by rw [ho]; exact vA
        have S4 := HSee.out _ BT4.out
        clear vA zA bA ho
        first | rw [hw, ho'] | (rw [hw]; try rw [ho'])
        clear bB
        go_simp
        refine hK.out _ _ ?_ (fun hH => ?_)
        · try dsimp only
          exact S4
        clear hK K
        refine r1L 5 rfl fun K hK => ?_
        · go_simp
          obtain ⟨wv5, hw, vA, bA, zA⟩ := q0q wv4 33 [.int .i64 0, .int .i64 0, .int .i64 0, .int .i64 0, .string ⟨#[]⟩, .slice none 0 0]
          obtain ⟨o5, ho⟩ : ∃ o, o = wv4.heap.size := ⟨_, rfl⟩
          have HZ5 : Hid (o5 = wv4.heap.size ∧ wv5.heap.size = wv4.heap.size + 1 ∧ w2.heap.size ≤ wv4.heap.size) := ⟨ho, zA, BT4.out.size⟩
          have ho' : wv4.heap.size = o5 := ho.symm
          have bB : Below (wv4).heap.size (wv4) (wv5) := bA
          have BT5 : Hid _ := on BT4.out bB
          replace HO1 : Hid (rStaF.rd wv5 (fun q => s1 ≤ q ∧ q < e1) [.slice oa n0 oc, .slice ob m0 od, .int .i64 t0] s) := Rep.below HO1.out bB
          replace HX3 : Hid (rFree.rd wv5 (fun q => s3 ≤ q ∧ q < e3) [.slice xb xn xd] dt) := Rep.below HX3.out bB
          replace R4 : Hid (Row wv5 o4 31 [.slice none 0 0, .slice none 0 0, .int .i64 0]) := R4.out.below bB
          have R5 : Hid (Row (wv5) o5 33 [.int .i64 0, .int .i64 0, .int .i64 0, .int .i64 0, .string ⟨#[]⟩, .slice none 0 0]) := by rw [ho]; exact vA
          have S5 := HSee.out _ BT5.out
          clear vA zA bA ho
          first | rw [hw, ho'] | (rw [hw]; try rw [ho'])
          clear bB
          go_simp
          refine hK.out _ _ ?_ (fun hH => ?_)
          · try dsimp only
            exact S5
          clear hK K
          refine r1L 6 rfl fun K hK => ?_
          · have p60 := R4.out.cell (j := 0) rfl
            have f60 := R4.out.frozen 0
            have p61 := R4.out.cell (j := 1) rfl
            have f61 := R4.out.frozen 1
            have p62 := R4.out.cell (j := 2) rfl
            have f62 := R4.out.frozen 2
            obtain ⟨wv6, hw6, VX, KX⟩ := R4.out.whole3 (.slice oa n0 oc) (.slice ob m0 od) (.int .i64 t0)
            have BT6 : Hid (Below w2.heap.size w2 wv6) := Kept.belowOf BT5.out KX (by have g1 := HZ1.out; have g3 := HZ3.out; have g4 := HZ4.out; have g5 := HZ5.out; unfold Hid at g1 g3 g4 g5; omega)
            replace HO1 : Hid (rStaF.rd wv6 (fun q => s1 ≤ q ∧ q < e1) [.slice oa n0 oc, .slice ob m0 od, .int .i64 t0] s) := Rep.kept HO1.out KX (fun q hq hl => by have h1 := hq.1; have h2 := hq.2; have g1 := HZ1.out; have g3 := HZ3.out; have g4 := HZ4.out; have g5 := HZ5.out; unfold Hid at g1 g3 g4 g5; show q ≠ o4; omega)
            replace HX3 : Hid (rFree.rd wv6 (fun q => s3 ≤ q ∧ q < e3) [.slice xb xn xd] dt) := Rep.kept HX3.out KX (fun q hq hl => by have h1 := hq.1; have h2 := hq.2; have g1 := HZ1.out; have g3 := HZ3.out; have g4 := HZ4.out; have g5 := HZ5.out; unfold Hid at g1 g3 g4 g5; show q ≠ o4; omega)
            replace R5 : Hid (Row wv6 o5 33 [.int .i64 0, .int .i64 0, .int .i64 0, .int .i64 0, .string ⟨#[]⟩, .slice none 0 0]) := R5.out.keep (KX.block _ (by have g1 := HZ1.out; have g3 := HZ3.out; have g4 := HZ4.out; have g5 := HZ5.out; unfold Hid at g1 g3 g4 g5; show o5 ≠ o4; omega))
            replace R4 : Hid (Row wv6 o4 31 [.slice oa n0 oc, .slice ob m0 od, .int .i64 t0]) := VX
            have S6 := HSee.out _ BT6.out
            clear VX KX
            go_simp
            refine hK.out _ _ ?_ (fun hH => ?_)
            · try dsimp only
              exact S6
            clear hK K
            refine r1L 7 rfl fun K hK => ?_
            · have p70 := R5.out.cell (j := 0) rfl
              have f70 := R5.out.frozen 0
              have p71 := R5.out.cell (j := 1) rfl
              have f71 := R5.out.frozen 1
              have p72 := R5.out.cell (j := 2) rfl
              have f72 := R5.out.frozen 2
              have p73 := R5.out.cell (j := 3) rfl
              have f73 := R5.out.frozen 3
              have p74 := R5.out.cell (j := 4) rfl
              have f74 := R5.out.frozen 4
              have p75 := R5.out.cell (j := 5) rfl
              have f75 := R5.out.frozen 5
              obtain ⟨wv7, hw7, VX, KX⟩ := R5.out.whole6 (.int .i64 k) (.int .i64 at') (.int .i64 N) (.int .i64 id) (.string nm) (.slice xb xn xd)
              have BT7 : Hid (Below w2.heap.size w2 wv7) := Kept.belowOf BT6.out KX (by have g1 := HZ1.out; have g3 := HZ3.out; have g4 := HZ4.out; have g5 := HZ5.out; unfold Hid at g1 g3 g4 g5; omega)
              replace HO1 : Hid (rStaF.rd wv7 (fun q => s1 ≤ q ∧ q < e1) [.slice oa n0 oc, .slice ob m0 od, .int .i64 t0] s) := Rep.kept HO1.out KX (fun q hq hl => by have h1 := hq.1; have h2 := hq.2; have g1 := HZ1.out; have g3 := HZ3.out; have g4 := HZ4.out; have g5 := HZ5.out; unfold Hid at g1 g3 g4 g5; show q ≠ o5; omega)
              replace HX3 : Hid (rFree.rd wv7 (fun q => s3 ≤ q ∧ q < e3) [.slice xb xn xd] dt) := Rep.kept HX3.out KX (fun q hq hl => by have h1 := hq.1; have h2 := hq.2; have g1 := HZ1.out; have g3 := HZ3.out; have g4 := HZ4.out; have g5 := HZ5.out; unfold Hid at g1 g3 g4 g5; show q ≠ o5; omega)
              replace R4 : Hid (Row wv7 o4 31 [.slice oa n0 oc, .slice ob m0 od, .int .i64 t0]) := R4.out.keep (KX.block _ (by have g1 := HZ1.out; have g3 := HZ3.out; have g4 := HZ4.out; have g5 := HZ5.out; unfold Hid at g1 g3 g4 g5; show o4 ≠ o5; omega))
              replace R5 : Hid (Row wv7 o5 33 [.int .i64 k, .int .i64 at', .int .i64 N, .int .i64 id, .string nm, .slice xb xn xd]) := VX
              have S7 := HSee.out _ BT7.out
              clear VX KX
              go_simp
              refine hK.out _ _ ?_ (fun hH => ?_)
              · try dsimp only
                exact S7
              clear hK K
              refine wpAnyH_done (by kernel_rfl) ?_ _
              clear hH S0 S1 S3 S4 S5 S6 S7
              go_wp2_with fail
              go_meet
              exact ⟨o4, o5, oa, oc, ob, od, xb, xd, rfl, rfl, by have g1 := HZ1.out; have g3 := HZ3.out; have g4 := HZ4.out; have g5 := HZ5.out; unfold Hid at g1 g3 g4 g5; exact ⟨by omega, by omega, by omega⟩, R4, R5, rStaF.weaken HO1.out (fun q hq hl => by have h1 := hq.1; have h2 := hq.2; have g1 := HZ1.out; have g3 := HZ3.out; have g4 := HZ4.out; have g5 := HZ5.out; unfold Hid at g1 g3 g4 g5; exact ⟨by omega, by omega, by omega⟩), rFree.weaken HX3.out (fun q hq hl => by have h1 := hq.1; have h2 := hq.2; have g1 := HZ1.out; have g3 := HZ3.out; have g4 := HZ4.out; have g5 := HZ5.out; unfold Hid at g1 g3 g4 g5; exact ⟨by omega, by omega, by omega⟩), BT7⟩
      refine rcL (fun K hK => ?_) ?_
      · go_simp
        obtain ⟨wv5, hw, vA, bA, zA⟩ := q0q wv3 33 [.int .i64 0, .int .i64 0, .int .i64 0, .int .i64 0, .string ⟨#[]⟩, .slice none 0 0]
        obtain ⟨o5, ho⟩ : ∃ o, o = wv3.heap.size := ⟨_, rfl⟩
        have HZ5 : Hid (o5 = wv3.heap.size ∧ wv5.heap.size = wv3.heap.size + 1 ∧ w2.heap.size ≤ wv3.heap.size) := ⟨ho, zA, BT3.out.size⟩
        have ho' : wv3.heap.size = o5 := ho.symm
        have bB : Below (wv3).heap.size (wv3) (wv5) := bA
        have BT5 : Hid _ := on BT3.out bB
        replace HO1 : Hid (rStaF.rd wv5 (fun q => s1 ≤ q ∧ q < e1) [.slice oa n0 oc, .slice ob m0 od, .int .i64 t0] s) := Rep.below HO1.out bB
        replace HX3 : Hid (rFree.rd wv5 (fun q => s3 ≤ q ∧ q < e3) [.slice xb xn xd] dt) := Rep.below HX3.out bB
        have R5 : Hid (Row (wv5) o5 33 [.int .i64 0, .int .i64 0, .int .i64 0, .int .i64 0, .string ⟨#[]⟩, .slice none 0 0]) := by rw [ho]; exact vA
        have S5 := HSee.out _ BT5.out
        clear vA zA bA ho
        first | rw [hw, ho'] | (rw [hw]; try rw [ho'])
        clear bB
        go_simp
        refine hK.out _ _ ?_ (fun hH => ?_)
        · try dsimp only
          exact S5
        clear hK K
        refine r1L 4 rfl fun K hK => ?_
        · go_simp
          obtain ⟨wv4, hw, vA, bA, zA⟩ := q0q wv5 31 [.slice none 0 0, .slice none 0 0, .int .i64 0]
          obtain ⟨o4, ho⟩ : ∃ o, o = wv5.heap.size := ⟨_, rfl⟩
          have HZ4 : Hid (o4 = wv5.heap.size ∧ wv4.heap.size = wv5.heap.size + 1 ∧ w2.heap.size ≤ wv5.heap.size) := ⟨ho, zA, BT5.out.size⟩
          have ho' : wv5.heap.size = o4 := ho.symm
          have bB : Below (wv5).heap.size (wv5) (wv4) := bA
          have BT4 : Hid _ := on BT5.out bB
          replace HO1 : Hid (rStaF.rd wv4 (fun q => s1 ≤ q ∧ q < e1) [.slice oa n0 oc, .slice ob m0 od, .int .i64 t0] s) := Rep.below HO1.out bB
          replace HX3 : Hid (rFree.rd wv4 (fun q => s3 ≤ q ∧ q < e3) [.slice xb xn xd] dt) := Rep.below HX3.out bB
          replace R5 : Hid (Row wv4 o5 33 [.int .i64 0, .int .i64 0, .int .i64 0, .int .i64 0, .string ⟨#[]⟩, .slice none 0 0]) := R5.out.below bB
          have R4 : Hid (Row (wv4) o4 31 [.slice none 0 0, .slice none 0 0, .int .i64 0]) := by rw [ho]; exact vA
          have S4 := HSee.out _ BT4.out
          clear vA zA bA ho
          first | rw [hw, ho'] | (rw [hw]; try rw [ho'])
          clear bB
          go_simp
          refine hK.out _ _ ?_ (fun hH => ?_)
          · try dsimp only
            exact S4
          clear hK K
          refine r1L 6 rfl fun K hK => ?_
          · have p60 := R4.out.cell (j := 0) rfl
            have f60 := R4.out.frozen 0
            have p61 := R4.out.cell (j := 1) rfl
            have f61 := R4.out.frozen 1
            have p62 := R4.out.cell (j := 2) rfl
            have f62 := R4.out.frozen 2
            obtain ⟨wv6, hw6, VX, KX⟩ := R4.out.whole3 (.slice oa n0 oc) (.slice ob m0 od) (.int .i64 t0)
            have BT6 : Hid (Below w2.heap.size w2 wv6) := Kept.belowOf BT4.out KX (by have g1 := HZ1.out; have g3 := HZ3.out; have g5 := HZ5.out; have g4 := HZ4.out; unfold Hid at g1 g3 g5 g4; omega)
            replace HO1 : Hid (rStaF.rd wv6 (fun q => s1 ≤ q ∧ q < e1) [.slice oa n0 oc, .slice ob m0 od, .int .i64 t0] s) := Rep.kept HO1.out KX (fun q hq hl => by have h1 := hq.1; have h2 := hq.2; have g1 := HZ1.out; have g3 := HZ3.out; have g5 := HZ5.out; have g4 := HZ4.out; unfold Hid at g1 g3 g5 g4; show q ≠ o4; omega)
            replace HX3 : Hid (rFree.rd wv6 (fun q => s3 ≤ q ∧ q < e3) [.slice xb xn xd] dt) := Rep.kept HX3.out KX (fun q hq hl => by have h1 := hq.1; have h2 := hq.2; have g1 := HZ1.out; have g3 := HZ3.out; have g5 := HZ5.out; have g4 := HZ4.out; unfold Hid at g1 g3 g5 g4; show q ≠ o4; omega)
            replace R5 : Hid (Row wv6 o5 33 [.int .i64 0, .int .i64 0, .int .i64 0, .int .i64 0, .string ⟨#[]⟩, .slice none 0 0]) := R5.out.keep (KX.block _ (by have g1 := HZ1.out; have g3 := HZ3.out; have g5 := HZ5.out; have g4 := HZ4.out; unfold Hid at g1 g3 g5 g4; show o5 ≠ o4; omega))
            replace R4 : Hid (Row wv6 o4 31 [.slice oa n0 oc, .slice ob m0 od, .int .i64 t0]) := VX
            have S6 := HSee.out _ BT6.out
            clear VX KX
            go_simp
            refine hK.out _ _ ?_ (fun hH => ?_)
            · try dsimp only
              exact S6
            clear hK K
            refine r1L 7 rfl fun K hK => ?_
            · have p70 := R5.out.cell (j := 0) rfl
              have f70 := R5.out.frozen 0
              have p71 := R5.out.cell (j := 1) rfl
              have f71 := R5.out.frozen 1
              have p72 := R5.out.cell (j := 2) rfl
              have f72 := R5.out.frozen 2
              have p73 := R5.out.cell (j := 3) rfl
              have f73 := R5.out.frozen 3
              have p74 := R5.out.cell (j := 4) rfl
              have f74 := R5.out.frozen 4
              have p75 := R5.out.cell (j := 5) rfl
              have f75 := R5.out.frozen 5
              obtain ⟨wv7, hw7, VX, KX⟩ := R5.out.whole6 (.int .i64 k) (.int .i64 at') (.int .i64 N) (.int .i64 id) (.string nm) (.slice xb xn xd)
              have BT7 : Hid (Below w2.heap.size w2 wv7) := Kept.belowOf BT6.out KX (by have g1 := HZ1.out; have g3 := HZ3.out; have g5 := HZ5.out; have g4 := HZ4.out; unfold Hid at g1 g3 g5 g4; omega)
              replace HO1 : Hid (rStaF.rd wv7 (fun q => s1 ≤ q ∧ q < e1) [.slice oa n0 oc, .slice ob m0 od, .int .i64 t0] s) := Rep.kept HO1.out KX (fun q hq hl => by have h1 := hq.1; have h2 := hq.2; have g1 := HZ1.out; have g3 := HZ3.out; have g5 := HZ5.out; have g4 := HZ4.out; unfold Hid at g1 g3 g5 g4; show q ≠ o5; omega)
              replace HX3 : Hid (rFree.rd wv7 (fun q => s3 ≤ q ∧ q < e3) [.slice xb xn xd] dt) := Rep.kept HX3.out KX (fun q hq hl => by have h1 := hq.1; have h2 := hq.2; have g1 := HZ1.out; have g3 := HZ3.out; have g5 := HZ5.out; have g4 := HZ4.out; unfold Hid at g1 g3 g5 g4; show q ≠ o5; omega)
              replace R4 : Hid (Row wv7 o4 31 [.slice oa n0 oc, .slice ob m0 od, .int .i64 t0]) := R4.out.keep (KX.block _ (by have g1 := HZ1.out; have g3 := HZ3.out; have g5 := HZ5.out; have g4 := HZ4.out; unfold Hid at g1 g3 g5 g4; show o4 ≠ o5; omega))
              replace R5 : Hid (Row wv7 o5 33 [.int .i64 k, .int .i64 at', .int .i64 N, .int .i64 id, .string nm, .slice xb xn xd]) := VX
              have S7 := HSee.out _ BT7.out
              clear VX KX
              go_simp
              refine hK.out _ _ ?_ (fun hH => ?_)
              · try dsimp only
                exact S7
              clear hK K
              refine wpAnyH_done (by kernel_rfl) ?_ _
              clear hH S0 S1 S3 S4 S5 S6 S7
              go_wp2_with fail
              go_meet
              exact ⟨o4, o5, oa, oc, ob, od, xb, xd, rfl, rfl, by have g1 := HZ1.out; have g3 := HZ3.out; have g5 := HZ5.out; have g4 := HZ4.out; unfold Hid at g1 g3 g5 g4; exact ⟨by omega, by omega, by omega⟩, R4, R5, rStaF.weaken HO1.out (fun q hq hl => by have h1 := hq.1; have h2 := hq.2; have g1 := HZ1.out; have g3 := HZ3.out; have g5 := HZ5.out; have g4 := HZ4.out; unfold Hid at g1 g3 g5 g4; exact ⟨by omega, by omega, by omega⟩), rFree.weaken HX3.out (fun q hq hl => by have h1 := hq.1; have h2 := hq.2; have g1 := HZ1.out; have g3 := HZ3.out; have g5 := HZ5.out; have g4 := HZ4.out; unfold Hid at g1 g3 g5 g4; exact ⟨by omega, by omega, by omega⟩), BT7⟩
      exact rnL
    refine rcL (fun K hK => ?_) ?_
    · go_simp
      obtain ⟨wv4, hw, vA, bA, zA⟩ := q0q wv1 31 [.slice none 0 0, .slice none 0 0, .int .i64 0]
      obtain ⟨o4, ho⟩ : ∃ o, o = wv1.heap.size := ⟨_, rfl⟩
      have HZ4 : Hid (o4 = wv1.heap.size ∧ wv4.heap.size = wv1.heap.size + 1 ∧ w2.heap.size ≤ wv1.heap.size) := ⟨ho, zA, BT1.out.size⟩
      have ho' : wv1.heap.size = o4 := ho.symm
      have bB : Below (wv1).heap.size (wv1) (wv4) := bA
      have BT4 : Hid _ := on BT1.out bB
      replace HO1 : Hid (rStaF.rd wv4 (fun q => s1 ≤ q ∧ q < e1) [.slice oa n0 oc, .slice ob m0 od, .int .i64 t0] s) := Rep.below HO1.out bB
      have R4 : Hid (Row (wv4) o4 31 [.slice none 0 0, .slice none 0 0, .int .i64 0]) := by rw [ho]; exact vA
      have S4 := HSee.out _ BT4.out
      clear vA zA bA ho
      first | rw [hw, ho'] | (rw [hw]; try rw [ho'])
      clear bB
      go_simp
      refine hK.out _ _ ?_ (fun hH => ?_)
      · try dsimp only
        exact S4
      clear hK K
      refine rdL [3, 5] ?_
      refine rcL (fun K hK => ?_) ?_
      · go_simp
        go_at_call 10
        refine Calls.mono (q3Q (wv4) _ k at' N id nm dt xa xn xc (Rep.below Yx_2.out BT4.out)) ?_
        rintro e wv3 ⟨xb, xd, rfl, hq3, bq3⟩
        obtain ⟨s3, hs⟩ : ∃ z, z = wv4.heap.size := ⟨_, rfl⟩
        obtain ⟨e3, he⟩ : ∃ z, z = wv3.heap.size := ⟨_, rfl⟩
        have HX3 : Hid (rFree.rd wv3 (fun q => s3 ≤ q ∧ q < e3) [.slice xb xn xd] dt) := rFree.weaken hq3 (fun q hq hl => ⟨by have h : wv4.heap.size ≤ q := hq; omega, by omega⟩)
        have HZ3 : Hid (s3 = wv4.heap.size ∧ e3 = wv3.heap.size ∧ wv4.heap.size ≤ wv3.heap.size ∧ w2.heap.size ≤ wv4.heap.size) := ⟨hs, he, bq3.size, BT4.out.size⟩
        have BT3 : Hid _ := on BT4.out bq3
        replace HO1 : Hid (rStaF.rd wv3 (fun q => s1 ≤ q ∧ q < e1) [.slice oa n0 oc, .slice ob m0 od, .int .i64 t0] s) := Rep.below HO1.out bq3
        replace R4 : Hid (Row wv3 o4 31 [.slice none 0 0, .slice none 0 0, .int .i64 0]) := R4.out.below bq3
        have S3 := HSee.out _ BT3.out
        clear hq3 bq3 hs he
        go_simp
        refine hK.out _ _ ?_ (fun hH => ?_)
        · try dsimp only
          exact S3
        clear hK K
        refine r1L 5 rfl fun K hK => ?_
        · go_simp
          obtain ⟨wv5, hw, vA, bA, zA⟩ := q0q wv3 33 [.int .i64 0, .int .i64 0, .int .i64 0, .int .i64 0, .string ⟨#[]⟩, .slice none 0 0]
          obtain ⟨o5, ho⟩ : ∃ o, o = wv3.heap.size := ⟨_, rfl⟩
          have HZ5 : Hid (o5 = wv3.heap.size ∧ wv5.heap.size = wv3.heap.size + 1 ∧ w2.heap.size ≤ wv3.heap.size) := ⟨ho, zA, BT3.out.size⟩
          have ho' : wv3.heap.size = o5 := ho.symm
          have bB : Below (wv3).heap.size (wv3) (wv5) := bA
          have BT5 : Hid _ := on BT3.out bB
          replace HO1 : Hid (rStaF.rd wv5 (fun q => s1 ≤ q ∧ q < e1) [.slice oa n0 oc, .slice ob m0 od, .int .i64 t0] s) := Rep.below HO1.out bB
          replace R4 : Hid (Row wv5 o4 31 [.slice none 0 0, .slice none 0 0, .int .i64 0]) := R4.out.below bB
          replace HX3 : Hid (rFree.rd wv5 (fun q => s3 ≤ q ∧ q < e3) [.slice xb xn xd] dt) := Rep.below HX3.out bB
          have R5 : Hid (Row (wv5) o5 33 [.int .i64 0, .int .i64 0, .int .i64 0, .int .i64 0, .string ⟨#[]⟩, .slice none 0 0]) := by rw [ho]; exact vA
          have S5 := HSee.out _ BT5.out
          clear vA zA bA ho
          first | rw [hw, ho'] | (rw [hw]; try rw [ho'])
          clear bB
          go_simp
          refine hK.out _ _ ?_ (fun hH => ?_)
          · try dsimp only
            exact S5
          clear hK K
          refine r1L 6 rfl fun K hK => ?_
          · have p60 := R4.out.cell (j := 0) rfl
            have f60 := R4.out.frozen 0
            have p61 := R4.out.cell (j := 1) rfl
            have f61 := R4.out.frozen 1
            have p62 := R4.out.cell (j := 2) rfl
            have f62 := R4.out.frozen 2
            obtain ⟨wv6, hw6, VX, KX⟩ := R4.out.whole3 (.slice oa n0 oc) (.slice ob m0 od) (.int .i64 t0)
            have BT6 : Hid (Below w2.heap.size w2 wv6) := Kept.belowOf BT5.out KX (by have g1 := HZ1.out; have g4 := HZ4.out; have g3 := HZ3.out; have g5 := HZ5.out; unfold Hid at g1 g4 g3 g5; omega)
            replace HO1 : Hid (rStaF.rd wv6 (fun q => s1 ≤ q ∧ q < e1) [.slice oa n0 oc, .slice ob m0 od, .int .i64 t0] s) := Rep.kept HO1.out KX (fun q hq hl => by have h1 := hq.1; have h2 := hq.2; have g1 := HZ1.out; have g4 := HZ4.out; have g3 := HZ3.out; have g5 := HZ5.out; unfold Hid at g1 g4 g3 g5; show q ≠ o4; omega)
            replace HX3 : Hid (rFree.rd wv6 (fun q => s3 ≤ q ∧ q < e3) [.slice xb xn xd] dt) := Rep.kept HX3.out KX (fun q hq hl => by have h1 := hq.1; have h2 := hq.2; have g1 := HZ1.out; have g4 := HZ4.out; have g3 := HZ3.out; have g5 := HZ5.out; unfold Hid at g1 g4 g3 g5; show q ≠ o4; omega)
            replace R5 : Hid (Row wv6 o5 33 [.int .i64 0, .int .i64 0, .int .i64 0, .int .i64 0, .string ⟨#[]⟩, .slice none 0 0]) := R5.out.keep (KX.block _ (by have g1 := HZ1.out; have g4 := HZ4.out; have g3 := HZ3.out; have g5 := HZ5.out; unfold Hid at g1 g4 g3 g5; show o5 ≠ o4; omega))
            replace R4 : Hid (Row wv6 o4 31 [.slice oa n0 oc, .slice ob m0 od, .int .i64 t0]) := VX
            have S6 := HSee.out _ BT6.out
            clear VX KX
            go_simp
            refine hK.out _ _ ?_ (fun hH => ?_)
            · try dsimp only
              exact S6
            clear hK K
            refine r1L 7 rfl fun K hK => ?_
            · have p70 := R5.out.cell (j := 0) rfl
              have f70 := R5.out.frozen 0
              have p71 := R5.out.cell (j := 1) rfl
              have f71 := R5.out.frozen 1
              have p72 := R5.out.cell (j := 2) rfl
              have f72 := R5.out.frozen 2
              have p73 := R5.out.cell (j := 3) rfl
              have f73 := R5.out.frozen 3
              have p74 := R5.out.cell (j := 4) rfl
              have f74 := R5.out.frozen 4
              have p75 := R5.out.cell (j := 5) rfl
              have f75 := R5.out.frozen 5
              obtain ⟨wv7, hw7, VX, KX⟩ := R5.out.whole6 (.int .i64 k) (.int .i64 at') (.int .i64 N) (.int .i64 id) (.string nm) (.slice xb xn xd)
              have BT7 : Hid (Below w2.heap.size w2 wv7) := Kept.belowOf BT6.out KX (by have g1 := HZ1.out; have g4 := HZ4.out; have g3 := HZ3.out; have g5 := HZ5.out; unfold Hid at g1 g4 g3 g5; omega)
              replace HO1 : Hid (rStaF.rd wv7 (fun q => s1 ≤ q ∧ q < e1) [.slice oa n0 oc, .slice ob m0 od, .int .i64 t0] s) := Rep.kept HO1.out KX (fun q hq hl => by have h1 := hq.1; have h2 := hq.2; have g1 := HZ1.out; have g4 := HZ4.out; have g3 := HZ3.out; have g5 := HZ5.out; unfold Hid at g1 g4 g3 g5; show q ≠ o5; omega)
              replace R4 : Hid (Row wv7 o4 31 [.slice oa n0 oc, .slice ob m0 od, .int .i64 t0]) := R4.out.keep (KX.block _ (by have g1 := HZ1.out; have g4 := HZ4.out; have g3 := HZ3.out; have g5 := HZ5.out; unfold Hid at g1 g4 g3 g5; show o4 ≠ o5; omega))
              replace HX3 : Hid (rFree.rd wv7 (fun q => s3 ≤ q ∧ q < e3) [.slice xb xn xd] dt) := Rep.kept HX3.out KX (fun q hq hl => by have h1 := hq.1; have h2 := hq.2; have g1 := HZ1.out; have g4 := HZ4.out; have g3 := HZ3.out; have g5 := HZ5.out; unfold Hid at g1 g4 g3 g5; show q ≠ o5; omega)
              replace R5 : Hid (Row wv7 o5 33 [.int .i64 k, .int .i64 at', .int .i64 N, .int .i64 id, .string nm, .slice xb xn xd]) := VX
              have S7 := HSee.out _ BT7.out
              clear VX KX
              go_simp
              refine hK.out _ _ ?_ (fun hH => ?_)
              · try dsimp only
                exact S7
              clear hK K
              refine wpAnyH_done (by kernel_rfl) ?_ _
              clear hH S0 S1 S3 S4 S5 S6 S7
              go_wp2_with fail
              go_meet
              exact ⟨o4, o5, oa, oc, ob, od, xb, xd, rfl, rfl, by have g1 := HZ1.out; have g4 := HZ4.out; have g3 := HZ3.out; have g5 := HZ5.out; unfold Hid at g1 g4 g3 g5; exact ⟨by omega, by omega, by omega⟩, R4, R5, rStaF.weaken HO1.out (fun q hq hl => by have h1 := hq.1; have h2 := hq.2; have g1 := HZ1.out; have g4 := HZ4.out; have g3 := HZ3.out; have g5 := HZ5.out; unfold Hid at g1 g4 g3 g5; exact ⟨by omega, by omega, by omega⟩), rFree.weaken HX3.out (fun q hq hl => by have h1 := hq.1; have h2 := hq.2; have g1 := HZ1.out; have g4 := HZ4.out; have g3 := HZ3.out; have g5 := HZ5.out; unfold Hid at g1 g4 g3 g5; exact ⟨by omega, by omega, by omega⟩), BT7⟩
      refine rcL (fun K hK => ?_) ?_
      · go_simp
        obtain ⟨wv5, hw, vA, bA, zA⟩ := q0q wv4 33 [.int .i64 0, .int .i64 0, .int .i64 0, .int .i64 0, .string ⟨#[]⟩, .slice none 0 0]
        obtain ⟨o5, ho⟩ : ∃ o, o = wv4.heap.size := ⟨_, rfl⟩
        have HZ5 : Hid (o5 = wv4.heap.size ∧ wv5.heap.size = wv4.heap.size + 1 ∧ w2.heap.size ≤ wv4.heap.size) := ⟨ho, zA, BT4.out.size⟩
        have ho' : wv4.heap.size = o5 := ho.symm
        have bB : Below (wv4).heap.size (wv4) (wv5) := bA
        have BT5 : Hid _ := on BT4.out bB
        replace HO1 : Hid (rStaF.rd wv5 (fun q => s1 ≤ q ∧ q < e1) [.slice oa n0 oc, .slice ob m0 od, .int .i64 t0] s) := Rep.below HO1.out bB
        replace R4 : Hid (Row wv5 o4 31 [.slice none 0 0, .slice none 0 0, .int .i64 0]) := R4.out.below bB
        have R5 : Hid (Row (wv5) o5 33 [.int .i64 0, .int .i64 0, .int .i64 0, .int .i64 0, .string ⟨#[]⟩, .slice none 0 0]) := by rw [ho]; exact vA
        have S5 := HSee.out _ BT5.out
        clear vA zA bA ho
        first | rw [hw, ho'] | (rw [hw]; try rw [ho'])
        clear bB
        go_simp
        refine hK.out _ _ ?_ (fun hH => ?_)
        · try dsimp only
          exact S5
        clear hK K
        refine r1L 3 rfl fun K hK => ?_
        · go_simp
          go_at_call 10
          refine Calls.mono (q3Q (wv5) _ k at' N id nm dt xa xn xc (Rep.below Yx_2.out BT5.out)) ?_
          rintro e wv3 ⟨xb, xd, rfl, hq3, bq3⟩
          obtain ⟨s3, hs⟩ : ∃ z, z = wv5.heap.size := ⟨_, rfl⟩
          obtain ⟨e3, he⟩ : ∃ z, z = wv3.heap.size := ⟨_, rfl⟩
          have HX3 : Hid (rFree.rd wv3 (fun q => s3 ≤ q ∧ q < e3) [.slice xb xn xd] dt) := rFree.weaken hq3 (fun q hq hl => ⟨by have h : wv5.heap.size ≤ q := hq; omega, by omega⟩)
          have HZ3 : Hid (s3 = wv5.heap.size ∧ e3 = wv3.heap.size ∧ wv5.heap.size ≤ wv3.heap.size ∧ w2.heap.size ≤ wv5.heap.size) := ⟨hs, he, bq3.size, BT5.out.size⟩
          have BT3 : Hid _ := on BT5.out bq3
          replace HO1 : Hid (rStaF.rd wv3 (fun q => s1 ≤ q ∧ q < e1) [.slice oa n0 oc, .slice ob m0 od, .int .i64 t0] s) := Rep.below HO1.out bq3
          replace R4 : Hid (Row wv3 o4 31 [.slice none 0 0, .slice none 0 0, .int .i64 0]) := R4.out.below bq3
          replace R5 : Hid (Row wv3 o5 33 [.int .i64 0, .int .i64 0, .int .i64 0, .int .i64 0, .string ⟨#[]⟩, .slice none 0 0]) := R5.out.below bq3
          have S3 := HSee.out _ BT3.out
          clear hq3 bq3 hs he
          go_simp
          refine hK.out _ _ ?_ (fun hH => ?_)
          · try dsimp only
            exact S3
          clear hK K
          refine r1L 6 rfl fun K hK => ?_
          · have p60 := R4.out.cell (j := 0) rfl
            have f60 := R4.out.frozen 0
            have p61 := R4.out.cell (j := 1) rfl
            have f61 := R4.out.frozen 1
            have p62 := R4.out.cell (j := 2) rfl
            have f62 := R4.out.frozen 2
            obtain ⟨wv6, hw6, VX, KX⟩ := R4.out.whole3 (.slice oa n0 oc) (.slice ob m0 od) (.int .i64 t0)
            have BT6 : Hid (Below w2.heap.size w2 wv6) := Kept.belowOf BT3.out KX (by have g1 := HZ1.out; have g4 := HZ4.out; have g5 := HZ5.out; have g3 := HZ3.out; unfold Hid at g1 g4 g5 g3; omega)
            replace HO1 : Hid (rStaF.rd wv6 (fun q => s1 ≤ q ∧ q < e1) [.slice oa n0 oc, .slice ob m0 od, .int .i64 t0] s) := Rep.kept HO1.out KX (fun q hq hl => by have h1 := hq.1; have h2 := hq.2; have g1 := HZ1.out; have g4 := HZ4.out; have g5 := HZ5.out; have g3 := HZ3.out; unfold Hid at g1 g4 g5 g3; show q ≠ o4; omega)
            replace R5 : Hid (Row wv6 o5 33 [.int .i64 0, .int .i64 0, .int .i64 0, .int .i64 0, .string ⟨#[]⟩, .slice none 0 0]) := R5.out.keep (KX.block _ (by have g1 := HZ1.out; have g4 := HZ4.out; have g5 := HZ5.out; have g3 := HZ3.out; unfold Hid at g1 g4 g5 g3; show o5 ≠ o4; omega))
            replace HX3 : Hid (rFree.rd wv6 (fun q => s3 ≤ q ∧ q < e3) [.slice xb xn xd] dt) := Rep.kept HX3.out KX (fun q hq hl => by have h1 := hq.1; have h2 := hq.2; have g1 := HZ1.out; have g4 := HZ4.out; have g5 := HZ5.out; have g3 := HZ3.out; unfold Hid at g1 g4 g5 g3; show q ≠ o4; omega)
            replace R4 : Hid (Row wv6 o4 31 [.slice oa n0 oc, .slice ob m0 od, .int .i64 t0]) := VX
            have S6 := HSee.out _ BT6.out
            clear VX KX
            go_simp
            refine hK.out _ _ ?_ (fun hH => ?_)
            · try dsimp only
              exact S6
            clear hK K
            refine r1L 7 rfl fun K hK => ?_
            · have p70 := R5.out.cell (j := 0) rfl
              have f70 := R5.out.frozen 0
              have p71 := R5.out.cell (j := 1) rfl
              have f71 := R5.out.frozen 1
              have p72 := R5.out.cell (j := 2) rfl
              have f72 := R5.out.frozen 2
              have p73 := R5.out.cell (j := 3) rfl
              have f73 := R5.out.frozen 3
              have p74 := R5.out.cell (j := 4) rfl
              have f74 := R5.out.frozen 4
              have p75 := R5.out.cell (j := 5) rfl
              have f75 := R5.out.frozen 5
              obtain ⟨wv7, hw7, VX, KX⟩ := R5.out.whole6 (.int .i64 k) (.int .i64 at') (.int .i64 N) (.int .i64 id) (.string nm) (.slice xb xn xd)
              have BT7 : Hid (Below w2.heap.size w2 wv7) := Kept.belowOf BT6.out KX (by have g1 := HZ1.out; have g4 := HZ4.out; have g5 := HZ5.out; have g3 := HZ3.out; unfold Hid at g1 g4 g5 g3; omega)
              replace HO1 : Hid (rStaF.rd wv7 (fun q => s1 ≤ q ∧ q < e1) [.slice oa n0 oc, .slice ob m0 od, .int .i64 t0] s) := Rep.kept HO1.out KX (fun q hq hl => by have h1 := hq.1; have h2 := hq.2; have g1 := HZ1.out; have g4 := HZ4.out; have g5 := HZ5.out; have g3 := HZ3.out; unfold Hid at g1 g4 g5 g3; show q ≠ o5; omega)
              replace R4 : Hid (Row wv7 o4 31 [.slice oa n0 oc, .slice ob m0 od, .int .i64 t0]) := R4.out.keep (KX.block _ (by have g1 := HZ1.out; have g4 := HZ4.out; have g5 := HZ5.out; have g3 := HZ3.out; unfold Hid at g1 g4 g5 g3; show o4 ≠ o5; omega))
              replace HX3 : Hid (rFree.rd wv7 (fun q => s3 ≤ q ∧ q < e3) [.slice xb xn xd] dt) := Rep.kept HX3.out KX (fun q hq hl => by have h1 := hq.1; have h2 := hq.2; have g1 := HZ1.out; have g4 := HZ4.out; have g5 := HZ5.out; have g3 := HZ3.out; unfold Hid at g1 g4 g5 g3; show q ≠ o5; omega)
              replace R5 : Hid (Row wv7 o5 33 [.int .i64 k, .int .i64 at', .int .i64 N, .int .i64 id, .string nm, .slice xb xn xd]) := VX
              have S7 := HSee.out _ BT7.out
              clear VX KX
              go_simp
              refine hK.out _ _ ?_ (fun hH => ?_)
              · try dsimp only
                exact S7
              clear hK K
              refine wpAnyH_done (by kernel_rfl) ?_ _
              clear hH S0 S1 S3 S4 S5 S6 S7
              go_wp2_with fail
              go_meet
              exact ⟨o4, o5, oa, oc, ob, od, xb, xd, rfl, rfl, by have g1 := HZ1.out; have g4 := HZ4.out; have g5 := HZ5.out; have g3 := HZ3.out; unfold Hid at g1 g4 g5 g3; exact ⟨by omega, by omega, by omega⟩, R4, R5, rStaF.weaken HO1.out (fun q hq hl => by have h1 := hq.1; have h2 := hq.2; have g1 := HZ1.out; have g4 := HZ4.out; have g5 := HZ5.out; have g3 := HZ3.out; unfold Hid at g1 g4 g5 g3; exact ⟨by omega, by omega, by omega⟩), rFree.weaken HX3.out (fun q hq hl => by have h1 := hq.1; have h2 := hq.2; have g1 := HZ1.out; have g4 := HZ4.out; have g5 := HZ5.out; have g3 := HZ3.out; unfold Hid at g1 g4 g5 g3; exact ⟨by omega, by omega, by omega⟩), BT7⟩
      exact rnL
    refine rcL (fun K hK => ?_) ?_
    · go_simp
      obtain ⟨wv5, hw, vA, bA, zA⟩ := q0q wv1 33 [.int .i64 0, .int .i64 0, .int .i64 0, .int .i64 0, .string ⟨#[]⟩, .slice none 0 0]
      obtain ⟨o5, ho⟩ : ∃ o, o = wv1.heap.size := ⟨_, rfl⟩
      have HZ5 : Hid (o5 = wv1.heap.size ∧ wv5.heap.size = wv1.heap.size + 1 ∧ w2.heap.size ≤ wv1.heap.size) := ⟨ho, zA, BT1.out.size⟩
      have ho' : wv1.heap.size = o5 := ho.symm
      have bB : Below (wv1).heap.size (wv1) (wv5) := bA
      have BT5 : Hid _ := on BT1.out bB
      replace HO1 : Hid (rStaF.rd wv5 (fun q => s1 ≤ q ∧ q < e1) [.slice oa n0 oc, .slice ob m0 od, .int .i64 t0] s) := Rep.below HO1.out bB
      have R5 : Hid (Row (wv5) o5 33 [.int .i64 0, .int .i64 0, .int .i64 0, .int .i64 0, .string ⟨#[]⟩, .slice none 0 0]) := by rw [ho]; exact vA
      have S5 := HSee.out _ BT5.out
      clear vA zA bA ho
      first | rw [hw, ho'] | (rw [hw]; try rw [ho'])
      clear bB
      go_simp
      refine hK.out _ _ ?_ (fun hH => ?_)
      · try dsimp only
        exact S5
      clear hK K
      refine rdL [3, 4] ?_
      refine rcL (fun K hK => ?_) ?_
      · go_simp
        go_at_call 10
        refine Calls.mono (q3Q (wv5) _ k at' N id nm dt xa xn xc (Rep.below Yx_2.out BT5.out)) ?_
        rintro e wv3 ⟨xb, xd, rfl, hq3, bq3⟩
        obtain ⟨s3, hs⟩ : ∃ z, z = wv5.heap.size := ⟨_, rfl⟩
        obtain ⟨e3, he⟩ : ∃ z, z = wv3.heap.size := ⟨_, rfl⟩
        have HX3 : Hid (rFree.rd wv3 (fun q => s3 ≤ q ∧ q < e3) [.slice xb xn xd] dt) := rFree.weaken hq3 (fun q hq hl => ⟨by have h : wv5.heap.size ≤ q := hq; omega, by omega⟩)
        have HZ3 : Hid (s3 = wv5.heap.size ∧ e3 = wv3.heap.size ∧ wv5.heap.size ≤ wv3.heap.size ∧ w2.heap.size ≤ wv5.heap.size) := ⟨hs, he, bq3.size, BT5.out.size⟩
        have BT3 : Hid _ := on BT5.out bq3
        replace HO1 : Hid (rStaF.rd wv3 (fun q => s1 ≤ q ∧ q < e1) [.slice oa n0 oc, .slice ob m0 od, .int .i64 t0] s) := Rep.below HO1.out bq3
        replace R5 : Hid (Row wv3 o5 33 [.int .i64 0, .int .i64 0, .int .i64 0, .int .i64 0, .string ⟨#[]⟩, .slice none 0 0]) := R5.out.below bq3
        have S3 := HSee.out _ BT3.out
        clear hq3 bq3 hs he
        go_simp
        refine hK.out _ _ ?_ (fun hH => ?_)
        · try dsimp only
          exact S3
        clear hK K
        refine r1L 4 rfl fun K hK => ?_
        · go_simp
          obtain ⟨wv4, hw, vA, bA, zA⟩ := q0q wv3 31 [.slice none 0 0, .slice none 0 0, .int .i64 0]
          obtain ⟨o4, ho⟩ : ∃ o, o = wv3.heap.size := ⟨_, rfl⟩
          have HZ4 : Hid (o4 = wv3.heap.size ∧ wv4.heap.size = wv3.heap.size + 1 ∧ w2.heap.size ≤ wv3.heap.size) := ⟨ho, zA, BT3.out.size⟩
          have ho' : wv3.heap.size = o4 := ho.symm
          have bB : Below (wv3).heap.size (wv3) (wv4) := bA
          have BT4 : Hid _ := on BT3.out bB
          replace HO1 : Hid (rStaF.rd wv4 (fun q => s1 ≤ q ∧ q < e1) [.slice oa n0 oc, .slice ob m0 od, .int .i64 t0] s) := Rep.below HO1.out bB
          replace R5 : Hid (Row wv4 o5 33 [.int .i64 0, .int .i64 0, .int .i64 0, .int .i64 0, .string ⟨#[]⟩, .slice none 0 0]) := R5.out.below bB
          replace HX3 : Hid (rFree.rd wv4 (fun q => s3 ≤ q ∧ q < e3) [.slice xb xn xd] dt) := Rep.below HX3.out bB
          have R4 : Hid (Row (wv4) o4 31 [.slice none 0 0, .slice none 0 0, .int .i64 0]) := by rw [ho]; exact vA
          have S4 := HSee.out _ BT4.out
          clear vA zA bA ho
          first | rw [hw, ho'] | (rw [hw]; try rw [ho'])
          clear bB
          go_simp
          refine hK.out _ _ ?_ (fun hH => ?_)
          · try dsimp only
            exact S4
          clear hK K
          refine r1L 6 rfl fun K hK => ?_
          · have p60 := R4.out.cell (j := 0) rfl
            have f60 := R4.out.frozen 0
            have p61 := R4.out.cell (j := 1) rfl
            have f61 := R4.out.frozen 1
            have p62 := R4.out.cell (j := 2) rfl
            have f62 := R4.out.frozen 2
            obtain ⟨wv6, hw6, VX, KX⟩ := R4.out.whole3 (.slice oa n0 oc) (.slice ob m0 od) (.int .i64 t0)
            have BT6 : Hid (Below w2.heap.size w2 wv6) := Kept.belowOf BT4.out KX (by have g1 := HZ1.out; have g5 := HZ5.out; have g3 := HZ3.out; have g4 := HZ4.out; unfold Hid at g1 g5 g3 g4; omega)
            replace HO1 : Hid (rStaF.rd wv6 (fun q => s1 ≤ q ∧ q < e1) [.slice oa n0 oc, .slice ob m0 od, .int .i64 t0] s) := Rep.kept HO1.out KX (fun q hq hl => by have h1 := hq.1; have h2 := hq.2; have g1 := HZ1.out; have g5 := HZ5.out; have g3 := HZ3.out; have g4 := HZ4.out; unfold Hid at g1 g5 g3 g4; show q ≠ o4; omega)
            replace R5 : Hid (Row wv6 o5 33 [.int .i64 0, .int .i64 0, .int .i64 0, .int .i64 0, .string ⟨#[]⟩, .slice none 0 0]) := R5.out.keep (KX.block _ (by have g1 := HZ1.out; have g5 := HZ5.out; have g3 := HZ3.out; have g4 := HZ4.out; unfold Hid at g1 g5 g3 g4; show o5 ≠ o4; omega))
            replace HX3 : Hid (rFree.rd wv6 (fun q => s3 ≤ q ∧ q < e3) [.slice xb xn xd] dt) := Rep.kept HX3.out KX (fun q hq hl => by have h1 := hq.1; have h2 := hq.2; have g1 := HZ1.out; have g5 := HZ5.out; have g3 := HZ3.out; have g4 := HZ4.out; unfold Hid at g1 g5 g3 g4; show q ≠ o4; omega)
            replace R4 : Hid (Row wv6 o4 31 [.slice oa n0 oc, .slice ob m0 od, .int .i64 t0]) := VX
            have S6 := HSee.out _ BT6.out
            clear VX KX
            go_simp
            refine hK.out _ _ ?_ (fun hH => ?_)
            · try dsimp only
              exact S6
            clear hK K
            refine r1L 7 rfl fun K hK => ?_
            · have p70 := R5.out.cell (j := 0) rfl
              have f70 := R5.out.frozen 0
              have p71 := R5.out.cell (j := 1) rfl
              have f71 := R5.out.frozen 1
              have p72 := R5.out.cell (j := 2) rfl
              have f72 := R5.out.frozen 2
              have p73 := R5.out.cell (j := 3) rfl
              have f73 := R5.out.frozen 3
              have p74 := R5.out.cell (j := 4) rfl
              have f74 := R5.out.frozen 4
              have p75 := R5.out.cell (j := 5) rfl
              have f75 := R5.out.frozen 5
              obtain ⟨wv7, hw7, VX, KX⟩ := R5.out.whole6 (.int .i64 k) (.int .i64 at') (.int .i64 N) (.int .i64 id) (.string nm) (.slice xb xn xd)
              have BT7 : Hid (Below w2.heap.size w2 wv7) := Kept.belowOf BT6.out KX (by have g1 := HZ1.out; have g5 := HZ5.out; have g3 := HZ3.out; have g4 := HZ4.out; unfold Hid at g1 g5 g3 g4; omega)
              replace HO1 : Hid (rStaF.rd wv7 (fun q => s1 ≤ q ∧ q < e1) [.slice oa n0 oc, .slice ob m0 od, .int .i64 t0] s) := Rep.kept HO1.out KX (fun q hq hl => by have h1 := hq.1; have h2 := hq.2; have g1 := HZ1.out; have g5 := HZ5.out; have g3 := HZ3.out; have g4 := HZ4.out; unfold Hid at g1 g5 g3 g4; show q ≠ o5; omega)
              replace HX3 : Hid (rFree.rd wv7 (fun q => s3 ≤ q ∧ q < e3) [.slice xb xn xd] dt) := Rep.kept HX3.out KX (fun q hq hl => by have h1 := hq.1; have h2 := hq.2; have g1 := HZ1.out; have g5 := HZ5.out; have g3 := HZ3.out; have g4 := HZ4.out; unfold Hid at g1 g5 g3 g4; show q ≠ o5; omega)
              replace R4 : Hid (Row wv7 o4 31 [.slice oa n0 oc, .slice ob m0 od, .int .i64 t0]) := R4.out.keep (KX.block _ (by have g1 := HZ1.out; have g5 := HZ5.out; have g3 := HZ3.out; have g4 := HZ4.out; unfold Hid at g1 g5 g3 g4; show o4 ≠ o5; omega))
              replace R5 : Hid (Row wv7 o5 33 [.int .i64 k, .int .i64 at', .int .i64 N, .int .i64 id, .string nm, .slice xb xn xd]) := VX
              have S7 := HSee.out _ BT7.out
              clear VX KX
              go_simp
              refine hK.out _ _ ?_ (fun hH => ?_)
              · try dsimp only
                exact S7
              clear hK K
              refine wpAnyH_done (by kernel_rfl) ?_ _
              clear hH S0 S1 S3 S4 S5 S6 S7
              go_wp2_with fail
              go_meet
              exact ⟨o4, o5, oa, oc, ob, od, xb, xd, rfl, rfl, by have g1 := HZ1.out; have g5 := HZ5.out; have g3 := HZ3.out; have g4 := HZ4.out; unfold Hid at g1 g5 g3 g4; exact ⟨by omega, by omega, by omega⟩, R4, R5, rStaF.weaken HO1.out (fun q hq hl => by have h1 := hq.1; have h2 := hq.2; have g1 := HZ1.out; have g5 := HZ5.out; have g3 := HZ3.out; have g4 := HZ4.out; unfold Hid at g1 g5 g3 g4; exact ⟨by omega, by omega, by omega⟩), rFree.weaken HX3.out (fun q hq hl => by have h1 := hq.1; have h2 := hq.2; have g1 := HZ1.out; have g5 := HZ5.out; have g3 := HZ3.out; have g4 := HZ4.out; unfold Hid at g1 g5 g3 g4; exact ⟨by omega, by omega, by omega⟩), BT7⟩
      refine rcL (fun K hK => ?_) ?_
      · go_simp
        obtain ⟨wv4, hw, vA, bA, zA⟩ := q0q wv5 31 [.slice none 0 0, .slice none 0 0, .int .i64 0]
        obtain ⟨o4, ho⟩ : ∃ o, o = wv5.heap.size := ⟨_, rfl⟩
        have HZ4 : Hid (o4 = wv5.heap.size ∧ wv4.heap.size = wv5.heap.size + 1 ∧ w2.heap.size ≤ wv5.heap.size) := ⟨ho, zA, BT5.out.size⟩
        have ho' : wv5.heap.size = o4 := ho.symm
        have bB : Below (wv5).heap.size (wv5) (wv4) := bA
        have BT4 : Hid _ := on BT5.out bB
        replace HO1 : Hid (rStaF.rd wv4 (fun q => s1 ≤ q ∧ q < e1) [.slice oa n0 oc, .slice ob m0 od, .int .i64 t0] s) := Rep.below HO1.out bB
        replace R5 : Hid (Row wv4 o5 33 [.int .i64 0, .int .i64 0, .int .i64 0, .int .i64 0, .string ⟨#[]⟩, .slice none 0 0]) := R5.out.below bB
        have R4 : Hid (Row (wv4) o4 31 [.slice none 0 0, .slice none 0 0, .int .i64 0]) := by rw [ho]; exact vA
        have S4 := HSee.out _ BT4.out
        clear vA zA bA ho
        first | rw [hw, ho'] | (rw [hw]; try rw [ho'])
        clear bB
        go_simp
        refine hK.out _ _ ?_ (fun hH => ?_)
        · try dsimp only
          exact S4
        clear hK K
        refine r1L 3 rfl fun K hK => ?_
        · go_simp
          go_at_call 10
          refine Calls.mono (q3Q (wv4) _ k at' N id nm dt xa xn xc (Rep.below Yx_2.out BT4.out)) ?_
          rintro e wv3 ⟨xb, xd, rfl, hq3, bq3⟩
          obtain ⟨s3, hs⟩ : ∃ z, z = wv4.heap.size := ⟨_, rfl⟩
          obtain ⟨e3, he⟩ : ∃ z, z = wv3.heap.size := ⟨_, rfl⟩
          have HX3 : Hid (rFree.rd wv3 (fun q => s3 ≤ q ∧ q < e3) [.slice xb xn xd] dt) := rFree.weaken hq3 (fun q hq hl => ⟨by have h : wv4.heap.size ≤ q := hq; omega, by omega⟩)
          have HZ3 : Hid (s3 = wv4.heap.size ∧ e3 = wv3.heap.size ∧ wv4.heap.size ≤ wv3.heap.size ∧ w2.heap.size ≤ wv4.heap.size) := ⟨hs, he, bq3.size, BT4.out.size⟩
          have BT3 : Hid _ := on BT4.out bq3
          replace HO1 : Hid (rStaF.rd wv3 (fun q => s1 ≤ q ∧ q < e1) [.slice oa n0 oc, .slice ob m0 od, .int .i64 t0] s) := Rep.below HO1.out bq3
          replace R5 : Hid (Row wv3 o5 33 [.int .i64 0, .int .i64 0, .int .i64 0, .int .i64 0, .string ⟨#[]⟩, .slice none 0 0]) := R5.out.below bq3
          replace R4 : Hid (Row wv3 o4 31 [.slice none 0 0, .slice none 0 0, .int .i64 0]) := R4.out.below bq3
          have S3 := HSee.out _ BT3.out
          clear hq3 bq3 hs he
          go_simp
          refine hK.out _ _ ?_ (fun hH => ?_)
          · try dsimp only
            exact S3
          clear hK K
          refine r1L 6 rfl fun K hK => ?_
          · have p60 := R4.out.cell (j := 0) rfl
            have f60 := R4.out.frozen 0
            have p61 := R4.out.cell (j := 1) rfl
            have f61 := R4.out.frozen 1
            have p62 := R4.out.cell (j := 2) rfl
            have f62 := R4.out.frozen 2
            obtain ⟨wv6, hw6, VX, KX⟩ := R4.out.whole3 (.slice oa n0 oc) (.slice ob m0 od) (.int .i64 t0)
            have BT6 : Hid (Below w2.heap.size w2 wv6) := Kept.belowOf BT3.out KX (by have g1 := HZ1.out; have g5 := HZ5.out; have g4 := HZ4.out; have g3 := HZ3.out; unfold Hid at g1 g5 g4 g3; omega)
            replace HO1 : Hid (rStaF.rd wv6 (fun q => s1 ≤ q ∧ q < e1) [.slice oa n0 oc, .slice ob m0 od, .int .i64 t0] s) := Rep.kept HO1.out KX (fun q hq hl => by have h1 := hq.1; have h2 := hq.2; have g1 := HZ1.out; have g5 := HZ5.out; have g4 := HZ4.out; have g3 := HZ3.out; unfold Hid at g1 g5 g4 g3; show q ≠ o4; omega)
            replace R5 : Hid (Row wv6 o5 33 [.int .i64 0, .int .i64 0, .int .i64 0, .int .i64 0, .string ⟨#[]⟩, .slice none 0 0]) := R5.out.keep (KX.block _ (by have g1 := HZ1.out; have g5 := HZ5.out; have g4 := HZ4.out; have g3 := HZ3.out; unfold Hid at g1 g5 g4 g3; show o5 ≠ o4; omega))
            replace HX3 : Hid (rFree.rd wv6 (fun q => s3 ≤ q ∧ q < e3) [.slice xb xn xd] dt) := Rep.kept HX3.out KX (fun q hq hl => by have h1 := hq.1; have h2 := hq.2; have g1 := HZ1.out; have g5 := HZ5.out; have g4 := HZ4.out; have g3 := HZ3.out; unfold Hid at g1 g5 g4 g3; show q ≠ o4; omega)
            replace R4 : Hid (Row wv6 o4 31 [.slice oa n0 oc, .slice ob m0 od, .int .i64 t0]) := VX
            have S6 := HSee.out _ BT6.out
            clear VX KX
            go_simp
            refine hK.out _ _ ?_ (fun hH => ?_)
            · try dsimp only
              exact S6
            clear hK K
            refine r1L 7 rfl fun K hK => ?_
            · have p70 := R5.out.cell (j := 0) rfl
              have f70 := R5.out.frozen 0
              have p71 := R5.out.cell (j := 1) rfl
              have f71 := R5.out.frozen 1
              have p72 := R5.out.cell (j := 2) rfl
              have f72 := R5.out.frozen 2
              have p73 := R5.out.cell (j := 3) rfl
              have f73 := R5.out.frozen 3
              have p74 := R5.out.cell (j := 4) rfl
              have f74 := R5.out.frozen 4
              have p75 := R5.out.cell (j := 5) rfl
              have f75 := R5.out.frozen 5
              obtain ⟨wv7, hw7, VX, KX⟩ := R5.out.whole6 (.int .i64 k) (.int .i64 at') (.int .i64 N) (.int .i64 id) (.string nm) (.slice xb xn xd)
              have BT7 : Hid (Below w2.heap.size w2 wv7) := Kept.belowOf BT6.out KX (by have g1 := HZ1.out; have g5 := HZ5.out; have g4 := HZ4.out; have g3 := HZ3.out; unfold Hid at g1 g5 g4 g3; omega)
              replace HO1 : Hid (rStaF.rd wv7 (fun q => s1 ≤ q ∧ q < e1) [.slice oa n0 oc, .slice ob m0 od, .int .i64 t0] s) := Rep.kept HO1.out KX (fun q hq hl => by have h1 := hq.1; have h2 := hq.2; have g1 := HZ1.out; have g5 := HZ5.out; have g4 := HZ4.out; have g3 := HZ3.out; unfold Hid at g1 g5 g4 g3; show q ≠ o5; omega)
              replace R4 : Hid (Row wv7 o4 31 [.slice oa n0 oc, .slice ob m0 od, .int .i64 t0]) := R4.out.keep (KX.block _ (by have g1 := HZ1.out; have g5 := HZ5.out; have g4 := HZ4.out; have g3 := HZ3.out; unfold Hid at g1 g5 g4 g3; show o4 ≠ o5; omega))
              replace HX3 : Hid (rFree.rd wv7 (fun q => s3 ≤ q ∧ q < e3) [.slice xb xn xd] dt) := Rep.kept HX3.out KX (fun q hq hl => by have h1 := hq.1; have h2 := hq.2; have g1 := HZ1.out; have g5 := HZ5.out; have g4 := HZ4.out; have g3 := HZ3.out; unfold Hid at g1 g5 g4 g3; show q ≠ o5; omega)
              replace R5 : Hid (Row wv7 o5 33 [.int .i64 k, .int .i64 at', .int .i64 N, .int .i64 id, .string nm, .slice xb xn xd]) := VX
              have S7 := HSee.out _ BT7.out
              clear VX KX
              go_simp
              refine hK.out _ _ ?_ (fun hH => ?_)
              · try dsimp only
                exact S7
              clear hK K
              refine wpAnyH_done (by kernel_rfl) ?_ _
              clear hH S0 S1 S3 S4 S5 S6 S7
              go_wp2_with fail
              go_meet
              exact ⟨o4, o5, oa, oc, ob, od, xb, xd, rfl, rfl, by have g1 := HZ1.out; have g5 := HZ5.out; have g4 := HZ4.out; have g3 := HZ3.out; unfold Hid at g1 g5 g4 g3; exact ⟨by omega, by omega, by omega⟩, R4, R5, rStaF.weaken HO1.out (fun q hq hl => by have h1 := hq.1; have h2 := hq.2; have g1 := HZ1.out; have g5 := HZ5.out; have g4 := HZ4.out; have g3 := HZ3.out; unfold Hid at g1 g5 g4 g3; exact ⟨by omega, by omega, by omega⟩), rFree.weaken HX3.out (fun q hq hl => by have h1 := hq.1; have h2 := hq.2; have g1 := HZ1.out; have g5 := HZ5.out; have g4 := HZ4.out; have g3 := HZ3.out; unfold Hid at g1 g5 g4 g3; exact ⟨by omega, by omega, by omega⟩), BT7⟩
      exact rnL
    exact rnL
  refine rcL (fun K hK => ?_) ?_
  · go_simp
    obtain ⟨wn4, hw, vA, bA, zA⟩ := q0q w2 31 [.slice none 0 0, .slice none 0 0, .int .i64 0]
    obtain ⟨o4, ho⟩ : ∃ o, o = w2.heap.size := ⟨_, rfl⟩
    have HZ4 : Hid (o4 = w2.heap.size ∧ wn4.heap.size = w2.heap.size + 1 ∧ w2.heap.size ≤ w2.heap.size) := ⟨ho, zA, Nat.le_refl _⟩
    have ho' : w2.heap.size = o4 := ho.symm
    have bB : Below (w2.drew).heap.size (w2.drew) (wn4.drew) := q6j bA
    have BT4 : Hid (Below w2.heap.size w2 (wn4.drew)) := (Below.refl _ w2).drew.trans bB
    skip
    have R4 : Hid (Row (wn4.drew) o4 31 [.slice none 0 0, .slice none 0 0, .int .i64 0]) := by rw [ho]; exact vA.keep rfl
    have S4 := HSee.out _ BT4.out
    clear vA zA bA ho
    first | rw [hw, ho'] | (rw [hw]; try rw [ho'])
    clear bB
    go_simp
    refine hK.out _ _ ?_ (fun hH => ?_)
    · try dsimp only
      exact S4
    clear hK K
    refine rdL [1, 5] ?_
    refine rcL (fun K hK => ?_) ?_
    · go_simp
      go_at_call 9
      refine Calls.mono (ofV (wn4.drew) _ a0 b0 n0 c0 m0 d0 t0 s (Rep.below Ds_2.out BT4.out)) ?_
      rintro e wv1 ⟨oa, oc, ob, od, rfl, hq1, bq1⟩
      obtain ⟨s1, hs⟩ : ∃ z, z = wn4.heap.size := ⟨_, rfl⟩
      obtain ⟨e1, he⟩ : ∃ z, z = wv1.heap.size := ⟨_, rfl⟩
      have HO1 : Hid (rStaF.rd wv1 (fun q => s1 ≤ q ∧ q < e1) [.slice oa n0 oc, .slice ob m0 od, .int .i64 t0] s) := rStaF.weaken hq1 (fun q hq hl => ⟨by have h : wn4.heap.size ≤ q := hq; omega, by omega⟩)
      have HZ1 : Hid (s1 = wn4.heap.size ∧ e1 = wv1.heap.size ∧ wn4.heap.size ≤ wv1.heap.size ∧ w2.heap.size ≤ wn4.heap.size) := ⟨hs, he, bq1.size, BT4.out.size⟩
      have BT1 : Hid _ := on BT4.out bq1
      replace R4 : Hid (Row wv1 o4 31 [.slice none 0 0, .slice none 0 0, .int .i64 0]) := R4.out.below bq1
      have S1 := HSee.out _ BT1.out
      clear hq1 bq1 hs he
      go_simp
      refine hK.out _ _ ?_ (fun hH => ?_)
      · try dsimp only
        exact S1
      clear hK K
      refine rdL [3, 5] ?_
      refine rcL (fun K hK => ?_) ?_
      · go_simp
        go_at_call 10
        refine Calls.mono (q3Q (wv1) _ k at' N id nm dt xa xn xc (Rep.below Yx_2.out BT1.out)) ?_
        rintro e wv3 ⟨xb, xd, rfl, hq3, bq3⟩
        obtain ⟨s3, hs⟩ : ∃ z, z = wv1.heap.size := ⟨_, rfl⟩
        obtain ⟨e3, he⟩ : ∃ z, z = wv3.heap.size := ⟨_, rfl⟩
        have HX3 : Hid (rFree.rd wv3 (fun q => s3 ≤ q ∧ q < e3) [.slice xb xn xd] dt) := rFree.weaken hq3 (fun q hq hl => ⟨by have h : wv1.heap.size ≤ q := hq; omega, by omega⟩)
        have HZ3 : Hid (s3 = wv1.heap.size ∧ e3 = wv3.heap.size ∧ wv1.heap.size ≤ wv3.heap.size ∧ w2.heap.size ≤ wv1.heap.size) := ⟨hs, he, bq3.size, BT1.out.size⟩
        have BT3 : Hid _ := on BT1.out bq3
        replace R4 : Hid (Row wv3 o4 31 [.slice none 0 0, .slice none 0 0, .int .i64 0]) := R4.out.below bq3
        replace HO1 : Hid (rStaF.rd wv3 (fun q => s1 ≤ q ∧ q < e1) [.slice oa n0 oc, .slice ob m0 od, .int .i64 t0] s) := Rep.below HO1.out bq3
        have S3 := HSee.out _ BT3.out
        clear hq3 bq3 hs he
        go_simp
        refine hK.out _ _ ?_ (fun hH => ?_)
        · try dsimp only
          exact S3
        clear hK K
        refine r1L 5 rfl fun K hK => ?_
        · go_simp
          obtain ⟨wv5, hw, vA, bA, zA⟩ := q0q wv3 33 [.int .i64 0, .int .i64 0, .int .i64 0, .int .i64 0, .string ⟨#[]⟩, .slice none 0 0]
          obtain ⟨o5, ho⟩ : ∃ o, o = wv3.heap.size := ⟨_, rfl⟩
          have HZ5 : Hid (o5 = wv3.heap.size ∧ wv5.heap.size = wv3.heap.size + 1 ∧ w2.heap.size ≤ wv3.heap.size) := ⟨ho, zA, BT3.out.size⟩
          have ho' : wv3.heap.size = o5 := ho.symm
          have bB : Below (wv3).heap.size (wv3) (wv5) := bA
          have BT5 : Hid _ := on BT3.out bB
          replace R4 : Hid (Row wv5 o4 31 [.slice none 0 0, .slice none 0 0, .int .i64 0]) := R4.out.below bB
          replace HO1 : Hid (rStaF.rd wv5 (fun q => s1 ≤ q ∧ q < e1) [.slice oa n0 oc, .slice ob m0 od, .int .i64 t0] s) := Rep.below HO1.out bB
          replace HX3 : Hid (rFree.rd wv5 (fun q => s3 ≤ q ∧ q < e3) [.slice xb xn xd] dt) := Rep.below HX3.out bB
          have R5 : Hid (Row (wv5) o5 33 [.int .i64 0, .int .i64 0, .int .i64 0, .int .i64 0, .string ⟨#[]⟩, .slice none 0 0]) := by rw [ho]; exact vA
          have S5 := HSee.out _ BT5.out
          clear vA zA bA ho
          first | rw [hw, ho'] | (rw [hw]; try rw [ho'])
          clear bB
          go_simp
          refine hK.out _ _ ?_ (fun hH => ?_)
          · try dsimp only
            exact S5
          clear hK K
          refine r1L 6 rfl fun K hK => ?_
          · have p60 := R4.out.cell (j := 0) rfl
            have f60 := R4.out.frozen 0
            have p61 := R4.out.cell (j := 1) rfl
            have f61 := R4.out.frozen 1
            have p62 := R4.out.cell (j := 2) rfl
            have f62 := R4.out.frozen 2
            obtain ⟨wv6, hw6, VX, KX⟩ := R4.out.whole3 (.slice oa n0 oc) (.slice ob m0 od) (.int .i64 t0)
            have BT6 : Hid (Below w2.heap.size w2 wv6) := Kept.belowOf BT5.out KX (by have g4 := HZ4.out; have g1 := HZ1.out; have g3 := HZ3.out; have g5 := HZ5.out; unfold Hid at g4 g1 g3 g5; omega)
            replace HO1 : Hid (rStaF.rd wv6 (fun q => s1 ≤ q ∧ q < e1) [.slice oa n0 oc, .slice ob m0 od, .int .i64 t0] s) := Rep.kept HO1.out KX (fun q hq hl => by have h1 := hq.1; have h2 := hq.2; have g4 := HZ4.out; have g1 := HZ1.out; have g3 := HZ3.out; have g5 := HZ5.out; unfold Hid at g4 g1 g3 g5; show q ≠ o4; omega)
            replace HX3 : Hid (rFree.rd wv6 (fun q => s3 ≤ q ∧ q < e3) [.slice xb xn xd] dt) := Rep.kept HX3.out KX (fun q hq hl => by have h1 := hq.1; have h2 := hq.2; have g4 := HZ4.out; have g1 := HZ1.out; have g3 := HZ3.out; have g5 := HZ5.out; unfold Hid at g4 g1 g3 g5; show q ≠ o4; omega)
            replace R5 : Hid (Row wv6 o5 33 [.int .i64 0, .int .i64 0, .int .i64 0, .int .i64 0, .string ⟨#[]⟩, .slice none 0 0]) := R5.out.keep (KX.block _ (by have g4 := HZ4.out; have g1 := HZ1.out; have g3 := HZ3.out; have g5 := HZ5.out; unfold Hid at g4 g1 g3 g5; show o5 ≠ o4; omega))
            replace R4 : Hid (Row wv6 o4 31 [.slice oa n0 oc, .slice ob m0 od, .int .i64 t0]) := VX
            have S6 := HSee.out _ BT6.out
            clear VX KX
            go_simp
            refine hK.out _ _ ?_ (fun hH => ?_)
            · try dsimp only
              exact S6
            clear hK K
            refine r1L 7 rfl fun K hK => ?_
            · have p70 := R5.out.cell (j := 0) rfl
              have f70 := R5.out.frozen 0
              have p71 := R5.out.cell (j := 1) rfl
              have f71 := R5.out.frozen 1
              have p72 := R5.out.cell (j := 2) rfl
              have f72 := R5.out.frozen 2
              have p73 := R5.out.cell (j := 3) rfl
              have f73 := R5.out.frozen 3
              have p74 := R5.out.cell (j := 4) rfl
              have f74 := R5.out.frozen 4
              have p75 := R5.out.cell (j := 5) rfl
              have f75 := R5.out.frozen 5
              obtain ⟨wv7, hw7, VX, KX⟩ := R5.out.whole6 (.int .i64 k) (.int .i64 at') (.int .i64 N) (.int .i64 id) (.string nm) (.slice xb xn xd)
              have BT7 : Hid (Below w2.heap.size w2 wv7) := Kept.belowOf BT6.out KX (by have g4 := HZ4.out; have g1 := HZ1.out; have g3 := HZ3.out; have g5 := HZ5.out; unfold Hid at g4 g1 g3 g5; omega)
              replace R4 : Hid (Row wv7 o4 31 [.slice oa n0 oc, .slice ob m0 od, .int .i64 t0]) := R4.out.keep (KX.block _ (by have g4 := HZ4.out; have g1 := HZ1.out; have g3 := HZ3.out; have g5 := HZ5.out; unfold Hid at g4 g1 g3 g5; show o4 ≠ o5; omega))
              replace HO1 : Hid (rStaF.rd wv7 (fun q => s1 ≤ q ∧ q < e1) [.slice oa n0 oc, .slice ob m0 od, .int .i64 t0] s) := Rep.kept HO1.out KX (fun q hq hl => by have h1 := hq.1; have h2 := hq.2; have g4 := HZ4.out; have g1 := HZ1.out; have g3 := HZ3.out; have g5 := HZ5.out; unfold Hid at g4 g1 g3 g5; show q ≠ o5; omega)
              replace HX3 : Hid (rFree.rd wv7 (fun q => s3 ≤ q ∧ q < e3) [.slice xb xn xd] dt) := Rep.kept HX3.out KX (fun q hq hl => by have h1 := hq.1; have h2 := hq.2; have g4 := HZ4.out; have g1 := HZ1.out; have g3 := HZ3.out; have g5 := HZ5.out; unfold Hid at g4 g1 g3 g5; show q ≠ o5; omega)
              replace R5 : Hid (Row wv7 o5 33 [.int .i64 k, .int .i64 at', .int .i64 N, .int .i64 id, .string nm, .slice xb xn xd]) := VX
              have S7 := HSee.out _ BT7.out
              clear VX KX
              go_simp
              refine hK.out _ _ ?_ (fun hH => ?_)
              · try dsimp only
                exact S7
              clear hK K
              refine wpAnyH_done (by kernel_rfl) ?_ _
              clear hH S0 S1 S3 S4 S5 S6 S7
              go_wp2_with fail
              go_meet
              exact ⟨o4, o5, oa, oc, ob, od, xb, xd, rfl, rfl, by have g4 := HZ4.out; have g1 := HZ1.out; have g3 := HZ3.out; have g5 := HZ5.out; unfold Hid at g4 g1 g3 g5; exact ⟨by omega, by omega, by omega⟩, R4, R5, rStaF.weaken HO1.out (fun q hq hl => by have h1 := hq.1; have h2 := hq.2; have g4 := HZ4.out; have g1 := HZ1.out; have g3 := HZ3.out; have g5 := HZ5.out; unfold Hid at g4 g1 g3 g5; exact ⟨by omega, by omega, by omega⟩), rFree.weaken HX3.out (fun q hq hl => by have h1 := hq.1; have h2 := hq.2; have g4 := HZ4.out; have g1 := HZ1.out; have g3 := HZ3.out; have g5 := HZ5.out; unfold Hid at g4 g1 g3 g5; exact ⟨by omega, by omega, by omega⟩), BT7⟩
      refine rcL (fun K hK => ?_) ?_
      · go_simp
        obtain ⟨wv5, hw, vA, bA, zA⟩ := q0q wv1 33 [.int .i64 0, .int .i64 0, .int .i64 0, .int .i64 0, .string ⟨#[]⟩, .slice none 0 0]
        obtain ⟨o5, ho⟩ : ∃ o, o = wv1.heap.size := ⟨_, rfl⟩
        have HZ5 : Hid (o5 = wv1.heap.size ∧ wv5.heap.size = wv1.heap.size + 1 ∧ w2.heap.size ≤ wv1.heap.size) := ⟨ho, zA, BT1.out.size⟩
        have ho' : wv1.heap.size = o5 := ho.symm
        have bB : Below (wv1).heap.size (wv1) (wv5) := bA
        have BT5 : Hid _ := on BT1.out bB
        replace R4 : Hid (Row wv5 o4 31 [.slice none 0 0, .slice none 0 0, .int .i64 0]) := R4.out.below bB
        replace HO1 : Hid (rStaF.rd wv5 (fun q => s1 ≤ q ∧ q < e1) [.slice oa n0 oc, .slice ob m0 od, .int .i64 t0] s) := Rep.below HO1.out bB
        have R5 : Hid (Row (wv5) o5 33 [.int .i64 0, .int .i64 0, .int .i64 0, .int .i64 0, .string ⟨#[]⟩, .slice none 0 0]) := by rw [ho]; exact vA
        have S5 := HSee.out _ BT5.out
        clear vA zA bA ho
        first | rw [hw, ho'] | (rw [hw]; try rw [ho'])
        clear bB
        go_simp
        refine hK.out _ _ ?_ (fun hH => ?_)
        · try dsimp only
          exact S5
        clear hK K
        refine r1L 3 rfl fun K hK => ?_
        · go_simp
          go_at_call 10
          refine Calls.mono (q3Q (wv5) _ k at' N id nm dt xa xn xc (Rep.below Yx_2.out BT5.out)) ?_
          rintro e wv3 ⟨xb, xd, rfl, hq3, bq3⟩
          obtain ⟨s3, hs⟩ : ∃ z, z = wv5.heap.size := ⟨_, rfl⟩
          obtain ⟨e3, he⟩ : ∃ z, z = wv3.heap.size := ⟨_, rfl⟩
          have HX3 : Hid (rFree.rd wv3 (fun q => s3 ≤ q ∧ q < e3) [.slice xb xn xd] dt) := rFree.weaken hq3 (fun q hq hl => ⟨by have h : wv5.heap.size ≤ q := hq; omega, by omega⟩)
          have HZ3 : Hid (s3 = wv5.heap.size ∧ e3 = wv3.heap.size ∧ wv5.heap.size ≤ wv3.heap.size ∧ w2.heap.size ≤ wv5.heap.size) := ⟨hs, he, bq3.size, BT5.out.size⟩
          have BT3 : Hid _ := on BT5.out bq3
          replace R4 : Hid (Row wv3 o4 31 [.slice none 0 0, .slice none 0 0, .int .i64 0]) := R4.out.below bq3
          replace HO1 : Hid (rStaF.rd wv3 (fun q => s1 ≤ q ∧ q < e1) [.slice oa n0 oc, .slice ob m0 od, .int .i64 t0] s) := Rep.below HO1.out bq3
          replace R5 : Hid (Row wv3 o5 33 [.int .i64 0, .int .i64 0, .int .i64 0, .int .i64 0, .string ⟨#[]⟩, .slice none 0 0]) := R5.out.below bq3
          have S3 := HSee.out _ BT3.out
          clear hq3 bq3 hs he
          go_simp
          refine hK.out _ _ ?_ (fun hH => ?_)
          · try dsimp only
            exact S3
          clear hK K
          refine r1L 6 rfl fun K hK => ?_
          · have p60 := R4.out.cell (j := 0) rfl
            have f60 := R4.out.frozen 0
            have p61 := R4.out.cell (j := 1) rfl
            have f61 := R4.out.frozen 1
            have p62 := R4.out.cell (j := 2) rfl
            have f62 := R4.out.frozen 2
            obtain ⟨wv6, hw6, VX, KX⟩ := R4.out.whole3 (.slice oa n0 oc) (.slice ob m0 od) (.int .i64 t0)
            have BT6 : Hid (Below w2.heap.size w2 wv6) := Kept.belowOf BT3.out KX (by have g4 := HZ4.out; have g1 := HZ1.out; have g5 := HZ5.out; have g3 := HZ3.out; unfold Hid at g4 g1 g5 g3; omega)
            replace HO1 : Hid (rStaF.rd wv6 (fun q => s1 ≤ q ∧ q < e1) [.slice oa n0 oc, .slice ob m0 od, .int .i64 t0] s) := Rep.kept HO1.out KX (fun q hq hl => by have h1 := hq.1; have h2 := hq.2; have g4 := HZ4.out; have g1 := HZ1.out; have g5 := HZ5.out; have g3 := HZ3.out; unfold Hid at g4 g1 g5 g3; show q ≠ o4; omega)
            replace R5 : Hid (Row wv6 o5 33 [.int .i64 0, .int .i64 0, .int .i64 0, .int .i64 0, .string ⟨#[]⟩, .slice none 0 0]) := R5.out.keep (KX.block _ (by have g4 := HZ4.out; have g1 := HZ1.out; have g5 := HZ5.out; have g3 := HZ3.out; unfold Hid at g4 g1 g5 g3; show o5 ≠ o4; omega))
            replace HX3 : Hid (rFree.rd wv6 (fun q => s3 ≤ q ∧ q < e3) [.slice xb xn xd] dt) := Rep.kept HX3.out KX (fun q hq hl => by have h1 := hq.1; have h2 := hq.2; have g4 := HZ4.out; have g1 := HZ1.out; have g5 := HZ5.out; have g3 := HZ3.out; unfold Hid at g4 g1 g5 g3; show q ≠ o4; omega)
            replace R4 : Hid (Row wv6 o4 31 [.slice oa n0 oc, .slice ob m0 od, .int .i64 t0]) := VX
            have S6 := HSee.out _ BT6.out
            clear VX KX
            go_simp
            refine hK.out _ _ ?_ (fun hH => ?_)
            · try dsimp only
              exact S6
            clear hK K
            refine r1L 7 rfl fun K hK => ?_
            · have p70 := R5.out.cell (j := 0) rfl
              have f70 := R5.out.frozen 0
              have p71 := R5.out.cell (j := 1) rfl
              have f71 := R5.out.frozen 1
              have p72 := R5.out.cell (j := 2) rfl
              have f72 := R5.out.frozen 2
              have p73 := R5.out.cell (j := 3) rfl
              have f73 := R5.out.frozen 3
              have p74 := R5.out.cell (j := 4) rfl
              have f74 := R5.out.frozen 4
              have p75 := R5.out.cell (j := 5) rfl
              have f75 := R5.out.frozen 5
              obtain ⟨wv7, hw7, VX, KX⟩ := R5.out.whole6 (.int .i64 k) (.int .i64 at') (.int .i64 N) (.int .i64 id) (.string nm) (.slice xb xn xd)
              have BT7 : Hid (Below w2.heap.size w2 wv7) := Kept.belowOf BT6.out KX (by have g4 := HZ4.out; have g1 := HZ1.out; have g5 := HZ5.out; have g3 := HZ3.out; unfold Hid at g4 g1 g5 g3; omega)
              replace R4 : Hid (Row wv7 o4 31 [.slice oa n0 oc, .slice ob m0 od, .int .i64 t0]) := R4.out.keep (KX.block _ (by have g4 := HZ4.out; have g1 := HZ1.out; have g5 := HZ5.out; have g3 := HZ3.out; unfold Hid at g4 g1 g5 g3; show o4 ≠ o5; omega))
              replace HO1 : Hid (rStaF.rd wv7 (fun q => s1 ≤ q ∧ q < e1) [.slice oa n0 oc, .slice ob m0 od, .int .i64 t0] s) := Rep.kept HO1.out KX (fun q hq hl => by have h1 := hq.1; have h2 := hq.2; have g4 := HZ4.out; have g1 := HZ1.out; have g5 := HZ5.out; have g3 := HZ3.out; unfold Hid at g4 g1 g5 g3; show q ≠ o5; omega)
              replace HX3 : Hid (rFree.rd wv7 (fun q => s3 ≤ q ∧ q < e3) [.slice xb xn xd] dt) := Rep.kept HX3.out KX (fun q hq hl => by have h1 := hq.1; have h2 := hq.2; have g4 := HZ4.out; have g1 := HZ1.out; have g5 := HZ5.out; have g3 := HZ3.out; unfold Hid at g4 g1 g5 g3; show q ≠ o5; omega)
              replace R5 : Hid (Row wv7 o5 33 [.int .i64 k, .int .i64 at', .int .i64 N, .int .i64 id, .string nm, .slice xb xn xd]) := VX
              have S7 := HSee.out _ BT7.out
              clear VX KX
              go_simp
              refine hK.out _ _ ?_ (fun hH => ?_)
              · try dsimp only
                exact S7
              clear hK K
              refine wpAnyH_done (by kernel_rfl) ?_ _
              clear hH S0 S1 S3 S4 S5 S6 S7
              go_wp2_with fail
              go_meet
              exact ⟨o4, o5, oa, oc, ob, od, xb, xd, rfl, rfl, by have g4 := HZ4.out; have g1 := HZ1.out; have g5 := HZ5.out; have g3 := HZ3.out; unfold Hid at g4 g1 g5 g3; exact ⟨by omega, by omega, by omega⟩, R4, R5, rStaF.weaken HO1.out (fun q hq hl => by have h1 := hq.1; have h2 := hq.2; have g4 := HZ4.out; have g1 := HZ1.out; have g5 := HZ5.out; have g3 := HZ3.out; unfold Hid at g4 g1 g5 g3; exact ⟨by omega, by omega, by omega⟩), rFree.weaken HX3.out (fun q hq hl => by have h1 := hq.1; have h2 := hq.2; have g4 := HZ4.out; have g1 := HZ1.out; have g5 := HZ5.out; have g3 := HZ3.out; unfold Hid at g4 g1 g5 g3; exact ⟨by omega, by omega, by omega⟩), BT7⟩
      exact rnL
    refine rcL (fun K hK => ?_) ?_
    · go_simp
      obtain ⟨wn5, hw, vA, bA, zA⟩ := q0q wn4 33 [.int .i64 0, .int .i64 0, .int .i64 0, .int .i64 0, .string ⟨#[]⟩, .slice none 0 0]
      obtain ⟨o5, ho⟩ : ∃ o, o = wn4.heap.size := ⟨_, rfl⟩
      have HZ5 : Hid (o5 = wn4.heap.size ∧ wn5.heap.size = wn4.heap.size + 1 ∧ w2.heap.size ≤ wn4.heap.size) := ⟨ho, zA, BT4.out.size⟩
      have ho' : wn4.heap.size = o5 := ho.symm
      have bB : Below (wn4.drew).heap.size (wn4.drew) (wn5.drew) := q6j bA
      have BT5 : Hid _ := on BT4.out bB
      replace R4 : Hid (Row wn5.drew o4 31 [.slice none 0 0, .slice none 0 0, .int .i64 0]) := R4.out.below bB
      have R5 : Hid (Row (wn5.drew) o5 33 [.int .i64 0, .int .i64 0, .int .i64 0, .int .i64 0, .string ⟨#[]⟩, .slice none 0 0]) := by rw [ho]; exact vA.keep rfl
      have S5 := HSee.out _ BT5.out
      clear vA zA bA ho
      first | rw [hw, ho'] | (rw [hw]; try rw [ho'])
      clear bB
      go_simp
      refine hK.out _ _ ?_ (fun hH => ?_)
      · try dsimp only
        exact S5
      clear hK K
      refine r1L 1 rfl fun K hK => ?_
      · go_simp
        go_at_call 9
        refine Calls.mono (ofV (wn5.drew) _ a0 b0 n0 c0 m0 d0 t0 s (Rep.below Ds_2.out BT5.out)) ?_
        rintro e wv1 ⟨oa, oc, ob, od, rfl, hq1, bq1⟩
        obtain ⟨s1, hs⟩ : ∃ z, z = wn5.heap.size := ⟨_, rfl⟩
        obtain ⟨e1, he⟩ : ∃ z, z = wv1.heap.size := ⟨_, rfl⟩
        have HO1 : Hid (rStaF.rd wv1 (fun q => s1 ≤ q ∧ q < e1) [.slice oa n0 oc, .slice ob m0 od, .int .i64 t0] s) := rStaF.weaken hq1 (fun q hq hl => ⟨by have h : wn5.heap.size ≤ q := hq; omega, by omega⟩)
        have HZ1 : Hid (s1 = wn5.heap.size ∧ e1 = wv1.heap.size ∧ wn5.heap.size ≤ wv1.heap.size ∧ w2.heap.size ≤ wn5.heap.size) := ⟨hs, he, bq1.size, BT5.out.size⟩
        have BT1 : Hid _ := on BT5.out bq1
        replace R4 : Hid (Row wv1 o4 31 [.slice none 0 0, .slice none 0 0, .int .i64 0]) := R4.out.below bq1
        replace R5 : Hid (Row wv1 o5 33 [.int .i64 0, .int .i64 0, .int .i64 0, .int .i64 0, .string ⟨#[]⟩, .slice none 0 0]) := R5.out.below bq1
        have S1 := HSee.out _ BT1.out
        clear hq1 bq1 hs he
        go_simp
        refine hK.out _ _ ?_ (fun hH => ?_)
        · try dsimp only
          exact S1
        clear hK K
        refine r1L 3 rfl fun K hK => ?_
        · go_simp
          go_at_call 10
          refine Calls.mono (q3Q (wv1) _ k at' N id nm dt xa xn xc (Rep.below Yx_2.out BT1.out)) ?_
          rintro e wv3 ⟨xb, xd, rfl, hq3, bq3⟩
          obtain ⟨s3, hs⟩ : ∃ z, z = wv1.heap.size := ⟨_, rfl⟩
          obtain ⟨e3, he⟩ : ∃ z, z = wv3.heap.size := ⟨_, rfl⟩
          have HX3 : Hid (rFree.rd wv3 (fun q => s3 ≤ q ∧ q < e3) [.slice xb xn xd] dt) := rFree.weaken hq3 (fun q hq hl => ⟨by have h : wv1.heap.size ≤ q := hq; omega, by omega⟩)
          have HZ3 : Hid (s3 = wv1.heap.size ∧ e3 = wv3.heap.size ∧ wv1.heap.size ≤ wv3.heap.size ∧ w2.heap.size ≤ wv1.heap.size) := ⟨hs, he, bq3.size, BT1.out.size⟩
          have BT3 : Hid _ := on BT1.out bq3
          replace R4 : Hid (Row wv3 o4 31 [.slice none 0 0, .slice none 0 0, .int .i64 0]) := R4.out.below bq3
          replace R5 : Hid (Row wv3 o5 33 [.int .i64 0, .int .i64 0, .int .i64 0, .int .i64 0, .string ⟨#[]⟩, .slice none 0 0]) := R5.out.below bq3
          replace HO1 : Hid (rStaF.rd wv3 (fun q => s1 ≤ q ∧ q < e1) [.slice oa n0 oc, .slice ob m0 od, .int .i64 t0] s) := Rep.below HO1.out bq3
          have S3 := HSee.out _ BT3.out
          clear hq3 bq3 hs he
          go_simp
          refine hK.out _ _ ?_ (fun hH => ?_)
          · try dsimp only
            exact S3
          clear hK K
          refine r1L 6 rfl fun K hK => ?_
          · have p60 := R4.out.cell (j := 0) rfl
            have f60 := R4.out.frozen 0
            have p61 := R4.out.cell (j := 1) rfl
            have f61 := R4.out.frozen 1
            have p62 := R4.out.cell (j := 2) rfl
            have f62 := R4.out.frozen 2
            obtain ⟨wv6, hw6, VX, KX⟩ := R4.out.whole3 (.slice oa n0 oc) (.slice ob m0 od) (.int .i64 t0)
            have BT6 : Hid (Below w2.heap.size w2 wv6) := Kept.belowOf BT3.out KX (by have g4 := HZ4.out; have g5 := HZ5.out; have g1 := HZ1.out; have g3 := HZ3.out; unfold Hid at g4 g5 g1 g3; omega)
            replace R5 : Hid (Row wv6 o5 33 [.int .i64 0, .int .i64 0, .int .i64 0, .int .i64 0, .string ⟨#[]⟩, .slice none 0 0]) := R5.out.keep (KX.block _ (by have g4 := HZ4.out; have g5 := HZ5.out; have g1 := HZ1.out; have g3 := HZ3.out; unfold Hid at g4 g5 g1 g3; show o5 ≠ o4; omega))
            replace HO1 : Hid (rStaF.rd wv6 (fun q => s1 ≤ q ∧ q < e1) [.slice oa n0 oc, .slice ob m0 od, .int .i64 t0] s) := Rep.kept HO1.out KX (fun q hq hl => by have h1 := hq.1; have h2 := hq.2; have g4 := HZ4.out; have g5 := HZ5.out; have g1 := HZ1.out; have g3 := HZ3.out; unfold Hid at g4 g5 g1 g3; show q ≠ o4; omega)
            replace HX3 : Hid (rFree.rd wv6 (fun q => s3 ≤ q ∧ q < e3) [.slice xb xn xd] dt) := Rep.kept HX3.out KX (fun q hq hl => by have h1 := hq.1; have h2 := hq.2; have g4 := HZ4.out; have g5 := HZ5.out; have g1 := HZ1.out; have g3 := HZ3.out; unfold Hid at g4 g5 g1 g3; show q ≠ o4; omega)
            replace R4 : Hid (Row wv6 o4 31 [.slice oa n0 oc, .slice ob m0 od, .int .i64 t0]) := VX
            have S6 := HSee.out _ BT6.out
            clear VX KX
            go_simp
            refine hK.out _ _ ?_ (fun hH => ?_)
            · try dsimp only
              exact S6
            clear hK K
            refine r1L 7 rfl fun K hK => ?_
            · have p70 := R5.out.cell (j := 0) rfl
              have f70 := R5.out.frozen 0
              have p71 := R5.out.cell (j := 1) rfl
              have f71 := R5.out.frozen 1
              have p72 := R5.out.cell (j := 2) rfl
              have f72 := R5.out.frozen 2
              have p73 := R5.out.cell (j := 3) rfl
              have f73 := R5.out.frozen 3
              have p74 := R5.out.cell (j := 4) rfl
              have f74 := R5.out.frozen 4
              have p75 := R5.out.cell (j := 5) rfl
              have f75 := R5.out.frozen 5
              obtain ⟨wv7, hw7, VX, KX⟩ := R5.out.whole6 (.int .i64 k) (.int .i64 at') (.int .i64 N) (.int .i64 id) (.string nm) (.slice xb xn xd)
              have BT7 : Hid (Below w2.heap.size w2 wv7) := Kept.belowOf BT6.out KX (by have g4 := HZ4.out; have g5 := HZ5.out; have g1 := HZ1.out; have g3 := HZ3.out; unfold Hid at g4 g5 g1 g3; omega)
              replace R4 : Hid (Row wv7 o4 31 [.slice oa n0 oc, .slice ob m0 od, .int .i64 t0]) := R4.out.keep (KX.block _ (by have g4 := HZ4.out; have g5 := HZ5.out; have g1 := HZ1.out; have g3 := HZ3.out; unfold Hid at g4 g5 g1 g3; show o4 ≠ o5; omega))
              replace HO1 : Hid (rStaF.rd wv7 (fun q => s1 ≤ q ∧ q < e1) [.slice oa n0 oc, .slice ob m0 od, .int .i64 t0] s) := Rep.kept HO1.out KX (fun q hq hl => by have h1 := hq.1; have h2 := hq.2; have g4 := HZ4.out; have g5 := HZ5.out; have g1 := HZ1.out; have g3 := HZ3.out; unfold Hid at g4 g5 g1 g3; show q ≠ o5; omega)
              replace HX3 : Hid (rFree.rd wv7 (fun q => s3 ≤ q ∧ q < e3) [.slice xb xn xd] dt) := Rep.kept HX3.out KX (fun q hq hl => by have h1 := hq.1; have h2 := hq.2; have g4 := HZ4.out; have g5 := HZ5.out; have g1 := HZ1.out; have g3 := HZ3.out; unfold Hid at g4 g5 g1 g3; show q ≠ o5; omega)
              replace R5 : Hid (Row wv7 o5 33 [.int .i64 k, .int .i64 at', .int .i64 N, .int .i64 id, .string nm, .slice xb xn xd]) := VX
              have S7 := HSee.out _ BT7.out
              clear VX KX
              go_simp
              refine hK.out _ _ ?_ (fun hH => ?_)
              · try dsimp only
                exact S7
              clear hK K
              refine wpAnyH_done (by kernel_rfl) ?_ _
              clear hH S0 S1 S3 S4 S5 S6 S7
              go_wp2_with fail
              go_meet
              exact ⟨o4, o5, oa, oc, ob, od, xb, xd, rfl, rfl, by have g4 := HZ4.out; have g5 := HZ5.out; have g1 := HZ1.out; have g3 := HZ3.out; unfold Hid at g4 g5 g1 g3; exact ⟨by omega, by omega, by omega⟩, R4, R5, rStaF.weaken HO1.out (fun q hq hl => by have h1 := hq.1; have h2 := hq.2; have g4 := HZ4.out; have g5 := HZ5.out; have g1 := HZ1.out; have g3 := HZ3.out; unfold Hid at g4 g5 g1 g3; exact ⟨by omega, by omega, by omega⟩), rFree.weaken HX3.out (fun q hq hl => by have h1 := hq.1; have h2 := hq.2; have g4 := HZ4.out; have g5 := HZ5.out; have g1 := HZ1.out; have g3 := HZ3.out; unfold Hid at g4 g5 g1 g3; exact ⟨by omega, by omega, by omega⟩), BT7⟩
    exact rnL
  refine rcL (fun K hK => ?_) ?_
  · go_simp
    obtain ⟨wn5, hw, vA, bA, zA⟩ := q0q w2 33 [.int .i64 0, .int .i64 0, .int .i64 0, .int .i64 0, .string ⟨#[]⟩, .slice none 0 0]
    obtain ⟨o5, ho⟩ : ∃ o, o = w2.heap.size := ⟨_, rfl⟩
    have HZ5 : Hid (o5 = w2.heap.size ∧ wn5.heap.size = w2.heap.size + 1 ∧ w2.heap.size ≤ w2.heap.size) := ⟨ho, zA, Nat.le_refl _⟩
    have ho' : w2.heap.size = o5 := ho.symm
    have bB : Below (w2.drew).heap.size (w2.drew) (wn5.drew) := q6j bA
    have BT5 : Hid (Below w2.heap.size w2 (wn5.drew)) := (Below.refl _ w2).drew.trans bB
    skip
    have R5 : Hid (Row (wn5.drew) o5 33 [.int .i64 0, .int .i64 0, .int .i64 0, .int .i64 0, .string ⟨#[]⟩, .slice none 0 0]) := by rw [ho]; exact vA.keep rfl
    have S5 := HSee.out _ BT5.out
    clear vA zA bA ho
    first | rw [hw, ho'] | (rw [hw]; try rw [ho'])
    clear bB
    go_simp
    refine hK.out _ _ ?_ (fun hH => ?_)
    · try dsimp only
      exact S5
    clear hK K
    refine rdL [1, 4] ?_
    refine rcL (fun K hK => ?_) ?_
    · go_simp
      go_at_call 9
      refine Calls.mono (ofV (wn5.drew) _ a0 b0 n0 c0 m0 d0 t0 s (Rep.below Ds_2.out BT5.out)) ?_
      rintro e wv1 ⟨oa, oc, ob, od, rfl, hq1, bq1⟩
      obtain ⟨s1, hs⟩ : ∃ z, z = wn5.heap.size := ⟨_, rfl⟩
      obtain ⟨e1, he⟩ : ∃ z, z = wv1.heap.size := ⟨_, rfl⟩
      have HO1 : Hid (rStaF.rd wv1 (fun q => s1 ≤ q ∧ q < e1) [.slice oa n0 oc, .slice ob m0 od, .int .i64 t0] s) := rStaF.weaken hq1 (fun q hq hl => ⟨by have h : wn5.heap.size ≤ q := hq; omega, by omega⟩)
      have HZ1 : Hid (s1 = wn5.heap.size ∧ e1 = wv1.heap.size ∧ wn5.heap.size ≤ wv1.heap.size ∧ w2.heap.size ≤ wn5.heap.size) := ⟨hs, he, bq1.size, BT5.out.size⟩
      have BT1 : Hid _ := on BT5.out bq1
      replace R5 : Hid (Row wv1 o5 33 [.int .i64 0, .int .i64 0, .int .i64 0, .int .i64 0, .string ⟨#[]⟩, .slice none 0 0]) := R5.out.below bq1
      have S1 := HSee.out _ BT1.out
      clear hq1 bq1 hs he
      go_simp
      refine hK.out _ _ ?_ (fun hH => ?_)
      · try dsimp only
        exact S1
      clear hK K
      refine rdL [3, 4] ?_
      refine rcL (fun K hK => ?_) ?_
      · go_simp
        go_at_call 10
        refine Calls.mono (q3Q (wv1) _ k at' N id nm dt xa xn xc (Rep.below Yx_2.out BT1.out)) ?_
        rintro e wv3 ⟨xb, xd, rfl, hq3, bq3⟩
        obtain ⟨s3, hs⟩ : ∃ z, z = wv1.heap.size := ⟨_, rfl⟩
        obtain ⟨e3, he⟩ : ∃ z, z = wv3.heap.size := ⟨_, rfl⟩
        have HX3 : Hid (rFree.rd wv3 (fun q => s3 ≤ q ∧ q < e3) [.slice xb xn xd] dt) := rFree.weaken hq3 (fun q hq hl => ⟨by have h : wv1.heap.size ≤ q := hq; omega, by omega⟩)
        have HZ3 : Hid (s3 = wv1.heap.size ∧ e3 = wv3.heap.size ∧ wv1.heap.size ≤ wv3.heap.size ∧ w2.heap.size ≤ wv1.heap.size) := ⟨hs, he, bq3.size, BT1.out.size⟩
        have BT3 : Hid _ := on BT1.out bq3
        replace R5 : Hid (Row wv3 o5 33 [.int .i64 0, .int .i64 0, .int .i64 0, .int .i64 0, .string ⟨#[]⟩, .slice none 0 0]) := R5.out.below bq3
        replace HO1 : Hid (rStaF.rd wv3 (fun q => s1 ≤ q ∧ q < e1) [.slice oa n0 oc, .slice ob m0 od, .int .i64 t0] s) := Rep.below HO1.out bq3
        have S3 := HSee.out _ BT3.out
        clear hq3 bq3 hs he
        go_simp
        refine hK.out _ _ ?_ (fun hH => ?_)
        · try dsimp only
          exact S3
        clear hK K
        refine r1L 4 rfl fun K hK => ?_
        · go_simp
          obtain ⟨wv4, hw, vA, bA, zA⟩ := q0q wv3 31 [.slice none 0 0, .slice none 0 0, .int .i64 0]
          obtain ⟨o4, ho⟩ : ∃ o, o = wv3.heap.size := ⟨_, rfl⟩
          have HZ4 : Hid (o4 = wv3.heap.size ∧ wv4.heap.size = wv3.heap.size + 1 ∧ w2.heap.size ≤ wv3.heap.size) := ⟨ho, zA, BT3.out.size⟩
          have ho' : wv3.heap.size = o4 := ho.symm
          have bB : Below (wv3).heap.size (wv3) (wv4) := bA
          have BT4 : Hid _ := on BT3.out bB
          replace R5 : Hid (Row wv4 o5 33 [.int .i64 0, .int .i64 0, .int .i64 0, .int .i64 0, .string ⟨#[]⟩, .slice none 0 0]) := R5.out.below bB
          replace HO1 : Hid (rStaF.rd wv4 (fun q => s1 ≤ q ∧ q < e1) [.slice oa n0 oc, .slice ob m0 od, .int .i64 t0] s) := Rep.below HO1.out bB
          replace HX3 : Hid (rFree.rd wv4 (fun q => s3 ≤ q ∧ q < e3) [.slice xb xn xd] dt) := Rep.below HX3.out bB
          have R4 : Hid (Row (wv4) o4 31 [.slice none 0 0, .slice none 0 0, .int .i64 0]) := by rw [ho]; exact vA
          have S4 := HSee.out _ BT4.out
          clear vA zA bA ho
          first | rw [hw, ho'] | (rw [hw]; try rw [ho'])
          clear bB
          go_simp
          refine hK.out _ _ ?_ (fun hH => ?_)
          · try dsimp only
            exact S4
          clear hK K
          refine r1L 6 rfl fun K hK => ?_
          · have p60 := R4.out.cell (j := 0) rfl
            have f60 := R4.out.frozen 0
            have p61 := R4.out.cell (j := 1) rfl
            have f61 := R4.out.frozen 1
            have p62 := R4.out.cell (j := 2) rfl
            have f62 := R4.out.frozen 2
            obtain ⟨wv6, hw6, VX, KX⟩ := R4.out.whole3 (.slice oa n0 oc) (.slice ob m0 od) (.int .i64 t0)
            have BT6 : Hid (Below w2.heap.size w2 wv6) := Kept.belowOf BT4.out KX (by have g5 := HZ5.out; have g1 := HZ1.out; have g3 := HZ3.out; have g4 := HZ4.out; unfold Hid at g5 g1 g3 g4; omega)
            replace R5 : Hid (Row wv6 o5 33 [.int .i64 0, .int .i64 0, .int .i64 0, .int .i64 0, .string ⟨#[]⟩, .slice none 0 0]) := R5.out.keep (KX.block _ (by have g5 := HZ5.out; have g1 := HZ1.out; have g3 := HZ3.out; have g4 := HZ4.out; unfold Hid at g5 g1 g3 g4; show o5 ≠ o4; omega))
            replace HO1 : Hid (rStaF.rd wv6 (fun q => s1 ≤ q ∧ q < e1) [.slice oa n0 oc, .slice ob m0 od, .int .i64 t0] s) := Rep.kept HO1.out KX (fun q hq hl => by have h1 := hq.1; have h2 := hq.2; have g5 := HZ5.out; have g1 := HZ1.out; have g3 := HZ3.out; have g4 := HZ4.out; unfold Hid at g5 g1 g3 g4; show q ≠ o4; omega)
            replace HX3 : Hid (rFree.rd wv6 (fun q => s3 ≤ q ∧ q < e3) [.slice xb xn xd] dt) := Rep.kept HX3.out KX (fun q hq hl => by have h1 := hq.1; have h2 := hq.2; have g5 := HZ5.out; have g1 := HZ1.out; have g3 := HZ3.out; have g4 := HZ4.out; unfold Hid at g5 g1 g3 g4; show q ≠ o4; omega)
            replace R4 : Hid (Row wv6 o4 31 [.slice oa n0 oc, .slice ob m0 od, .int .i64 t0]) := VX
            have S6 := HSee.out _ BT6.out
            clear VX KX
            go_simp
            refine hK.out _ _ ?_ (fun hH => ?_)
            · try dsimp only
              exact S6
            clear hK K
            refine r1L 7 rfl fun K hK => ?_
            · have p70 := R5.out.cell (j := 0) rfl
              have f70 := R5.out.frozen 0
              have p71 := R5.out.cell (j := 1) rfl
              have f71 := R5.out.frozen 1
              have p72 := R5.out.cell (j := 2) rfl
              have f72 := R5.out.frozen 2
              have p73 := R5.out.cell (j := 3) rfl
              have f73 := R5.out.frozen 3
              have p74 := R5.out.cell (j := 4) rfl
              have f74 := R5.out.frozen 4
              have p75 := R5.out.cell (j := 5) rfl
              have f75 := R5.out.frozen 5
              obtain ⟨wv7, hw7, VX, KX⟩ := R5.out.whole6 (.int .i64 k) (.int .i64 at') (.int .i64 N) (.int .i64 id) (.string nm) (.slice xb xn xd)
              have BT7 : Hid (Below w2.heap.size w2 wv7) := Kept.belowOf BT6.out KX (by have g5 := HZ5.out; have g1 := HZ1.out; have g3 := HZ3.out; have g4 := HZ4.out; unfold Hid at g5 g1 g3 g4; omega)
              replace HO1 : Hid (rStaF.rd wv7 (fun q => s1 ≤ q ∧ q < e1) [.slice oa n0 oc, .slice ob m0 od, .int .i64 t0] s) := Rep.kept HO1.out KX (fun q hq hl => by have h1 := hq.1; have h2 := hq.2; have g5 := HZ5.out; have g1 := HZ1.out; have g3 := HZ3.out; have g4 := HZ4.out; unfold Hid at g5 g1 g3 g4; show q ≠ o5; omega)
              replace HX3 : Hid (rFree.rd wv7 (fun q => s3 ≤ q ∧ q < e3) [.slice xb xn xd] dt) := Rep.kept HX3.out KX (fun q hq hl => by have h1 := hq.1; have h2 := hq.2; have g5 := HZ5.out; have g1 := HZ1.out; have g3 := HZ3.out; have g4 := HZ4.out; unfold Hid at g5 g1 g3 g4; show q ≠ o5; omega)
              replace R4 : Hid (Row wv7 o4 31 [.slice oa n0 oc, .slice ob m0 od, .int .i64 t0]) := R4.out.keep (KX.block _ (by have g5 := HZ5.out; have g1 := HZ1.out; have g3 := HZ3.out; have g4 := HZ4.out; unfold Hid at g5 g1 g3 g4; show o4 ≠ o5; omega))
              replace R5 : Hid (Row wv7 o5 33 [.int .i64 k, .int .i64 at', .int .i64 N, .int .i64 id, .string nm, .slice xb xn xd]) := VX
              have S7 := HSee.out _ BT7.out
              clear VX KX
              go_simp
              refine hK.out _ _ ?_ (fun hH => ?_)
              · try dsimp only
                exact S7
              clear hK K
              refine wpAnyH_done (by kernel_rfl) ?_ _
              clear hH S0 S1 S3 S4 S5 S6 S7
              go_wp2_with fail
              go_meet
              exact ⟨o4, o5, oa, oc, ob, od, xb, xd, rfl, rfl, by have g5 := HZ5.out; have g1 := HZ1.out; have g3 := HZ3.out; have g4 := HZ4.out; unfold Hid at g5 g1 g3 g4; exact ⟨by omega, by omega, by omega⟩, R4, R5, rStaF.weaken HO1.out (fun q hq hl => by have h1 := hq.1; have h2 := hq.2; have g5 := HZ5.out; have g1 := HZ1.out; have g3 := HZ3.out; have g4 := HZ4.out; unfold Hid at g5 g1 g3 g4; exact ⟨by omega, by omega, by omega⟩), rFree.weaken HX3.out (fun q hq hl => by have h1 := hq.1; have h2 := hq.2; have g5 := HZ5.out; have g1 := HZ1.out; have g3 := HZ3.out; have g4 := HZ4.out; unfold Hid at g5 g1 g3 g4; exact ⟨by omega, by omega, by omega⟩), BT7⟩
      refine rcL (fun K hK => ?_) ?_
      · go_simp
        obtain ⟨wv4, hw, vA, bA, zA⟩ := q0q wv1 31 [.slice none 0 0, .slice none 0 0, .int .i64 0]
        obtain ⟨o4, ho⟩ : ∃ o, o = wv1.heap.size := ⟨_, rfl⟩
        have HZ4 : Hid (o4 = wv1.heap.size ∧ wv4.heap.size = wv1.heap.size + 1 ∧ w2.heap.size ≤ wv1.heap.size) := ⟨ho, zA, BT1.out.size⟩
        have ho' : wv1.heap.size = o4 := ho.symm
        have bB : Below (wv1).heap.size (wv1) (wv4) := bA
        have BT4 : Hid _ := on BT1.out bB
        replace R5 : Hid (Row wv4 o5 33 [.int .i64 0, .int .i64 0, .int .i64 0, .int .i64 0, .string ⟨#[]⟩, .slice none 0 0]) := R5.out.below bB
        replace HO1 : Hid (rStaF.rd wv4 (fun q => s1 ≤ q ∧ q < e1) [.slice oa n0 oc, .slice ob m0 od, .int .i64 t0] s) := Rep.below HO1.out bB
        have R4 : Hid (Row (wv4) o4 31 [.slice none 0 0, .slice none 0 0, .int .i64 0]) := by rw [ho]; exact vA
        have S4 := HSee.out _ BT4.out
        clear vA zA bA ho
        first | rw [hw, ho'] | (rw [hw]; try rw [ho'])
        clear bB
        go_simp
        refine hK.out _ _ ?_ (fun hH => ?_)
        · try dsimp only
          exact S4
        clear hK K
        refine r1L 3 rfl fun K hK => ?_
        · go_simp
          go_at_call 10
          refine Calls.mono (q3Q (wv4) _ k at' N id nm dt xa xn xc (Rep.below Yx_2.out BT4.out)) ?_
          rintro e wv3 ⟨xb, xd, rfl, hq3, bq3⟩
          obtain ⟨s3, hs⟩ : ∃ z, z = wv4.heap.size := ⟨_, rfl⟩
          obtain ⟨e3, he⟩ : ∃ z, z = wv3.heap.size := ⟨_, rfl⟩
          have HX3 : Hid (rFree.rd wv3 (fun q => s3 ≤ q ∧ q < e3) [.slice xb xn xd] dt) := rFree.weaken hq3 (fun q hq hl => ⟨by have h : wv4.heap.size ≤ q := hq; omega, by omega⟩)
          have HZ3 : Hid (s3 = wv4.heap.size ∧ e3 = wv3.heap.size ∧ wv4.heap.size ≤ wv3.heap.size ∧ w2.heap.size ≤ wv4.heap.size) := ⟨hs, he, bq3.size, BT4.out.size⟩
          have BT3 : Hid _ := on BT4.out bq3
          replace R5 : Hid (Row wv3 o5 33 [.int .i64 0, .int .i64 0, .int .i64 0, .int .i64 0, .string ⟨#[]⟩, .slice none 0 0]) := R5.out.below bq3
          replace HO1 : Hid (rStaF.rd wv3 (fun q => s1 ≤ q ∧ q < e1) [.slice oa n0 oc, .slice ob m0 od, .int .i64 t0] s) := Rep.below HO1.out bq3
          replace R4 : Hid (Row wv3 o4 31 [.slice none 0 0, .slice none 0 0, .int .i64 0]) := R4.out.below bq3
          have S3 := HSee.out _ BT3.out
          clear hq3 bq3 hs he
          go_simp
          refine hK.out _ _ ?_ (fun hH => ?_)
          · try dsimp only
            exact S3
          clear hK K
          refine r1L 6 rfl fun K hK => ?_
          · have p60 := R4.out.cell (j := 0) rfl
            have f60 := R4.out.frozen 0
            have p61 := R4.out.cell (j := 1) rfl
            have f61 := R4.out.frozen 1
            have p62 := R4.out.cell (j := 2) rfl
            have f62 := R4.out.frozen 2
            obtain ⟨wv6, hw6, VX, KX⟩ := R4.out.whole3 (.slice oa n0 oc) (.slice ob m0 od) (.int .i64 t0)
            have BT6 : Hid (Below w2.heap.size w2 wv6) := Kept.belowOf BT3.out KX (by have g5 := HZ5.out; have g1 := HZ1.out; have g4 := HZ4.out; have g3 := HZ3.out; unfold Hid at g5 g1 g4 g3; omega)
            replace R5 : Hid (Row wv6 o5 33 [.int .i64 0, .int .i64 0, .int .i64 0, .int .i64 0, .string ⟨#[]⟩, .slice none 0 0]) := R5.out.keep (KX.block _ (by have g5 := HZ5.out; have g1 := HZ1.out; have g4 := HZ4.out; have g3 := HZ3.out; unfold Hid at g5 g1 g4 g3; show o5 ≠ o4; omega))
            replace HO1 : Hid (rStaF.rd wv6 (fun q => s1 ≤ q ∧ q < e1) [.slice oa n0 oc, .slice ob m0 od, .int .i64 t0] s) := Rep.kept HO1.out KX (fun q hq hl => by have h1 := hq.1; have h2 := hq.2; have g5 := HZ5.out; have g1 := HZ1.out; have g4 := HZ4.out; have g3 := HZ3.out; unfold Hid at g5 g1 g4 g3; show q ≠ o4; omega)
            replace HX3 : Hid (rFree.rd wv6 (fun q => s3 ≤ q ∧ q < e3) [.slice xb xn xd] dt) := Rep.kept HX3.out KX (fun q hq hl => by have h1 := hq.1; have h2 := hq.2; have g5 := HZ5.out; have g1 := HZ1.out; have g4 := HZ4.out; have g3 := HZ3.out; unfold Hid at g5 g1 g4 g3; show q ≠ o4; omega)
            replace R4 : Hid (Row wv6 o4 31 [.slice oa n0 oc, .slice ob m0 od, .int .i64 t0]) := VX
            have S6 := HSee.out _ BT6.out
            clear VX KX
            go_simp
            refine hK.out _ _ ?_ (fun hH => ?_)
            · try dsimp only
              exact S6
            clear hK K
            refine r1L 7 rfl fun K hK => ?_
            · have p70 := R5.out.cell (j := 0) rfl
              have f70 := R5.out.frozen 0
              have p71 := R5.out.cell (j := 1) rfl
              have f71 := R5.out.frozen 1
              have p72 := R5.out.cell (j := 2) rfl
              have f72 := R5.out.frozen 2
              have p73 := R5.out.cell (j := 3) rfl
              have f73 := R5.out.frozen 3
              have p74 := R5.out.cell (j := 4) rfl
              have f74 := R5.out.frozen 4
              have p75 := R5.out.cell (j := 5) rfl
              have f75 := R5.out.frozen 5
              obtain ⟨wv7, hw7, VX, KX⟩ := R5.out.whole6 (.int .i64 k) (.int .i64 at') (.int .i64 N) (.int .i64 id) (.string nm) (.slice xb xn xd)
              have BT7 : Hid (Below w2.heap.size w2 wv7) := Kept.belowOf BT6.out KX (by have g5 := HZ5.out; have g1 := HZ1.out; have g4 := HZ4.out; have g3 := HZ3.out; unfold Hid at g5 g1 g4 g3; omega)
              replace HO1 : Hid (rStaF.rd wv7 (fun q => s1 ≤ q ∧ q < e1) [.slice oa n0 oc, .slice ob m0 od, .int .i64 t0] s) := Rep.kept HO1.out KX (fun q hq hl => by have h1 := hq.1; have h2 := hq.2; have g5 := HZ5.out; have g1 := HZ1.out; have g4 := HZ4.out; have g3 := HZ3.out; unfold Hid at g5 g1 g4 g3; show q ≠ o5; omega)
              replace R4 : Hid (Row wv7 o4 31 [.slice oa n0 oc, .slice ob m0 od, .int .i64 t0]) := R4.out.keep (KX.block _ (by have g5 := HZ5.out; have g1 := HZ1.out; have g4 := HZ4.out; have g3 := HZ3.out; unfold Hid at g5 g1 g4 g3; show o4 ≠ o5; omega))
              replace HX3 : Hid (rFree.rd wv7 (fun q => s3 ≤ q ∧ q < e3) [.slice xb xn xd] dt) := Rep.kept HX3.out KX (fun q hq hl => by have h1 := hq.1; have h2 := hq.2; have g5 := HZ5.out; have g1 := HZ1.out; have g4 := HZ4.out; have g3 := HZ3.out; unfold Hid at g5 g1 g4 g3; show q ≠ o5; omega)
              replace R5 : Hid (Row wv7 o5 33 [.int .i64 k, .int .i64 at', .int .i64 N, .int .i64 id, .string nm, .slice xb xn xd]) := VX
              have S7 := HSee.out _ BT7.out
              clear VX KX
              go_simp
              refine hK.out _ _ ?_ (fun hH => ?_)
              · try dsimp only
                exact S7
              clear hK K
              refine wpAnyH_done (by kernel_rfl) ?_ _
              clear hH S0 S1 S3 S4 S5 S6 S7
              go_wp2_with fail
              go_meet
              exact ⟨o4, o5, oa, oc, ob, od, xb, xd, rfl, rfl, by have g5 := HZ5.out; have g1 := HZ1.out; have g4 := HZ4.out; have g3 := HZ3.out; unfold Hid at g5 g1 g4 g3; exact ⟨by omega, by omega, by omega⟩, R4, R5, rStaF.weaken HO1.out (fun q hq hl => by have h1 := hq.1; have h2 := hq.2; have g5 := HZ5.out; have g1 := HZ1.out; have g4 := HZ4.out; have g3 := HZ3.out; unfold Hid at g5 g1 g4 g3; exact ⟨by omega, by omega, by omega⟩), rFree.weaken HX3.out (fun q hq hl => by have h1 := hq.1; have h2 := hq.2; have g5 := HZ5.out; have g1 := HZ1.out; have g4 := HZ4.out; have g3 := HZ3.out; unfold Hid at g5 g1 g4 g3; exact ⟨by omega, by omega, by omega⟩), BT7⟩
      exact rnL
    refine rcL (fun K hK => ?_) ?_
    · go_simp
      obtain ⟨wn4, hw, vA, bA, zA⟩ := q0q wn5 31 [.slice none 0 0, .slice none 0 0, .int .i64 0]
      obtain ⟨o4, ho⟩ : ∃ o, o = wn5.heap.size := ⟨_, rfl⟩
      have HZ4 : Hid (o4 = wn5.heap.size ∧ wn4.heap.size = wn5.heap.size + 1 ∧ w2.heap.size ≤ wn5.heap.size) := ⟨ho, zA, BT5.out.size⟩
      have ho' : wn5.heap.size = o4 := ho.symm
      have bB : Below (wn5.drew).heap.size (wn5.drew) (wn4.drew) := q6j bA
      have BT4 : Hid _ := on BT5.out bB
      replace R5 : Hid (Row wn4.drew o5 33 [.int .i64 0, .int .i64 0, .int .i64 0, .int .i64 0, .string ⟨#[]⟩, .slice none 0 0]) := R5.out.below bB
      have R4 : Hid (Row (wn4.drew) o4 31 [.slice none 0 0, .slice none 0 0, .int .i64 0]) := by rw [ho]; exact vA.keep rfl
      have S4 := HSee.out _ BT4.out
      clear vA zA bA ho
      first | rw [hw, ho'] | (rw [hw]; try rw [ho'])
      clear bB
      go_simp
      refine hK.out _ _ ?_ (fun hH => ?_)
      · try dsimp only
        exact S4
      clear hK K
      refine r1L 1 rfl fun K hK => ?_
      · go_simp
        go_at_call 9
        refine Calls.mono (ofV (wn4.drew) _ a0 b0 n0 c0 m0 d0 t0 s (Rep.below Ds_2.out BT4.out)) ?_
        rintro e wv1 ⟨oa, oc, ob, od, rfl, hq1, bq1⟩
        obtain ⟨s1, hs⟩ : ∃ z, z = wn4.heap.size := ⟨_, rfl⟩
        obtain ⟨e1, he⟩ : ∃ z, z = wv1.heap.size := ⟨_, rfl⟩
        have HO1 : Hid (rStaF.rd wv1 (fun q => s1 ≤ q ∧ q < e1) [.slice oa n0 oc, .slice ob m0 od, .int .i64 t0] s) := rStaF.weaken hq1 (fun q hq hl => ⟨by have h : wn4.heap.size ≤ q := hq; omega, by omega⟩)
        have HZ1 : Hid (s1 = wn4.heap.size ∧ e1 = wv1.heap.size ∧ wn4.heap.size ≤ wv1.heap.size ∧ w2.heap.size ≤ wn4.heap.size) := ⟨hs, he, bq1.size, BT4.out.size⟩
        have BT1 : Hid _ := on BT4.out bq1
        replace R5 : Hid (Row wv1 o5 33 [.int .i64 0, .int .i64 0, .int .i64 0, .int .i64 0, .string ⟨#[]⟩, .slice none 0 0]) := R5.out.below bq1
        replace R4 : Hid (Row wv1 o4 31 [.slice none 0 0, .slice none 0 0, .int .i64 0]) := R4.out.below bq1
        have S1 := HSee.out _ BT1.out
        clear hq1 bq1 hs he
        go_simp
        refine hK.out _ _ ?_ (fun hH => ?_)
        · try dsimp only
          exact S1
        clear hK K
        refine r1L 3 rfl fun K hK => ?_
        · go_simp
          go_at_call 10
          refine Calls.mono (q3Q (wv1) _ k at' N id nm dt xa xn xc (Rep.below Yx_2.out BT1.out)) ?_
          rintro e wv3 ⟨xb, xd, rfl, hq3, bq3⟩
          obtain ⟨s3, hs⟩ : ∃ z, z = wv1.heap.size := ⟨_, rfl⟩
          obtain ⟨e3, he⟩ : ∃ z, z = wv3.heap.size := ⟨_, rfl⟩
          have HX3 : Hid (rFree.rd wv3 (fun q => s3 ≤ q ∧ q < e3) [.slice xb xn xd] dt) := rFree.weaken hq3 (fun q hq hl => ⟨by have h : wv1.heap.size ≤ q := hq; omega, by omega⟩)
          have HZ3 : Hid (s3 = wv1.heap.size ∧ e3 = wv3.heap.size ∧ wv1.heap.size ≤ wv3.heap.size ∧ w2.heap.size ≤ wv1.heap.size) := ⟨hs, he, bq3.size, BT1.out.size⟩
          have BT3 : Hid _ := on BT1.out bq3
          replace R5 : Hid (Row wv3 o5 33 [.int .i64 0, .int .i64 0, .int .i64 0, .int .i64 0, .string ⟨#[]⟩, .slice none 0 0]) := R5.out.below bq3
          replace R4 : Hid (Row wv3 o4 31 [.slice none 0 0, .slice none 0 0, .int .i64 0]) := R4.out.below bq3
          replace HO1 : Hid (rStaF.rd wv3 (fun q => s1 ≤ q ∧ q < e1) [.slice oa n0 oc, .slice ob m0 od, .int .i64 t0] s) := Rep.below HO1.out bq3
          have S3 := HSee.out _ BT3.out
          clear hq3 bq3 hs he
          go_simp
          refine hK.out _ _ ?_ (fun hH => ?_)
          · try dsimp only
            exact S3
          clear hK K
          refine r1L 6 rfl fun K hK => ?_
          · have p60 := R4.out.cell (j := 0) rfl
            have f60 := R4.out.frozen 0
            have p61 := R4.out.cell (j := 1) rfl
            have f61 := R4.out.frozen 1
            have p62 := R4.out.cell (j := 2) rfl
            have f62 := R4.out.frozen 2
            obtain ⟨wv6, hw6, VX, KX⟩ := R4.out.whole3 (.slice oa n0 oc) (.slice ob m0 od) (.int .i64 t0)
            have BT6 : Hid (Below w2.heap.size w2 wv6) := Kept.belowOf BT3.out KX (by have g5 := HZ5.out; have g4 := HZ4.out; have g1 := HZ1.out; have g3 := HZ3.out; unfold Hid at g5 g4 g1 g3; omega)
            replace R5 : Hid (Row wv6 o5 33 [.int .i64 0, .int .i64 0, .int .i64 0, .int .i64 0, .string ⟨#[]⟩, .slice none 0 0]) := R5.out.keep (KX.block _ (by have g5 := HZ5.out; have g4 := HZ4.out; have g1 := HZ1.out; have g3 := HZ3.out; unfold Hid at g5 g4 g1 g3; show o5 ≠ o4; omega))
            replace HO1 : Hid (rStaF.rd wv6 (fun q => s1 ≤ q ∧ q < e1) [.slice oa n0 oc, .slice ob m0 od, .int .i64 t0] s) := Rep.kept HO1.out KX (fun q hq hl => by have h1 := hq.1; have h2 := hq.2; have g5 := HZ5.out; have g4 := HZ4.out; have g1 := HZ1.out; have g3 := HZ3.out; unfold Hid at g5 g4 g1 g3; show q ≠ o4; omega)
            replace HX3 : Hid (rFree.rd wv6 (fun q => s3 ≤ q ∧ q < e3) [.slice xb xn xd] dt) := Rep.kept HX3.out KX (fun q hq hl => by have h1 := hq.1; have h2 := hq.2; have g5 := HZ5.out; have g4 := HZ4.out; have g1 := HZ1.out; have g3 := HZ3.out; unfold Hid at g5 g4 g1 g3; show q ≠ o4; omega)
            replace R4 : Hid (Row wv6 o4 31 [.slice oa n0 oc, .slice ob m0 od, .int .i64 t0]) := VX
            have S6 := HSee.out _ BT6.out
            clear VX KX
            go_simp
            refine hK.out _ _ ?_ (fun hH => ?_)
            · try dsimp only
              exact S6
            clear hK K
            refine r1L 7 rfl fun K hK => ?_
            · have p70 := R5.out.cell (j := 0) rfl
              have f70 := R5.out.frozen 0
              have p71 := R5.out.cell (j := 1) rfl
              have f71 := R5.out.frozen 1
              have p72 := R5.out.cell (j := 2) rfl
              have f72 := R5.out.frozen 2
              have p73 := R5.out.cell (j := 3) rfl
              have f73 := R5.out.frozen 3
              have p74 := R5.out.cell (j := 4) rfl
              have f74 := R5.out.frozen 4
              have p75 := R5.out.cell (j := 5) rfl
              have f75 := R5.out.frozen 5
              obtain ⟨wv7, hw7, VX, KX⟩ := R5.out.whole6 (.int .i64 k) (.int .i64 at') (.int .i64 N) (.int .i64 id) (.string nm) (.slice xb xn xd)
              have BT7 : Hid (Below w2.heap.size w2 wv7) := Kept.belowOf BT6.out KX (by have g5 := HZ5.out; have g4 := HZ4.out; have g1 := HZ1.out; have g3 := HZ3.out; unfold Hid at g5 g4 g1 g3; omega)
              replace R4 : Hid (Row wv7 o4 31 [.slice oa n0 oc, .slice ob m0 od, .int .i64 t0]) := R4.out.keep (KX.block _ (by have g5 := HZ5.out; have g4 := HZ4.out; have g1 := HZ1.out; have g3 := HZ3.out; unfold Hid at g5 g4 g1 g3; show o4 ≠ o5; omega))
              replace HO1 : Hid (rStaF.rd wv7 (fun q => s1 ≤ q ∧ q < e1) [.slice oa n0 oc, .slice ob m0 od, .int .i64 t0] s) := Rep.kept HO1.out KX (fun q hq hl => by have h1 := hq.1; have h2 := hq.2; have g5 := HZ5.out; have g4 := HZ4.out; have g1 := HZ1.out; have g3 := HZ3.out; unfold Hid at g5 g4 g1 g3; show q ≠ o5; omega)
              replace HX3 : Hid (rFree.rd wv7 (fun q => s3 ≤ q ∧ q < e3) [.slice xb xn xd] dt) := Rep.kept HX3.out KX (fun q hq hl => by have h1 := hq.1; have h2 := hq.2; have g5 := HZ5.out; have g4 := HZ4.out; have g1 := HZ1.out; have g3 := HZ3.out; unfold Hid at g5 g4 g1 g3; show q ≠ o5; omega)
              replace R5 : Hid (Row wv7 o5 33 [.int .i64 k, .int .i64 at', .int .i64 N, .int .i64 id, .string nm, .slice xb xn xd]) := VX
              have S7 := HSee.out _ BT7.out
              clear VX KX
              go_simp
              refine hK.out _ _ ?_ (fun hH => ?_)
              · try dsimp only
                exact S7
              clear hK K
              refine wpAnyH_done (by kernel_rfl) ?_ _
              clear hH S0 S1 S3 S4 S5 S6 S7
              go_wp2_with fail
              go_meet
              exact ⟨o4, o5, oa, oc, ob, od, xb, xd, rfl, rfl, by have g5 := HZ5.out; have g4 := HZ4.out; have g1 := HZ1.out; have g3 := HZ3.out; unfold Hid at g5 g4 g1 g3; exact ⟨by omega, by omega, by omega⟩, R4, R5, rStaF.weaken HO1.out (fun q hq hl => by have h1 := hq.1; have h2 := hq.2; have g5 := HZ5.out; have g4 := HZ4.out; have g1 := HZ1.out; have g3 := HZ3.out; unfold Hid at g5 g4 g1 g3; exact ⟨by omega, by omega, by omega⟩), rFree.weaken HX3.out (fun q hq hl => by have h1 := hq.1; have h2 := hq.2; have g5 := HZ5.out; have g4 := HZ4.out; have g1 := HZ1.out; have g3 := HZ3.out; unfold Hid at g5 g4 g1 g3; exact ⟨by omega, by omega, by omega⟩), BT7⟩
    exact rnL
  exact rnL
 clear S0 HSee
 case rest =>
  obtain ⟨o4, o5, oa, oc, ob, od, xb, xd, rfl, rfl, HOO, RO, RI, FO, GI, BX⟩ := hcut
  obtain ⟨w3, hw3⟩ : ∃ v, v = wc := ⟨_, rfl⟩
  subst hw3
  have Rs_3 : Hid _ := Rs_2.out.below (BX.out)
  have Rx_3 : Hid _ := Rx_2.out.below (BX.out)
  have Ds_3 : Hid (rSta.rd w3 (fun b => b < W.heap.size) [.slice a0 n0 c0, .slice b0 m0 d0, .int .i64 t0] (s)) := Rep.below Ds_2.out (BX.out)
  have Yx_3 : Hid (rBytes.rd w3 (fun b => b < W.heap.size) [.slice xa xn xc] (dt)) := Rep.below Yx_2.out (BX.out)
  have B_3 : Hid _ := on B_2.out (BX.out)
  clear Rs_2 Rx_2 Ds_2 Yx_2
  have Ro_3 : Hid _ := RO
  have Ri_3 : Hid _ := RI
  have Fo_3 : Hid (rStaF.rd w3 (fun q => w2.heap.size ≤ q ∧ q < w3.heap.size ∧ q ≠ o4 ∧ q ≠ o5) [.slice oa n0 oc, .slice ob m0 od, .int .i64 t0] (s)) := rStaF.weaken FO.out (fun q hq hl => ⟨hq.1, hl, hq.2⟩)
  have Gi_3 : Hid (rFree.rd w3 (fun q => w2.heap.size ≤ q ∧ q < w3.heap.size ∧ q ≠ o4 ∧ q ≠ o5) [.slice xb xn xd] (dt)) := rFree.weaken GI.out (fun q hq hl => ⟨hq.1, hl, hq.2⟩)
  have Do_3 : Hid (rSta.rd w3 (fun _ => True) [.slice oa n0 oc, .slice ob m0 od, .int .i64 t0] (s)) := rSta.weaken (staF_sta FO.out) (fun _ _ _ => trivial)
  have HKC : Hid (w2.heap.size ≤ w3.heap.size) := BX.out.size
  clear RO RI FO GI BX
  have SZ_3 : Hid (w3.heap.size ≤ w3.heap.size) := Nat.le_refl _
  have HSp : Hid (OctsAll (fun q => w2.heap.size ≤ q ∧ q < w3.heap.size ∧ q ≠ o4 ∧ q ≠ o5) w3 oa n0 ∧ DisksAll (fun q => w2.heap.size ≤ q ∧ q < w3.heap.size ∧ q ≠ o4 ∧ q ≠ o5) w3 ob m0 ∧ Octs (fun q => w2.heap.size ≤ q ∧ q < w3.heap.size ∧ q ≠ o4 ∧ q ≠ o5) w3 xb xn) := ⟨(qDQ Fo_3.out).1, (qDQ Fo_3.out).2, qIx Gi_3.out⟩
  have HLn : Hid (n0 ≤ 5864062014634 ∧ m0 ≤ 2932031007317 ∧ xn ≤ 140737488351232) := by
   obtain ⟨p1, p2, -, -, -⟩ := q1Z Do_3.out
   have h1 : n0 * 24 ≤ 140737488351232 := (q0Q p1).2.2.2
   have h2 : m0 * 48 ≤ 140737488351232 := (q0Q p2).2.2.2
   have h3 : xn * 1 ≤ 140737488351232 := (q0Q Gi_3.out.1).2.2.2
   unfold Hid
   omega
  have qo0 := Ro_3.out.cell (j := 0) rfl
  have qo1 := Ro_3.out.cell (j := 1) rfl
  have qo2 := Ro_3.out.cell (j := 2) rfl
  have qi0 := Ri_3.out.cell (j := 0) rfl
  have qi1 := Ri_3.out.cell (j := 1) rfl
  have qi2 := Ri_3.out.cell (j := 2) rfl
  have qi3 := Ri_3.out.cell (j := 3) rfl
  have qi4 := Ri_3.out.cell (j := 4) rfl
  have qi5 := Ri_3.out.cell (j := 5) rfl
  go_wp2_with fail
  go_at_call 11
  refine Calls.mono (do_w w3 _ oa ob n0 oc m0 od t0 s Do_3.out k at' N id nm dt xb xn xd HIx.out.1 HIx.out.2.1 HIx.out.2.2.1 HIx.out.2.2.2.1 HIx.out.2.2.2.2 (P' := fun _ => True) (rBytes.weaken Gi_3.out.1 (fun _ _ _ => trivial))) ?_
  rintro e w4 ⟨aa, na, ca, ba, ma, da, ta, xr, yr, zr, fr, gr, hr, db, rfl, hd4, hy4, hn4, hdb1, hdb2, bb4⟩
  obtain ⟨Er, hEr⟩ : ∃ z, z = (Mo.doR s (k, at', N, id, nm, dt)).1 := ⟨_, rfl⟩
  obtain ⟨Ir, hIr⟩ : ∃ z, z = (Mo.doR s (k, at', N, id, nm, dt)).2.2.1 := ⟨_, rfl⟩
  obtain ⟨Zr, hZr⟩ : ∃ z, z = (Mo.doR s (k, at', N, id, nm, dt)).2.2.2.2 := ⟨_, rfl⟩
  rw [← hEr, ← hIr, ← hZr]
  have HEr : Hid _ := hEr
  have HIr : Hid _ := hIr
  have HZr : Hid _ := hZr
  clear hEr hIr hZr
  have HDb : Hid (w3.heap.size ≤ db ∧ db < w4.heap.size) := ⟨hdb1, hdb2⟩
  clear hdb1 hdb2
  have Da_4 : Hid (rSta.rd w4 (fun b => w3.heap.size ≤ b ∧ b ≠ db ∧ b < w4.heap.size) [.slice aa na ca, .slice ba ma da, .int .i64 ta] (Mo.doS s (k, at', N, id, nm, dt))) := rSta.weaken hd4 (fun q hq hl => ⟨hq.1, hq.2, hl⟩)
  have Gr_4 : Hid (rFree.rd w4 (fun b => b = db) [.slice xr yr zr] ((Mo.doR s (k, at', N, id, nm, dt)).2.1)) := hy4
  have Nr_4 : Hid (rNmds.rd w4 (fun b => w3.heap.size ≤ b) [.slice fr gr hr] ((Mo.doR s (k, at', N, id, nm, dt)).2.2.2.1)) := hn4
  have Rs_4 : Hid _ := Rs_3.out.below (bb4)
  have Rx_4 : Hid _ := Rx_3.out.below (bb4)
  have Ds_4 : Hid (rSta.rd w4 (fun b => b < W.heap.size) [.slice a0 n0 c0, .slice b0 m0 d0, .int .i64 t0] (s)) := Rep.below Ds_3.out (bb4)
  have Yx_4 : Hid (rBytes.rd w4 (fun b => b < W.heap.size) [.slice xa xn xc] (dt)) := Rep.below Yx_3.out (bb4)
  have Ro_4 : Hid _ := Ro_3.out.below (bb4)
  have Ri_4 : Hid _ := Ri_3.out.below (bb4)
  have Fo_4 : Hid (rStaF.rd w4 (fun q => w2.heap.size ≤ q ∧ q < w3.heap.size ∧ q ≠ o4 ∧ q ≠ o5) [.slice oa n0 oc, .slice ob m0 od, .int .i64 t0] (s)) := Rep.below Fo_3.out (bb4)
  have Gi_4 : Hid (rFree.rd w4 (fun q => w2.heap.size ≤ q ∧ q < w3.heap.size ∧ q ≠ o4 ∧ q ≠ o5) [.slice xb xn xd] (dt)) := Rep.below Gi_3.out (bb4)
  have Do_4 : Hid (rSta.rd w4 (fun _ => True) [.slice oa n0 oc, .slice ob m0 od, .int .i64 t0] (s)) := Rep.below Do_3.out (bb4)
  have B_4 : Hid _ := on B_3.out (bb4)
  have SZ_4 : Hid (w3.heap.size ≤ w4.heap.size) := Nat.le_trans SZ_3.out (bb4).size
  clear qo0 qo1 qo2 qi0 qi1 qi2 qi3 qi4 qi5
  clear Rs_3 Rx_3 Ds_3 Yx_3 Ro_3 Ri_3 Fo_3 Gi_3 Do_3
  clear hd4 hy4 hn4 bb4
  obtain ⟨wA5, wB5, wX5, w5, hA5, hB5, va9, hX5, vr, hY5, vs, vt, k5, hl5⟩ := fresh2 w4 (.slice aa na ca) (.slice ba ma da) (.int .i64 ta) (.int .i64 Er) (.slice xr yr zr) (.int .i64 Ir) (.slice fr gr hr) (.int .i64 Zr)
  have Ra_5 : Hid _ := vs
  have Rr_5 : Hid _ := vt
  have Rs_5 : Hid _ := Rs_4.out.below (k5)
  have Rx_5 : Hid _ := Rx_4.out.below (k5)
  have Ds_5 : Hid (rSta.rd w5 (fun b => b < W.heap.size) [.slice a0 n0 c0, .slice b0 m0 d0, .int .i64 t0] (s)) := Rep.below Ds_4.out (k5)
  have Yx_5 : Hid (rBytes.rd w5 (fun b => b < W.heap.size) [.slice xa xn xc] (dt)) := Rep.below Yx_4.out (k5)
  have Ro_5 : Hid _ := Ro_4.out.below (k5)
  have Ri_5 : Hid _ := Ri_4.out.below (k5)
  have Fo_5 : Hid (rStaF.rd w5 (fun q => w2.heap.size ≤ q ∧ q < w3.heap.size ∧ q ≠ o4 ∧ q ≠ o5) [.slice oa n0 oc, .slice ob m0 od, .int .i64 t0] (s)) := Rep.below Fo_4.out (k5)
  have Gi_5 : Hid (rFree.rd w5 (fun q => w2.heap.size ≤ q ∧ q < w3.heap.size ∧ q ≠ o4 ∧ q ≠ o5) [.slice xb xn xd] (dt)) := Rep.below Gi_4.out (k5)
  have Do_5 : Hid (rSta.rd w5 (fun _ => True) [.slice oa n0 oc, .slice ob m0 od, .int .i64 t0] (s)) := Rep.below Do_4.out (k5)
  have Da_5 : Hid (rSta.rd w5 (fun b => w3.heap.size ≤ b ∧ b ≠ db ∧ b < w4.heap.size) [.slice aa na ca, .slice ba ma da, .int .i64 ta] (Mo.doS s (k, at', N, id, nm, dt))) := Rep.below Da_4.out (k5)
  have Gr_5 : Hid (rFree.rd w5 (fun b => b = db) [.slice xr yr zr] ((Mo.doR s (k, at', N, id, nm, dt)).2.1)) := Rep.below Gr_4.out (k5)
  have Nr_5 : Hid (rNmds.rd w5 (fun b => w3.heap.size ≤ b) [.slice fr gr hr] ((Mo.doR s (k, at', N, id, nm, dt)).2.2.2.1)) := Rep.below Nr_4.out (k5)
  have B_5 : Hid _ := on B_4.out (k5)
  have SZ_5 : Hid (w3.heap.size ≤ w5.heap.size) := Nat.le_trans SZ_4.out (k5).size
  clear Rs_4 Rx_4 Ds_4 Yx_4 Ro_4 Ri_4 Fo_4 Gi_4 Do_4 Da_4 Gr_4 Nr_4
  have p5_0 := va9.cell (j := 0) rfl
  have r5_0 := va9.frozen 0
  have p5_1 := va9.cell (j := 1) rfl
  have r5_1 := va9.frozen 1
  have p5_2 := va9.cell (j := 2) rfl
  have r5_2 := va9.frozen 2
  have s5_0 := vr.cell (j := 0) rfl
  have u5_0 := vr.frozen 0
  have s5_1 := vr.cell (j := 1) rfl
  have u5_1 := vr.frozen 1
  have s5_2 := vr.cell (j := 2) rfl
  have u5_2 := vr.frozen 2
  have s5_3 := vr.cell (j := 3) rfl
  have u5_3 := vr.frozen 3
  have s5_4 := vr.cell (j := 4) rfl
  have u5_4 := vr.frozen 4
  have HL5 : Hid _ := hl5
  clear va9 vr vs vt k5 hl5
  have HZD : Hid (db < w4.heap.size ∧ w4.heap.size < w5.heap.size) := ⟨HDb.out.2, Ra_5.out.lt⟩
  have qs0 := Rs_5.out.cell (j := 0) rfl
  have qs1 := Rs_5.out.cell (j := 1) rfl
  have qs2 := Rs_5.out.cell (j := 2) rfl
  have qx0 := Rx_5.out.cell (j := 0) rfl
  have qx1 := Rx_5.out.cell (j := 1) rfl
  have qx2 := Rx_5.out.cell (j := 2) rfl
  have qx3 := Rx_5.out.cell (j := 3) rfl
  have qx4 := Rx_5.out.cell (j := 4) rfl
  have qx5 := Rx_5.out.cell (j := 5) rfl
  clear Do_5
  have hdd := docDo_u w5 _ _ a0 b0 n0 c0 m0 d0 t0 s Ds_5.out (k, at', N, id, nm, dt) xa xn xc (rOpn.of HIx.out.1 HIx.out.2.1 HIx.out.2.2.1 HIx.out.2.2.2.1 HIx.out.2.2.2.2 Yx_5.out)
  dsimp only at hdd
  go_wp2_with fail
  go_at_call 12
  refine Calls.mono (hdd) ?_
  rintro e w6 ⟨ab, nb, cb, bb, mb, dbb, tb, xq, yq, zq, fq, gq, hq9, rfl, hd6, hy6, hn6, bb6⟩
  obtain ⟨Eq, hEq⟩ : ∃ z, z = (Mo.doR s (k, at', N, id, nm, dt)).1 := ⟨_, rfl⟩
  obtain ⟨Iq, hIq⟩ : ∃ z, z = (Mo.doR s (k, at', N, id, nm, dt)).2.2.1 := ⟨_, rfl⟩
  obtain ⟨Zq, hZq⟩ : ∃ z, z = (Mo.doR s (k, at', N, id, nm, dt)).2.2.2.2 := ⟨_, rfl⟩
  rw [← hEq, ← hIq, ← hZq]
  have HEq : Hid _ := hEq
  have HIq : Hid _ := hIq
  have HZq : Hid _ := hZq
  clear hEq hIq hZq hdd
  have Db_6 : Hid (rSta.rd w6 (fun b => w5.heap.size ≤ b ∧ b < w6.heap.size) [.slice ab nb cb, .slice bb mb dbb, .int .i64 tb] (Mo.doS s (k, at', N, id, nm, dt))) := rSta.weaken hd6 (fun q hq hl => ⟨hq, hl⟩)
  have Yq_6 : Hid (rBytes.rd w6 (fun b => w5.heap.size ≤ b ∧ b < w6.heap.size) [.slice xq yq zq] ((Mo.doR s (k, at', N, id, nm, dt)).2.1)) := rBytes.weaken hy6 (fun q hq hl => ⟨hq, hl⟩)
  have Nq_6 : Hid (rNmds.rd w6 (fun b => w5.heap.size ≤ b ∧ b < w6.heap.size) [.slice fq gq hq9] ((Mo.doR s (k, at', N, id, nm, dt)).2.2.2.1)) := rNmds.weaken hn6 (fun q hq hl => ⟨hq, hl⟩)
  have Rs_6 : Hid _ := Rs_5.out.below (bb6)
  have Rx_6 : Hid _ := Rx_5.out.below (bb6)
  have Ds_6 : Hid (rSta.rd w6 (fun b => b < W.heap.size) [.slice a0 n0 c0, .slice b0 m0 d0, .int .i64 t0] (s)) := Rep.below Ds_5.out (bb6)
  have Yx_6 : Hid (rBytes.rd w6 (fun b => b < W.heap.size) [.slice xa xn xc] (dt)) := Rep.below Yx_5.out (bb6)
  have Ro_6 : Hid _ := Ro_5.out.below (bb6)
  have Ri_6 : Hid _ := Ri_5.out.below (bb6)
  have Fo_6 : Hid (rStaF.rd w6 (fun q => w2.heap.size ≤ q ∧ q < w3.heap.size ∧ q ≠ o4 ∧ q ≠ o5) [.slice oa n0 oc, .slice ob m0 od, .int .i64 t0] (s)) := Rep.below Fo_5.out (bb6)
  have Gi_6 : Hid (rFree.rd w6 (fun q => w2.heap.size ≤ q ∧ q < w3.heap.size ∧ q ≠ o4 ∧ q ≠ o5) [.slice xb xn xd] (dt)) := Rep.below Gi_5.out (bb6)
  have Da_6 : Hid (rSta.rd w6 (fun b => w3.heap.size ≤ b ∧ b ≠ db ∧ b < w4.heap.size) [.slice aa na ca, .slice ba ma da, .int .i64 ta] (Mo.doS s (k, at', N, id, nm, dt))) := Rep.below Da_5.out (bb6)
  have Gr_6 : Hid (rFree.rd w6 (fun b => b = db) [.slice xr yr zr] ((Mo.doR s (k, at', N, id, nm, dt)).2.1)) := Rep.below Gr_5.out (bb6)
  have Nr_6 : Hid (rNmds.rd w6 (fun b => w3.heap.size ≤ b) [.slice fr gr hr] ((Mo.doR s (k, at', N, id, nm, dt)).2.2.2.1)) := Rep.below Nr_5.out (bb6)
  have Ra_6 : Hid _ := Ra_5.out.below (bb6)
  have Rr_6 : Hid _ := Rr_5.out.below (bb6)
  have B_6 : Hid _ := on B_5.out (bb6)
  have SZ_6 : Hid (w3.heap.size ≤ w6.heap.size) := Nat.le_trans SZ_5.out (bb6).size
  clear p5_0 r5_0 p5_1 r5_1 p5_2 r5_2 s5_0 u5_0 s5_1 u5_1 s5_2 u5_2 s5_3 u5_3 s5_4 u5_4 hA5 hB5 hX5 hY5 qs0 qs1 qs2 qx0 qx1 qx2 qx3 qx4 qx5
  clear Rs_5 Rx_5 Ds_5 Yx_5 Ro_5 Ri_5 Fo_5 Gi_5 Da_5 Gr_5 Nr_5 Ra_5 Rr_5
  have HZE : Hid (w4.heap.size < w6.heap.size) := Ra_6.out.lt
  clear hd6 hy6 hn6 bb6
  obtain ⟨wA7, wB7, wX7, w7, hA7, hB7, va9, hX7, vr, hY7, vs, vt, k7, hl7⟩ := fresh2D w6 (.slice ab nb cb) (.slice bb mb dbb) (.int .i64 tb) (.int .i64 Eq) (.slice xq yq zq) (.int .i64 Iq) (.slice fq gq hq9) (.int .i64 Zq)
  have Rb_7 : Hid _ := vs
  have Rq_7 : Hid _ := vt
  have Rs_7 : Hid _ := Rs_6.out.below (k7)
  have Rx_7 : Hid _ := Rx_6.out.below (k7)
  have Ds_7 : Hid (rSta.rd w7 (fun b => b < W.heap.size) [.slice a0 n0 c0, .slice b0 m0 d0, .int .i64 t0] (s)) := Rep.below Ds_6.out (k7)
  have Yx_7 : Hid (rBytes.rd w7 (fun b => b < W.heap.size) [.slice xa xn xc] (dt)) := Rep.below Yx_6.out (k7)
  have Ro_7 : Hid _ := Ro_6.out.below (k7)
  have Ri_7 : Hid _ := Ri_6.out.below (k7)
  have Fo_7 : Hid (rStaF.rd w7 (fun q => w2.heap.size ≤ q ∧ q < w3.heap.size ∧ q ≠ o4 ∧ q ≠ o5) [.slice oa n0 oc, .slice ob m0 od, .int .i64 t0] (s)) := Rep.below Fo_6.out (k7)
  have Gi_7 : Hid (rFree.rd w7 (fun q => w2.heap.size ≤ q ∧ q < w3.heap.size ∧ q ≠ o4 ∧ q ≠ o5) [.slice xb xn xd] (dt)) := Rep.below Gi_6.out (k7)
  have Da_7 : Hid (rSta.rd w7 (fun b => w3.heap.size ≤ b ∧ b ≠ db ∧ b < w4.heap.size) [.slice aa na ca, .slice ba ma da, .int .i64 ta] (Mo.doS s (k, at', N, id, nm, dt))) := Rep.below Da_6.out (k7)
  have Gr_7 : Hid (rFree.rd w7 (fun b => b = db) [.slice xr yr zr] ((Mo.doR s (k, at', N, id, nm, dt)).2.1)) := Rep.below Gr_6.out (k7)
  have Nr_7 : Hid (rNmds.rd w7 (fun b => w3.heap.size ≤ b) [.slice fr gr hr] ((Mo.doR s (k, at', N, id, nm, dt)).2.2.2.1)) := Rep.below Nr_6.out (k7)
  have Ra_7 : Hid _ := Ra_6.out.below (k7)
  have Rr_7 : Hid _ := Rr_6.out.below (k7)
  have Db_7 : Hid (rSta.rd w7 (fun b => w5.heap.size ≤ b ∧ b < w6.heap.size) [.slice ab nb cb, .slice bb mb dbb, .int .i64 tb] (Mo.doS s (k, at', N, id, nm, dt))) := Rep.below Db_6.out (k7)
  have Yq_7 : Hid (rBytes.rd w7 (fun b => w5.heap.size ≤ b ∧ b < w6.heap.size) [.slice xq yq zq] ((Mo.doR s (k, at', N, id, nm, dt)).2.1)) := Rep.below Yq_6.out (k7)
  have Nq_7 : Hid (rNmds.rd w7 (fun b => w5.heap.size ≤ b ∧ b < w6.heap.size) [.slice fq gq hq9] ((Mo.doR s (k, at', N, id, nm, dt)).2.2.2.1)) := Rep.below Nq_6.out (k7)
  have B_7 : Hid _ := on B_6.out (k7)
  have SZ_7 : Hid (w3.heap.size ≤ w7.heap.size) := Nat.le_trans SZ_6.out (k7).size
  clear Rs_6 Rx_6 Ds_6 Yx_6 Ro_6 Ri_6 Fo_6 Gi_6 Da_6 Gr_6 Nr_6 Ra_6 Rr_6 Db_6 Yq_6 Nq_6
  have p7_0 := va9.cell (j := 0) rfl
  have r7_0 := va9.frozen 0
  have p7_1 := va9.cell (j := 1) rfl
  have r7_1 := va9.frozen 1
  have p7_2 := va9.cell (j := 2) rfl
  have r7_2 := va9.frozen 2
  have s7_0 := vr.cell (j := 0) rfl
  have u7_0 := vr.frozen 0
  have s7_1 := vr.cell (j := 1) rfl
  have u7_1 := vr.frozen 1
  have s7_2 := vr.cell (j := 2) rfl
  have u7_2 := vr.frozen 2
  have s7_3 := vr.cell (j := 3) rfl
  have u7_3 := vr.frozen 3
  have s7_4 := vr.cell (j := 4) rfl
  have u7_4 := vr.frozen 4
  have HL7 : Hid _ := hl7
  clear va9 vr vs vt k7 hl7
  have hEE : Eq = Er := HEq.out.trans HEr.out.symm
  have hII : Iq = Ir := HIq.out.trans HIr.out.symm
  have hZZ : Zq = Zr := HZq.out.trans HZr.out.symm
  have HEE : Hid _ := hEE
  have HII : Hid _ := hII
  have HZZ : Hid _ := hZZ
  clear hEE hII hZZ
  have HSq : Hid (OctsAll (fun q => w2.heap.size ≤ q ∧ q < w3.heap.size ∧ q ≠ o4 ∧ q ≠ o5) w7 oa n0 ∧ DisksAll (fun q => w2.heap.size ≤ q ∧ q < w3.heap.size ∧ q ≠ o4 ∧ q ≠ o5) w7 ob m0 ∧ Octs (fun q => w2.heap.size ≤ q ∧ q < w3.heap.size ∧ q ≠ o4 ∧ q ≠ o5) w7 xb xn) := ⟨(qDQ Fo_7.out).1, (qDQ Fo_7.out).2, qIx Gi_7.out⟩
  clear HSp Fo_7 Gi_7
  have qi0 := Ri_7.out.cell (j := 0) rfl
  have qi1 := Ri_7.out.cell (j := 1) rfl
  have qi2 := Ri_7.out.cell (j := 2) rfl
  have qi3 := Ri_7.out.cell (j := 3) rfl
  have qi4 := Ri_7.out.cell (j := 4) rfl
  have qi5 := Ri_7.out.cell (j := 5) rfl
  go_wp2_with fail
  go_at_call 25
  refine Calls.mono (spoil_s w7 (fun q => w2.heap.size ≤ q ∧ q < w3.heap.size ∧ q ≠ o4 ∧ q ≠ o5) xb xn xd (by have h := HLn.out.2.2; omega) HSq.out.2.2) ?_
  rintro e w8 ⟨rfl, sp⟩
  have HSq1 : Hid (OctsAll (fun q => w2.heap.size ≤ q ∧ q < w3.heap.size ∧ q ≠ o4 ∧ q ≠ o5) w8 oa n0 ∧ DisksAll (fun q => w2.heap.size ≤ q ∧ q < w3.heap.size ∧ q ≠ o4 ∧ q ≠ o5) w8 ob m0) := ⟨HSq.out.1.spoilt sp, HSq.out.2.1.spoilt sp⟩
  clear HSq
  have Ro_8 : Hid (Row w8 (o4) 31 [.slice oa n0 oc, .slice ob m0 od, .int .i64 t0]) := Ro_7.out.keep (sp.block _ (fun h => by have g1 := HKx.out; have g2 := HOO.out; have g3 := HDb.out; unfold Hid at g1 g2 g3; have y3 := SZ_3.out; have y4 := SZ_4.out; have y5 := SZ_5.out; have y6 := SZ_6.out; have y7 := SZ_7.out; unfold Hid at y3 y4 y5 y6 y7; have v5 := HL5.out; have v7 := HL7.out; have y0 := HZD.out; have yk := HKC.out; have ye := HZE.out; unfold Hid at y0 yk ye; have h1 := h.1; have h2 := h.2.1; have h3 := h.2.2.1; have h4 := h.2.2.2; omega))
  have Da_8 : Hid (rSta.rd w8 (fun b => w3.heap.size ≤ b ∧ b ≠ db ∧ b < w4.heap.size) [.slice aa na ca, .slice ba ma da, .int .i64 ta] (Mo.doS s (k, at', N, id, nm, dt))) := Rep.kept Da_7.out sp.kept (fun q hq hl h => by have g1 := HKx.out; have g2 := HOO.out; have g3 := HDb.out; unfold Hid at g1 g2 g3; have y3 := SZ_3.out; have y4 := SZ_4.out; have y5 := SZ_5.out; have y6 := SZ_6.out; have y7 := SZ_7.out; unfold Hid at y3 y4 y5 y6 y7; have v5 := HL5.out; have v7 := HL7.out; have y0 := HZD.out; have yk := HKC.out; have ye := HZE.out; unfold Hid at y0 yk ye; have h1 := h.1; have h2 := h.2.1; have h3 := h.2.2.1; have h4 := h.2.2.2; have h9 : w3.heap.size ≤ q ∧ q ≠ db ∧ q < w4.heap.size := hq; omega)
  have Gr_8 : Hid (rFree.rd w8 (fun b => b = db) [.slice xr yr zr] ((Mo.doR s (k, at', N, id, nm, dt)).2.1)) := Rep.kept Gr_7.out sp.kept (fun q hq hl h => by have g1 := HKx.out; have g2 := HOO.out; have g3 := HDb.out; unfold Hid at g1 g2 g3; have y3 := SZ_3.out; have y4 := SZ_4.out; have y5 := SZ_5.out; have y6 := SZ_6.out; have y7 := SZ_7.out; unfold Hid at y3 y4 y5 y6 y7; have v5 := HL5.out; have v7 := HL7.out; have y0 := HZD.out; have yk := HKC.out; have ye := HZE.out; unfold Hid at y0 yk ye; have h1 := h.1; have h2 := h.2.1; have h3 := h.2.2.1; have h4 := h.2.2.2; have h9 : q = db := hq; omega)
  have Nr_8 : Hid (rNmds.rd w8 (fun b => w3.heap.size ≤ b) [.slice fr gr hr] ((Mo.doR s (k, at', N, id, nm, dt)).2.2.2.1)) := Rep.kept Nr_7.out sp.kept (fun q hq hl h => by have g1 := HKx.out; have g2 := HOO.out; have g3 := HDb.out; unfold Hid at g1 g2 g3; have y3 := SZ_3.out; have y4 := SZ_4.out; have y5 := SZ_5.out; have y6 := SZ_6.out; have y7 := SZ_7.out; unfold Hid at y3 y4 y5 y6 y7; have v5 := HL5.out; have v7 := HL7.out; have y0 := HZD.out; have yk := HKC.out; have ye := HZE.out; unfold Hid at y0 yk ye; have h1 := h.1; have h2 := h.2.1; have h3 := h.2.2.1; have h4 := h.2.2.2; have h9 : w3.heap.size ≤ q := hq; omega)
  have Ra_8 : Hid (Row w8 (w4.heap.size) 31 [.slice aa na ca, .slice ba ma da, .int .i64 ta]) := Ra_7.out.keep (sp.block _ (fun h => by have g1 := HKx.out; have g2 := HOO.out; have g3 := HDb.out; unfold Hid at g1 g2 g3; have y3 := SZ_3.out; have y4 := SZ_4.out; have y5 := SZ_5.out; have y6 := SZ_6.out; have y7 := SZ_7.out; unfold Hid at y3 y4 y5 y6 y7; have v5 := HL5.out; have v7 := HL7.out; have y0 := HZD.out; have yk := HKC.out; have ye := HZE.out; unfold Hid at y0 yk ye; have h1 := h.1; have h2 := h.2.1; have h3 := h.2.2.1; have h4 := h.2.2.2; omega))
  have Rr_8 : Hid (Row w8 (wA5.heap.size) 38 [.int .i64 Er, .slice xr yr zr, .int .i64 Ir, .slice fr gr hr, .int .i64 Zr]) := Rr_7.out.keep (sp.block _ (fun h => by have g1 := HKx.out; have g2 := HOO.out; have g3 := HDb.out; unfold Hid at g1 g2 g3; have y3 := SZ_3.out; have y4 := SZ_4.out; have y5 := SZ_5.out; have y6 := SZ_6.out; have y7 := SZ_7.out; unfold Hid at y3 y4 y5 y6 y7; have v5 := HL5.out; have v7 := HL7.out; have y0 := HZD.out; have yk := HKC.out; have ye := HZE.out; unfold Hid at y0 yk ye; have h1 := h.1; have h2 := h.2.1; have h3 := h.2.2.1; have h4 := h.2.2.2; omega))
  have Db_8 : Hid (rSta.rd w8 (fun b => w5.heap.size ≤ b ∧ b < w6.heap.size) [.slice ab nb cb, .slice bb mb dbb, .int .i64 tb] (Mo.doS s (k, at', N, id, nm, dt))) := Rep.kept Db_7.out sp.kept (fun q hq hl h => by have g1 := HKx.out; have g2 := HOO.out; have g3 := HDb.out; unfold Hid at g1 g2 g3; have y3 := SZ_3.out; have y4 := SZ_4.out; have y5 := SZ_5.out; have y6 := SZ_6.out; have y7 := SZ_7.out; unfold Hid at y3 y4 y5 y6 y7; have v5 := HL5.out; have v7 := HL7.out; have y0 := HZD.out; have yk := HKC.out; have ye := HZE.out; unfold Hid at y0 yk ye; have h1 := h.1; have h2 := h.2.1; have h3 := h.2.2.1; have h4 := h.2.2.2; have h9 : w5.heap.size ≤ q ∧ q < w6.heap.size := hq; omega)
  have Yq_8 : Hid (rBytes.rd w8 (fun b => w5.heap.size ≤ b ∧ b < w6.heap.size) [.slice xq yq zq] ((Mo.doR s (k, at', N, id, nm, dt)).2.1)) := Rep.kept Yq_7.out sp.kept (fun q hq hl h => by have g1 := HKx.out; have g2 := HOO.out; have g3 := HDb.out; unfold Hid at g1 g2 g3; have y3 := SZ_3.out; have y4 := SZ_4.out; have y5 := SZ_5.out; have y6 := SZ_6.out; have y7 := SZ_7.out; unfold Hid at y3 y4 y5 y6 y7; have v5 := HL5.out; have v7 := HL7.out; have y0 := HZD.out; have yk := HKC.out; have ye := HZE.out; unfold Hid at y0 yk ye; have h1 := h.1; have h2 := h.2.1; have h3 := h.2.2.1; have h4 := h.2.2.2; have h9 : w5.heap.size ≤ q ∧ q < w6.heap.size := hq; omega)
  have Nq_8 : Hid (rNmds.rd w8 (fun b => w5.heap.size ≤ b ∧ b < w6.heap.size) [.slice fq gq hq9] ((Mo.doR s (k, at', N, id, nm, dt)).2.2.2.1)) := Rep.kept Nq_7.out sp.kept (fun q hq hl h => by have g1 := HKx.out; have g2 := HOO.out; have g3 := HDb.out; unfold Hid at g1 g2 g3; have y3 := SZ_3.out; have y4 := SZ_4.out; have y5 := SZ_5.out; have y6 := SZ_6.out; have y7 := SZ_7.out; unfold Hid at y3 y4 y5 y6 y7; have v5 := HL5.out; have v7 := HL7.out; have y0 := HZD.out; have yk := HKC.out; have ye := HZE.out; unfold Hid at y0 yk ye; have h1 := h.1; have h2 := h.2.1; have h3 := h.2.2.1; have h4 := h.2.2.2; have h9 : w5.heap.size ≤ q ∧ q < w6.heap.size := hq; omega)
  have Rb_8 : Hid (Row w8 (w6.heap.size) 25 [.slice ab nb cb, .slice bb mb dbb, .int .i64 tb]) := Rb_7.out.keep (sp.block _ (fun h => by have g1 := HKx.out; have g2 := HOO.out; have g3 := HDb.out; unfold Hid at g1 g2 g3; have y3 := SZ_3.out; have y4 := SZ_4.out; have y5 := SZ_5.out; have y6 := SZ_6.out; have y7 := SZ_7.out; unfold Hid at y3 y4 y5 y6 y7; have v5 := HL5.out; have v7 := HL7.out; have y0 := HZD.out; have yk := HKC.out; have ye := HZE.out; unfold Hid at y0 yk ye; have h1 := h.1; have h2 := h.2.1; have h3 := h.2.2.1; have h4 := h.2.2.2; omega))
  have Rq_8 : Hid (Row w8 (wA7.heap.size) 43 [.int .i64 Eq, .slice xq yq zq, .int .i64 Iq, .slice fq gq hq9, .int .i64 Zq]) := Rq_7.out.keep (sp.block _ (fun h => by have g1 := HKx.out; have g2 := HOO.out; have g3 := HDb.out; unfold Hid at g1 g2 g3; have y3 := SZ_3.out; have y4 := SZ_4.out; have y5 := SZ_5.out; have y6 := SZ_6.out; have y7 := SZ_7.out; unfold Hid at y3 y4 y5 y6 y7; have v5 := HL5.out; have v7 := HL7.out; have y0 := HZD.out; have yk := HKC.out; have ye := HZE.out; unfold Hid at y0 yk ye; have h1 := h.1; have h2 := h.2.1; have h3 := h.2.2.1; have h4 := h.2.2.2; omega))
  have B_8 : Hid (Below W.heap.size W w8) := Below.trans B_7.out ⟨sp.os, sp.tape, sp.output, by rw [sp.size]; exact Nat.le_refl _, fun q hb => sp.block q (fun h => by have g1 := HKx.out; have g2 := HOO.out; have g3 := HDb.out; unfold Hid at g1 g2 g3; have y3 := SZ_3.out; have y4 := SZ_4.out; have y5 := SZ_5.out; have y6 := SZ_6.out; have y7 := SZ_7.out; unfold Hid at y3 y4 y5 y6 y7; have v5 := HL5.out; have v7 := HL7.out; have y0 := HZD.out; have yk := HKC.out; have ye := HZE.out; unfold Hid at y0 yk ye; have h1 := h.1; have h2 := h.2.1; have h3 := h.2.2.1; have h4 := h.2.2.2; omega)⟩
  have SZ_8 : Hid (w3.heap.size ≤ w8.heap.size) := by have h := SZ_7.out; rw [← sp.size] at h; exact h
  clear p7_0 r7_0 p7_1 r7_1 p7_2 r7_2 s7_0 u7_0 s7_1 u7_1 s7_2 u7_2 s7_3 u7_3 s7_4 u7_4 hA7 hB7 hX7 hY7 qi0 qi1 qi2 qi3 qi4 qi5
  clear Rs_7 Rx_7 Ds_7 Yx_7 Ro_7 Ri_7 Da_7 Gr_7 Nr_7 Ra_7 Rr_7 Db_7 Yq_7 Nq_7 Rb_7 Rq_7
  clear sp
  have qo0 := Ro_8.out.cell (j := 0) rfl
  have qo1 := Ro_8.out.cell (j := 1) rfl
  have qo2 := Ro_8.out.cell (j := 2) rfl
  go_wp2_with fail
  go_at_call 26
  refine Calls.mono (qEx w8 (fun q => w2.heap.size ≤ q ∧ q < w3.heap.size ∧ q ≠ o4 ∧ q ≠ o5) oa n0 oc HLn.out.1 HSq1.out.1) ?_
  rintro e w9 ⟨rfl, sp⟩
  have HSq2 : Hid (DisksAll (fun q => w2.heap.size ≤ q ∧ q < w3.heap.size ∧ q ≠ o4 ∧ q ≠ o5) w9 ob m0) := HSq1.out.2.spoilt sp
  clear HSq1
  have Ro_9 : Hid (Row w9 (o4) 31 [.slice oa n0 oc, .slice ob m0 od, .int .i64 t0]) := Ro_8.out.keep (sp.block _ (fun h => by have g1 := HKx.out; have g2 := HOO.out; have g3 := HDb.out; unfold Hid at g1 g2 g3; have y3 := SZ_3.out; have y4 := SZ_4.out; have y5 := SZ_5.out; have y6 := SZ_6.out; have y7 := SZ_7.out; unfold Hid at y3 y4 y5 y6 y7; have v5 := HL5.out; have v7 := HL7.out; have y0 := HZD.out; have yk := HKC.out; have ye := HZE.out; unfold Hid at y0 yk ye; have h1 := h.1; have h2 := h.2.1; have h3 := h.2.2.1; have h4 := h.2.2.2; omega))
  have Da_9 : Hid (rSta.rd w9 (fun b => w3.heap.size ≤ b ∧ b ≠ db ∧ b < w4.heap.size) [.slice aa na ca, .slice ba ma da, .int .i64 ta] (Mo.doS s (k, at', N, id, nm, dt))) := Rep.kept Da_8.out sp.kept (fun q hq hl h => by have g1 := HKx.out; have g2 := HOO.out; have g3 := HDb.out; unfold Hid at g1 g2 g3; have y3 := SZ_3.out; have y4 := SZ_4.out; have y5 := SZ_5.out; have y6 := SZ_6.out; have y7 := SZ_7.out; unfold Hid at y3 y4 y5 y6 y7; have v5 := HL5.out; have v7 := HL7.out; have y0 := HZD.out; have yk := HKC.out; have ye := HZE.out; unfold Hid at y0 yk ye; have h1 := h.1; have h2 := h.2.1; have h3 := h.2.2.1; have h4 := h.2.2.2; have h9 : w3.heap.size ≤ q ∧ q ≠ db ∧ q < w4.heap.size := hq; omega)
  have Gr_9 : Hid (rFree.rd w9 (fun b => b = db) [.slice xr yr zr] ((Mo.doR s (k, at', N, id, nm, dt)).2.1)) := Rep.kept Gr_8.out sp.kept (fun q hq hl h => by have g1 := HKx.out; have g2 := HOO.out; have g3 := HDb.out; unfold Hid at g1 g2 g3; have y3 := SZ_3.out; have y4 := SZ_4.out; have y5 := SZ_5.out; have y6 := SZ_6.out; have y7 := SZ_7.out; unfold Hid at y3 y4 y5 y6 y7; have v5 := HL5.out; have v7 := HL7.out; have y0 := HZD.out; have yk := HKC.out; have ye := HZE.out; unfold Hid at y0 yk ye; have h1 := h.1; have h2 := h.2.1; have h3 := h.2.2.1; have h4 := h.2.2.2; have h9 : q = db := hq; omega)
  have Nr_9 : Hid (rNmds.rd w9 (fun b => w3.heap.size ≤ b) [.slice fr gr hr] ((Mo.doR s (k, at', N, id, nm, dt)).2.2.2.1)) := Rep.kept Nr_8.out sp.kept (fun q hq hl h => by have g1 := HKx.out; have g2 := HOO.out; have g3 := HDb.out; unfold Hid at g1 g2 g3; have y3 := SZ_3.out; have y4 := SZ_4.out; have y5 := SZ_5.out; have y6 := SZ_6.out; have y7 := SZ_7.out; unfold Hid at y3 y4 y5 y6 y7; have v5 := HL5.out; have v7 := HL7.out; have y0 := HZD.out; have yk := HKC.out; have ye := HZE.out; unfold Hid at y0 yk ye; have h1 := h.1; have h2 := h.2.1; have h3 := h.2.2.1; have h4 := h.2.2.2; have h9 : w3.heap.size ≤ q := hq; omega)
  have Ra_9 : Hid (Row w9 (w4.heap.size) 31 [.slice aa na ca, .slice ba ma da, .int .i64 ta]) := Ra_8.out.keep (sp.block _ (fun h => by have g1 := HKx.out; have g2 := HOO.out; have g3 := HDb.out; unfold Hid at g1 g2 g3; have y3 := SZ_3.out; have y4 := SZ_4.out; have y5 := SZ_5.out; have y6 := SZ_6.out; have y7 := SZ_7.out; unfold Hid at y3 y4 y5 y6 y7; have v5 := HL5.out; have v7 := HL7.out; have y0 := HZD.out; have yk := HKC.out; have ye := HZE.out; unfold Hid at y0 yk ye; have h1 := h.1; have h2 := h.2.1; have h3 := h.2.2.1; have h4 := h.2.2.2; omega))
  have Rr_9 : Hid (Row w9 (wA5.heap.size) 38 [.int .i64 Er, .slice xr yr zr, .int .i64 Ir, .slice fr gr hr, .int .i64 Zr]) := Rr_8.out.keep (sp.block _ (fun h => by have g1 := HKx.out; have g2 := HOO.out; have g3 := HDb.out; unfold Hid at g1 g2 g3; have y3 := SZ_3.out; have y4 := SZ_4.out; have y5 := SZ_5.out; have y6 := SZ_6.out; have y7 := SZ_7.out; unfold Hid at y3 y4 y5 y6 y7; have v5 := HL5.out; have v7 := HL7.out; have y0 := HZD.out; have yk := HKC.out; have ye := HZE.out; unfold Hid at y0 yk ye; have h1 := h.1; have h2 := h.2.1; have h3 := h.2.2.1; have h4 := h.2.2.2; omega))
  have Db_9 : Hid (rSta.rd w9 (fun b => w5.heap.size ≤ b ∧ b < w6.heap.size) [.slice ab nb cb, .slice bb mb dbb, .int .i64 tb] (Mo.doS s (k, at', N, id, nm, dt))) := Rep.kept Db_8.out sp.kept (fun q hq hl h => by have g1 := HKx.out; have g2 := HOO.out; have g3 := HDb.out; unfold Hid at g1 g2 g3; have y3 := SZ_3.out; have y4 := SZ_4.out; have y5 := SZ_5.out; have y6 := SZ_6.out; have y7 := SZ_7.out; unfold Hid at y3 y4 y5 y6 y7; have v5 := HL5.out; have v7 := HL7.out; have y0 := HZD.out; have yk := HKC.out; have ye := HZE.out; unfold Hid at y0 yk ye; have h1 := h.1; have h2 := h.2.1; have h3 := h.2.2.1; have h4 := h.2.2.2; have h9 : w5.heap.size ≤ q ∧ q < w6.heap.size := hq; omega)
  have Yq_9 : Hid (rBytes.rd w9 (fun b => w5.heap.size ≤ b ∧ b < w6.heap.size) [.slice xq yq zq] ((Mo.doR s (k, at', N, id, nm, dt)).2.1)) := Rep.kept Yq_8.out sp.kept (fun q hq hl h => by have g1 := HKx.out; have g2 := HOO.out; have g3 := HDb.out; unfold Hid at g1 g2 g3; have y3 := SZ_3.out; have y4 := SZ_4.out; have y5 := SZ_5.out; have y6 := SZ_6.out; have y7 := SZ_7.out; unfold Hid at y3 y4 y5 y6 y7; have v5 := HL5.out; have v7 := HL7.out; have y0 := HZD.out; have yk := HKC.out; have ye := HZE.out; unfold Hid at y0 yk ye; have h1 := h.1; have h2 := h.2.1; have h3 := h.2.2.1; have h4 := h.2.2.2; have h9 : w5.heap.size ≤ q ∧ q < w6.heap.size := hq; omega)
  have Nq_9 : Hid (rNmds.rd w9 (fun b => w5.heap.size ≤ b ∧ b < w6.heap.size) [.slice fq gq hq9] ((Mo.doR s (k, at', N, id, nm, dt)).2.2.2.1)) := Rep.kept Nq_8.out sp.kept (fun q hq hl h => by have g1 := HKx.out; have g2 := HOO.out; have g3 := HDb.out; unfold Hid at g1 g2 g3; have y3 := SZ_3.out; have y4 := SZ_4.out; have y5 := SZ_5.out; have y6 := SZ_6.out; have y7 := SZ_7.out; unfold Hid at y3 y4 y5 y6 y7; have v5 := HL5.out; have v7 := HL7.out; have y0 := HZD.out; have yk := HKC.out; have ye := HZE.out; unfold Hid at y0 yk ye; have h1 := h.1; have h2 := h.2.1; have h3 := h.2.2.1; have h4 := h.2.2.2; have h9 : w5.heap.size ≤ q ∧ q < w6.heap.size := hq; omega)
  have Rb_9 : Hid (Row w9 (w6.heap.size) 25 [.slice ab nb cb, .slice bb mb dbb, .int .i64 tb]) := Rb_8.out.keep (sp.block _ (fun h => by have g1 := HKx.out; have g2 := HOO.out; have g3 := HDb.out; unfold Hid at g1 g2 g3; have y3 := SZ_3.out; have y4 := SZ_4.out; have y5 := SZ_5.out; have y6 := SZ_6.out; have y7 := SZ_7.out; unfold Hid at y3 y4 y5 y6 y7; have v5 := HL5.out; have v7 := HL7.out; have y0 := HZD.out; have yk := HKC.out; have ye := HZE.out; unfold Hid at y0 yk ye; have h1 := h.1; have h2 := h.2.1; have h3 := h.2.2.1; have h4 := h.2.2.2; omega))
  have Rq_9 : Hid (Row w9 (wA7.heap.size) 43 [.int .i64 Eq, .slice xq yq zq, .int .i64 Iq, .slice fq gq hq9, .int .i64 Zq]) := Rq_8.out.keep (sp.block _ (fun h => by have g1 := HKx.out; have g2 := HOO.out; have g3 := HDb.out; unfold Hid at g1 g2 g3; have y3 := SZ_3.out; have y4 := SZ_4.out; have y5 := SZ_5.out; have y6 := SZ_6.out; have y7 := SZ_7.out; unfold Hid at y3 y4 y5 y6 y7; have v5 := HL5.out; have v7 := HL7.out; have y0 := HZD.out; have yk := HKC.out; have ye := HZE.out; unfold Hid at y0 yk ye; have h1 := h.1; have h2 := h.2.1; have h3 := h.2.2.1; have h4 := h.2.2.2; omega))
  have B_9 : Hid (Below W.heap.size W w9) := Below.trans B_8.out ⟨sp.os, sp.tape, sp.output, by rw [sp.size]; exact Nat.le_refl _, fun q hb => sp.block q (fun h => by have g1 := HKx.out; have g2 := HOO.out; have g3 := HDb.out; unfold Hid at g1 g2 g3; have y3 := SZ_3.out; have y4 := SZ_4.out; have y5 := SZ_5.out; have y6 := SZ_6.out; have y7 := SZ_7.out; unfold Hid at y3 y4 y5 y6 y7; have v5 := HL5.out; have v7 := HL7.out; have y0 := HZD.out; have yk := HKC.out; have ye := HZE.out; unfold Hid at y0 yk ye; have h1 := h.1; have h2 := h.2.1; have h3 := h.2.2.1; have h4 := h.2.2.2; omega)⟩
  have SZ_9 : Hid (w3.heap.size ≤ w9.heap.size) := by have h := SZ_8.out; rw [← sp.size] at h; exact h
  clear qo0 qo1 qo2
  clear Ro_8 Da_8 Gr_8 Nr_8 Ra_8 Rr_8 Db_8 Yq_8 Nq_8 Rb_8 Rq_8
  clear sp
  skip
  go_wp2_with fail
  go_loopw [11] (fun i wr => ∃ j : Nat, j ≤ m0 ∧ i = .int .i64 j ∧ Hid (Spoilt (fun q => w2.heap.size ≤ q ∧ q < w3.heap.size ∧ q ≠ o4 ∧ q ≠ o5) w9 wr)) (fun i _ => m0 - (intOf i).toNat)
  case atStart => exact ⟨0, Nat.zero_le _, rfl, Spoilt.refl _ _⟩
  case round =>
   obtain ⟨j, hj, rfl, HSr⟩ := hrel
   have Ror : Hid (Row wr (o4) 31 [.slice oa n0 oc, .slice ob m0 od, .int .i64 t0]) := Ro_9.out.keep (HSr.out.block _ (fun h => by have g1 := HKx.out; have g2 := HOO.out; have g3 := HDb.out; unfold Hid at g1 g2 g3; have y3 := SZ_3.out; have y4 := SZ_4.out; have y5 := SZ_5.out; have y6 := SZ_6.out; have y7 := SZ_7.out; unfold Hid at y3 y4 y5 y6 y7; have v5 := HL5.out; have v7 := HL7.out; have y0 := HZD.out; have yk := HKC.out; have ye := HZE.out; unfold Hid at y0 yk ye; have h1 := h.1; have h2 := h.2.1; have h3 := h.2.2.1; have h4 := h.2.2.2; omega))
   have qo1 := Ror.out.cell (j := 1) rfl
   have hm0 : m0 ≤ 2932031007317 := HLn.out.2.1
   by_cases hjn : j < m0
   · skip
     have hjz : (j : Int) < (m0 : Int) := by omega
     obtain ⟨gb, gf, hob, hat⟩ : ∃ b off, ob = some ⟨b, off, none⟩ ∧ ∀ j, j < m0 → ∃ x m d, wr.cell? ⟨b, off + j * 3 + 2, none⟩ = some (.slice x m d) ∧ m ≤ 5864062014634 ∧ OctsAll (fun q => w2.heap.size ≤ q ∧ q < w3.heap.size ∧ q ≠ o4 ∧ q ≠ o5) wr x m := by
      rcases HSq2.out.spoilt HSr.out with h | ⟨b, off, h1, h2⟩
      · omega
      · exact ⟨b, off, h1, h2⟩
     obtain ⟨x, xm, xe, hc, hxm, hall⟩ := hat j hjn
     rw [hob] at qo1
     have HXm : Hid (xm ≤ 5864062014634) := hxm
     have HAll : Hid (OctsAll (fun q => w2.heap.size ≤ q ∧ q < w3.heap.size ∧ q ≠ o4 ∧ q ≠ o5) wr x xm) := hall
     clear hat hob hxm hall
     go_wp2_with fail
     go_at_call 26
     refine Calls.mono (qEx wr (fun q => w2.heap.size ≤ q ∧ q < w3.heap.size ∧ q ≠ o4 ∧ q ≠ o5) x xm xe HXm.out HAll.out) ?_
     rintro e wq ⟨rfl, sp⟩
     have HSn : Hid (Spoilt (fun q => w2.heap.size ≤ q ∧ q < w3.heap.size ∧ q ≠ o4 ∧ q ≠ o5) w9 wq) := HSr.out.trans sp
     clear sp HSr Ror qo1 hc HAll HXm
     go_wp2
     go_roundw
     case rel => exact ⟨j + 1, by omega, by go_num, HSn⟩
     case measure => simp [intOf]; omega
   · obtain rfl : m0 = j := by omega
     have hjz : ¬ (m0 : Int) < (m0 : Int) := by omega
     obtain ⟨w10, hw10⟩ : ∃ v, v = wr := ⟨_, rfl⟩
     subst hw10
     clear Ror qo1
     have Ro_10 : Hid (Row w10 (o4) 31 [.slice oa n0 oc, .slice ob m0 od, .int .i64 t0]) := Ro_9.out.keep (HSr.out.block _ (fun h => by have g1 := HKx.out; have g2 := HOO.out; have g3 := HDb.out; unfold Hid at g1 g2 g3; have y3 := SZ_3.out; have y4 := SZ_4.out; have y5 := SZ_5.out; have y6 := SZ_6.out; have y7 := SZ_7.out; unfold Hid at y3 y4 y5 y6 y7; have v5 := HL5.out; have v7 := HL7.out; have y0 := HZD.out; have yk := HKC.out; have ye := HZE.out; unfold Hid at y0 yk ye; have h1 := h.1; have h2 := h.2.1; have h3 := h.2.2.1; have h4 := h.2.2.2; omega))
     have Da_10 : Hid (rSta.rd w10 (fun b => w3.heap.size ≤ b ∧ b ≠ db ∧ b < w4.heap.size) [.slice aa na ca, .slice ba ma da, .int .i64 ta] (Mo.doS s (k, at', N, id, nm, dt))) := Rep.kept Da_9.out HSr.out.kept (fun q hq hl h => by have g1 := HKx.out; have g2 := HOO.out; have g3 := HDb.out; unfold Hid at g1 g2 g3; have y3 := SZ_3.out; have y4 := SZ_4.out; have y5 := SZ_5.out; have y6 := SZ_6.out; have y7 := SZ_7.out; unfold Hid at y3 y4 y5 y6 y7; have v5 := HL5.out; have v7 := HL7.out; have y0 := HZD.out; have yk := HKC.out; have ye := HZE.out; unfold Hid at y0 yk ye; have h1 := h.1; have h2 := h.2.1; have h3 := h.2.2.1; have h4 := h.2.2.2; have h9 : w3.heap.size ≤ q ∧ q ≠ db ∧ q < w4.heap.size := hq; omega)
     have Gr_10 : Hid (rFree.rd w10 (fun b => b = db) [.slice xr yr zr] ((Mo.doR s (k, at', N, id, nm, dt)).2.1)) := Rep.kept Gr_9.out HSr.out.kept (fun q hq hl h => by have g1 := HKx.out; have g2 := HOO.out; have g3 := HDb.out; unfold Hid at g1 g2 g3; have y3 := SZ_3.out; have y4 := SZ_4.out; have y5 := SZ_5.out; have y6 := SZ_6.out; have y7 := SZ_7.out; unfold Hid at y3 y4 y5 y6 y7; have v5 := HL5.out; have v7 := HL7.out; have y0 := HZD.out; have yk := HKC.out; have ye := HZE.out; unfold Hid at y0 yk ye; have h1 := h.1; have h2 := h.2.1; have h3 := h.2.2.1; have h4 := h.2.2.2; have h9 : q = db := hq; omega)
     have Nr_10 : Hid (rNmds.rd w10 (fun b => w3.heap.size ≤ b) [.slice fr gr hr] ((Mo.doR s (k, at', N, id, nm, dt)).2.2.2.1)) := Rep.kept Nr_9.out HSr.out.kept (fun q hq hl h => by have g1 := HKx.out; have g2 := HOO.out; have g3 := HDb.out; unfold Hid at g1 g2 g3; have y3 := SZ_3.out; have y4 := SZ_4.out; have y5 := SZ_5.out; have y6 := SZ_6.out; have y7 := SZ_7.out; unfold Hid at y3 y4 y5 y6 y7; have v5 := HL5.out; have v7 := HL7.out; have y0 := HZD.out; have yk := HKC.out; have ye := HZE.out; unfold Hid at y0 yk ye; have h1 := h.1; have h2 := h.2.1; have h3 := h.2.2.1; have h4 := h.2.2.2; have h9 : w3.heap.size ≤ q := hq; omega)
     have Ra_10 : Hid (Row w10 (w4.heap.size) 31 [.slice aa na ca, .slice ba ma da, .int .i64 ta]) := Ra_9.out.keep (HSr.out.block _ (fun h => by have g1 := HKx.out; have g2 := HOO.out; have g3 := HDb.out; unfold Hid at g1 g2 g3; have y3 := SZ_3.out; have y4 := SZ_4.out; have y5 := SZ_5.out; have y6 := SZ_6.out; have y7 := SZ_7.out; unfold Hid at y3 y4 y5 y6 y7; have v5 := HL5.out; have v7 := HL7.out; have y0 := HZD.out; have yk := HKC.out; have ye := HZE.out; unfold Hid at y0 yk ye; have h1 := h.1; have h2 := h.2.1; have h3 := h.2.2.1; have h4 := h.2.2.2; omega))
     have Rr_10 : Hid (Row w10 (wA5.heap.size) 38 [.int .i64 Er, .slice xr yr zr, .int .i64 Ir, .slice fr gr hr, .int .i64 Zr]) := Rr_9.out.keep (HSr.out.block _ (fun h => by have g1 := HKx.out; have g2 := HOO.out; have g3 := HDb.out; unfold Hid at g1 g2 g3; have y3 := SZ_3.out; have y4 := SZ_4.out; have y5 := SZ_5.out; have y6 := SZ_6.out; have y7 := SZ_7.out; unfold Hid at y3 y4 y5 y6 y7; have v5 := HL5.out; have v7 := HL7.out; have y0 := HZD.out; have yk := HKC.out; have ye := HZE.out; unfold Hid at y0 yk ye; have h1 := h.1; have h2 := h.2.1; have h3 := h.2.2.1; have h4 := h.2.2.2; omega))
     have Db_10 : Hid (rSta.rd w10 (fun b => w5.heap.size ≤ b ∧ b < w6.heap.size) [.slice ab nb cb, .slice bb mb dbb, .int .i64 tb] (Mo.doS s (k, at', N, id, nm, dt))) := Rep.kept Db_9.out HSr.out.kept (fun q hq hl h => by have g1 := HKx.out; have g2 := HOO.out; have g3 := HDb.out; unfold Hid at g1 g2 g3; have y3 := SZ_3.out; have y4 := SZ_4.out; have y5 := SZ_5.out; have y6 := SZ_6.out; have y7 := SZ_7.out; unfold Hid at y3 y4 y5 y6 y7; have v5 := HL5.out; have v7 := HL7.out; have y0 := HZD.out; have yk := HKC.out; have ye := HZE.out; unfold Hid at y0 yk ye; have h1 := h.1; have h2 := h.2.1; have h3 := h.2.2.1; have h4 := h.2.2.2; have h9 : w5.heap.size ≤ q ∧ q < w6.heap.size := hq; omega)
     have Yq_10 : Hid (rBytes.rd w10 (fun b => w5.heap.size ≤ b ∧ b < w6.heap.size) [.slice xq yq zq] ((Mo.doR s (k, at', N, id, nm, dt)).2.1)) := Rep.kept Yq_9.out HSr.out.kept (fun q hq hl h => by have g1 := HKx.out; have g2 := HOO.out; have g3 := HDb.out; unfold Hid at g1 g2 g3; have y3 := SZ_3.out; have y4 := SZ_4.out; have y5 := SZ_5.out; have y6 := SZ_6.out; have y7 := SZ_7.out; unfold Hid at y3 y4 y5 y6 y7; have v5 := HL5.out; have v7 := HL7.out; have y0 := HZD.out; have yk := HKC.out; have ye := HZE.out; unfold Hid at y0 yk ye; have h1 := h.1; have h2 := h.2.1; have h3 := h.2.2.1; have h4 := h.2.2.2; have h9 : w5.heap.size ≤ q ∧ q < w6.heap.size := hq; omega)
     have Nq_10 : Hid (rNmds.rd w10 (fun b => w5.heap.size ≤ b ∧ b < w6.heap.size) [.slice fq gq hq9] ((Mo.doR s (k, at', N, id, nm, dt)).2.2.2.1)) := Rep.kept Nq_9.out HSr.out.kept (fun q hq hl h => by have g1 := HKx.out; have g2 := HOO.out; have g3 := HDb.out; unfold Hid at g1 g2 g3; have y3 := SZ_3.out; have y4 := SZ_4.out; have y5 := SZ_5.out; have y6 := SZ_6.out; have y7 := SZ_7.out; unfold Hid at y3 y4 y5 y6 y7; have v5 := HL5.out; have v7 := HL7.out; have y0 := HZD.out; have yk := HKC.out; have ye := HZE.out; unfold Hid at y0 yk ye; have h1 := h.1; have h2 := h.2.1; have h3 := h.2.2.1; have h4 := h.2.2.2; have h9 : w5.heap.size ≤ q ∧ q < w6.heap.size := hq; omega)
     have Rb_10 : Hid (Row w10 (w6.heap.size) 25 [.slice ab nb cb, .slice bb mb dbb, .int .i64 tb]) := Rb_9.out.keep (HSr.out.block _ (fun h => by have g1 := HKx.out; have g2 := HOO.out; have g3 := HDb.out; unfold Hid at g1 g2 g3; have y3 := SZ_3.out; have y4 := SZ_4.out; have y5 := SZ_5.out; have y6 := SZ_6.out; have y7 := SZ_7.out; unfold Hid at y3 y4 y5 y6 y7; have v5 := HL5.out; have v7 := HL7.out; have y0 := HZD.out; have yk := HKC.out; have ye := HZE.out; unfold Hid at y0 yk ye; have h1 := h.1; have h2 := h.2.1; have h3 := h.2.2.1; have h4 := h.2.2.2; omega))
     have Rq_10 : Hid (Row w10 (wA7.heap.size) 43 [.int .i64 Eq, .slice xq yq zq, .int .i64 Iq, .slice fq gq hq9, .int .i64 Zq]) := Rq_9.out.keep (HSr.out.block _ (fun h => by have g1 := HKx.out; have g2 := HOO.out; have g3 := HDb.out; unfold Hid at g1 g2 g3; have y3 := SZ_3.out; have y4 := SZ_4.out; have y5 := SZ_5.out; have y6 := SZ_6.out; have y7 := SZ_7.out; unfold Hid at y3 y4 y5 y6 y7; have v5 := HL5.out; have v7 := HL7.out; have y0 := HZD.out; have yk := HKC.out; have ye := HZE.out; unfold Hid at y0 yk ye; have h1 := h.1; have h2 := h.2.1; have h3 := h.2.2.1; have h4 := h.2.2.2; omega))
     have B_10 : Hid (Below W.heap.size W w10) := Below.trans B_9.out ⟨HSr.out.os, HSr.out.tape, HSr.out.output, by rw [HSr.out.size]; exact Nat.le_refl _, fun q hb => HSr.out.block q (fun h => by have g1 := HKx.out; have g2 := HOO.out; have g3 := HDb.out; unfold Hid at g1 g2 g3; have y3 := SZ_3.out; have y4 := SZ_4.out; have y5 := SZ_5.out; have y6 := SZ_6.out; have y7 := SZ_7.out; unfold Hid at y3 y4 y5 y6 y7; have v5 := HL5.out; have v7 := HL7.out; have y0 := HZD.out; have yk := HKC.out; have ye := HZE.out; unfold Hid at y0 yk ye; have h1 := h.1; have h2 := h.2.1; have h3 := h.2.2.1; have h4 := h.2.2.2; omega)⟩
     have SZ_10 : Hid (w3.heap.size ≤ w10.heap.size) := by have h := SZ_9.out; rw [← HSr.out.size] at h; exact h
     clear Ro_9 Da_9 Gr_9 Nr_9 Ra_9 Rr_9 Db_9 Yq_9 Nq_9 Rb_9 Rq_9
     clear HSr
     have qo0 := Ro_10.out.cell (j := 0) rfl
     have qo1 := Ro_10.out.cell (j := 1) rfl
     have qo2 := Ro_10.out.cell (j := 2) rfl
     have qa0 := Ra_10.out.cell (j := 0) rfl
     have qa1 := Ra_10.out.cell (j := 1) rfl
     have qa2 := Ra_10.out.cell (j := 2) rfl
     have qb0 := Rb_10.out.cell (j := 0) rfl
     have qb1 := Rb_10.out.cell (j := 1) rfl
     have qb2 := Rb_10.out.cell (j := 2) rfl
     go_wp2_with fail
     go_at_call 13
     refine Calls.mono (qBZ w10 _ _ [.slice aa na ca, .slice ba ma da, .int .i64 ta] [.slice ab nb cb, .slice bb mb dbb, .int .i64 tb] (Mo.doS s (k, at', N, id, nm, dt)) Da_10.out Db_10.out) ?_
     rintro e w11 ⟨rfl, b11⟩
     have Ro_11 : Hid _ := Ro_10.out.below (b11)
     have Da_11 : Hid (rSta.rd w11 (fun b => w3.heap.size ≤ b ∧ b ≠ db ∧ b < w4.heap.size) [.slice aa na ca, .slice ba ma da, .int .i64 ta] (Mo.doS s (k, at', N, id, nm, dt))) := Rep.below Da_10.out (b11)
     have Gr_11 : Hid (rFree.rd w11 (fun b => b = db) [.slice xr yr zr] ((Mo.doR s (k, at', N, id, nm, dt)).2.1)) := Rep.below Gr_10.out (b11)
     have Nr_11 : Hid (rNmds.rd w11 (fun b => w3.heap.size ≤ b) [.slice fr gr hr] ((Mo.doR s (k, at', N, id, nm, dt)).2.2.2.1)) := Rep.below Nr_10.out (b11)
     have Ra_11 : Hid _ := Ra_10.out.below (b11)
     have Rr_11 : Hid _ := Rr_10.out.below (b11)
     have Db_11 : Hid (rSta.rd w11 (fun b => w5.heap.size ≤ b ∧ b < w6.heap.size) [.slice ab nb cb, .slice bb mb dbb, .int .i64 tb] (Mo.doS s (k, at', N, id, nm, dt))) := Rep.below Db_10.out (b11)
     have Yq_11 : Hid (rBytes.rd w11 (fun b => w5.heap.size ≤ b ∧ b < w6.heap.size) [.slice xq yq zq] ((Mo.doR s (k, at', N, id, nm, dt)).2.1)) := Rep.below Yq_10.out (b11)
     have Nq_11 : Hid (rNmds.rd w11 (fun b => w5.heap.size ≤ b ∧ b < w6.heap.size) [.slice fq gq hq9] ((Mo.doR s (k, at', N, id, nm, dt)).2.2.2.1)) := Rep.below Nq_10.out (b11)
     have Rb_11 : Hid _ := Rb_10.out.below (b11)
     have Rq_11 : Hid _ := Rq_10.out.below (b11)
     have B_11 : Hid _ := on B_10.out (b11)
     have SZ_11 : Hid (w3.heap.size ≤ w11.heap.size) := Nat.le_trans SZ_10.out (b11).size
     clear qo0 qo1 qo2 qa0 qa1 qa2 qb0 qb1 qb2
     clear Ro_10 Da_10 Gr_10 Nr_10 Ra_10 Rr_10 Db_10 Yq_10 Nq_10 Rb_10 Rq_10
     clear b11
     have qr0 := Rr_11.out.cell (j := 0) rfl
     have qr1 := Rr_11.out.cell (j := 1) rfl
     have qr2 := Rr_11.out.cell (j := 2) rfl
     have qr3 := Rr_11.out.cell (j := 3) rfl
     have qr4 := Rr_11.out.cell (j := 4) rfl
     have qq0 := Rq_11.out.cell (j := 0) rfl
     have qq1 := Rq_11.out.cell (j := 1) rfl
     have qq2 := Rq_11.out.cell (j := 2) rfl
     have qq3 := Rq_11.out.cell (j := 3) rfl
     have qq4 := Rq_11.out.cell (j := 4) rfl
     have hun := qHq w11 _ _ (Mo.doR s (k, at', N, id, nm, dt)) xr xq fr fq yr zr yq zq gr hr gq hq9 (rBytes.weaken Gr_11.out.1 (P' := fun _ => True) (fun _ _ _ => trivial)) (rBytes.weaken Yq_11.out (fun _ _ _ => trivial)) (rNmds.weaken Nr_11.out (P' := fun _ => True) (fun _ _ _ => trivial)) (rNmds.weaken Nq_11.out (fun _ _ _ => trivial))
     rw [← HEr.out, ← HIr.out, ← HZr.out] at hun
     skip
     go_wp2_with fail
     go_at_call 14
     rw [HEE.out, HII.out, HZZ.out]
     refine Calls.mono hun ?_
     rintro e w12 ⟨rfl, b12⟩
     clear hun
     have Ro_12 : Hid _ := Ro_11.out.below (b12)
     have Da_12 : Hid (rSta.rd w12 (fun b => w3.heap.size ≤ b ∧ b ≠ db ∧ b < w4.heap.size) [.slice aa na ca, .slice ba ma da, .int .i64 ta] (Mo.doS s (k, at', N, id, nm, dt))) := Rep.below Da_11.out (b12)
     have Gr_12 : Hid (rFree.rd w12 (fun b => b = db) [.slice xr yr zr] ((Mo.doR s (k, at', N, id, nm, dt)).2.1)) := Rep.below Gr_11.out (b12)
     have Nr_12 : Hid (rNmds.rd w12 (fun b => w3.heap.size ≤ b) [.slice fr gr hr] ((Mo.doR s (k, at', N, id, nm, dt)).2.2.2.1)) := Rep.below Nr_11.out (b12)
     have Ra_12 : Hid _ := Ra_11.out.below (b12)
     have Rr_12 : Hid _ := Rr_11.out.below (b12)
     have Db_12 : Hid (rSta.rd w12 (fun b => w5.heap.size ≤ b ∧ b < w6.heap.size) [.slice ab nb cb, .slice bb mb dbb, .int .i64 tb] (Mo.doS s (k, at', N, id, nm, dt))) := Rep.below Db_11.out (b12)
     have Yq_12 : Hid (rBytes.rd w12 (fun b => w5.heap.size ≤ b ∧ b < w6.heap.size) [.slice xq yq zq] ((Mo.doR s (k, at', N, id, nm, dt)).2.1)) := Rep.below Yq_11.out (b12)
     have Nq_12 : Hid (rNmds.rd w12 (fun b => w5.heap.size ≤ b ∧ b < w6.heap.size) [.slice fq gq hq9] ((Mo.doR s (k, at', N, id, nm, dt)).2.2.2.1)) := Rep.below Nq_11.out (b12)
     have Rb_12 : Hid _ := Rb_11.out.below (b12)
     have Rq_12 : Hid _ := Rq_11.out.below (b12)
     have B_12 : Hid _ := on B_11.out (b12)
     have SZ_12 : Hid (w3.heap.size ≤ w12.heap.size) := Nat.le_trans SZ_11.out (b12).size
     clear qr0 qr1 qr2 qr3 qr4 qq0 qq1 qq2 qq3 qq4
     clear Ro_11 Da_11 Gr_11 Nr_11 Ra_11 Rr_11 Db_11 Yq_11 Nq_11 Rb_11 Rq_11
     clear b12
     have qr0 := Rr_12.out.cell (j := 0) rfl
     have qr1 := Rr_12.out.cell (j := 1) rfl
     have qr2 := Rr_12.out.cell (j := 2) rfl
     have qr3 := Rr_12.out.cell (j := 3) rfl
     have qr4 := Rr_12.out.cell (j := 4) rfl
     have HYr : Hid (yr ≤ 140737488355328) := by have h3 : yr * 1 ≤ 140737488351232 := (q0Q Gr_12.out.1).2.2.2; unfold Hid; omega
     go_wp2_with fail
     go_at_call 25
     refine Calls.mono (spoil_s w12 (fun q => q = db) xr yr zr HYr.out (qIx Gr_12.out)) ?_
     rintro e w13 ⟨rfl, sp⟩
     have Da_13 : Hid (rSta.rd w13 (fun b => w3.heap.size ≤ b ∧ b ≠ db ∧ b < w4.heap.size) [.slice aa na ca, .slice ba ma da, .int .i64 ta] (Mo.doS s (k, at', N, id, nm, dt))) := Rep.kept Da_12.out sp.kept (fun q hq hl h => by have g1 := HKx.out; have g2 := HOO.out; have g3 := HDb.out; unfold Hid at g1 g2 g3; have y3 := SZ_3.out; have y4 := SZ_4.out; have y5 := SZ_5.out; have y6 := SZ_6.out; have y7 := SZ_7.out; have y8 := SZ_8.out; have y9 := SZ_9.out; have y10 := SZ_10.out; have y11 := SZ_11.out; have y12 := SZ_12.out; unfold Hid at y3 y4 y5 y6 y7 y8 y9 y10 y11 y12; have v5 := HL5.out; have v7 := HL7.out; have y0 := HZD.out; have yk := HKC.out; have ye := HZE.out; unfold Hid at y0 yk ye; have h1 : _ = db := h; have h9 : w3.heap.size ≤ q ∧ q ≠ db ∧ q < w4.heap.size := hq; omega)
     have Ra_13 : Hid (Row w13 (w4.heap.size) 31 [.slice aa na ca, .slice ba ma da, .int .i64 ta]) := Ra_12.out.keep (sp.block _ (fun h => by have g1 := HKx.out; have g2 := HOO.out; have g3 := HDb.out; unfold Hid at g1 g2 g3; have y3 := SZ_3.out; have y4 := SZ_4.out; have y5 := SZ_5.out; have y6 := SZ_6.out; have y7 := SZ_7.out; have y8 := SZ_8.out; have y9 := SZ_9.out; have y10 := SZ_10.out; have y11 := SZ_11.out; have y12 := SZ_12.out; unfold Hid at y3 y4 y5 y6 y7 y8 y9 y10 y11 y12; have v5 := HL5.out; have v7 := HL7.out; have y0 := HZD.out; have yk := HKC.out; have ye := HZE.out; unfold Hid at y0 yk ye; have h1 : _ = db := h; omega))
     have Db_13 : Hid (rSta.rd w13 (fun b => w5.heap.size ≤ b ∧ b < w6.heap.size) [.slice ab nb cb, .slice bb mb dbb, .int .i64 tb] (Mo.doS s (k, at', N, id, nm, dt))) := Rep.kept Db_12.out sp.kept (fun q hq hl h => by have g1 := HKx.out; have g2 := HOO.out; have g3 := HDb.out; unfold Hid at g1 g2 g3; have y3 := SZ_3.out; have y4 := SZ_4.out; have y5 := SZ_5.out; have y6 := SZ_6.out; have y7 := SZ_7.out; have y8 := SZ_8.out; have y9 := SZ_9.out; have y10 := SZ_10.out; have y11 := SZ_11.out; have y12 := SZ_12.out; unfold Hid at y3 y4 y5 y6 y7 y8 y9 y10 y11 y12; have v5 := HL5.out; have v7 := HL7.out; have y0 := HZD.out; have yk := HKC.out; have ye := HZE.out; unfold Hid at y0 yk ye; have h1 : _ = db := h; have h9 : w5.heap.size ≤ q ∧ q < w6.heap.size := hq; omega)
     have Rb_13 : Hid (Row w13 (w6.heap.size) 25 [.slice ab nb cb, .slice bb mb dbb, .int .i64 tb]) := Rb_12.out.keep (sp.block _ (fun h => by have g1 := HKx.out; have g2 := HOO.out; have g3 := HDb.out; unfold Hid at g1 g2 g3; have y3 := SZ_3.out; have y4 := SZ_4.out; have y5 := SZ_5.out; have y6 := SZ_6.out; have y7 := SZ_7.out; have y8 := SZ_8.out; have y9 := SZ_9.out; have y10 := SZ_10.out; have y11 := SZ_11.out; have y12 := SZ_12.out; unfold Hid at y3 y4 y5 y6 y7 y8 y9 y10 y11 y12; have v5 := HL5.out; have v7 := HL7.out; have y0 := HZD.out; have yk := HKC.out; have ye := HZE.out; unfold Hid at y0 yk ye; have h1 : _ = db := h; omega))
     have B_13 : Hid (Below W.heap.size W w13) := Below.trans B_12.out ⟨sp.os, sp.tape, sp.output, by rw [sp.size]; exact Nat.le_refl _, fun q hb => sp.block q (fun h => by have g1 := HKx.out; have g2 := HOO.out; have g3 := HDb.out; unfold Hid at g1 g2 g3; have y3 := SZ_3.out; have y4 := SZ_4.out; have y5 := SZ_5.out; have y6 := SZ_6.out; have y7 := SZ_7.out; have y8 := SZ_8.out; have y9 := SZ_9.out; have y10 := SZ_10.out; have y11 := SZ_11.out; have y12 := SZ_12.out; unfold Hid at y3 y4 y5 y6 y7 y8 y9 y10 y11 y12; have v5 := HL5.out; have v7 := HL7.out; have y0 := HZD.out; have yk := HKC.out; have ye := HZE.out; unfold Hid at y0 yk ye; have h1 : _ = db := h; omega)⟩
     have SZ_13 : Hid (w3.heap.size ≤ w13.heap.size) := by have h := SZ_12.out; rw [← sp.size] at h; exact h
     clear qr0 qr1 qr2 qr3 qr4
     clear Ro_12 Da_12 Gr_12 Nr_12 Ra_12 Rr_12 Db_12 Yq_12 Nq_12 Rb_12 Rq_12
     clear sp
     have qa0 := Ra_13.out.cell (j := 0) rfl
     have qa1 := Ra_13.out.cell (j := 1) rfl
     have qa2 := Ra_13.out.cell (j := 2) rfl
     have qb0 := Rb_13.out.cell (j := 0) rfl
     have qb1 := Rb_13.out.cell (j := 1) rfl
     have qb2 := Rb_13.out.cell (j := 2) rfl
     go_wp2_with fail
     go_at_call 13
     refine Calls.mono (qBZ w13 _ _ [.slice aa na ca, .slice ba ma da, .int .i64 ta] [.slice ab nb cb, .slice bb mb dbb, .int .i64 tb] (Mo.doS s (k, at', N, id, nm, dt)) Da_13.out Db_13.out) ?_
     rintro e w14 ⟨rfl, b14⟩
     have Da_14 : Hid (rSta.rd w14 (fun b => w3.heap.size ≤ b ∧ b ≠ db ∧ b < w4.heap.size) [.slice aa na ca, .slice ba ma da, .int .i64 ta] (Mo.doS s (k, at', N, id, nm, dt))) := Rep.below Da_13.out (b14)
     have Ra_14 : Hid _ := Ra_13.out.below (b14)
     have Db_14 : Hid (rSta.rd w14 (fun b => w5.heap.size ≤ b ∧ b < w6.heap.size) [.slice ab nb cb, .slice bb mb dbb, .int .i64 tb] (Mo.doS s (k, at', N, id, nm, dt))) := Rep.below Db_13.out (b14)
     have Rb_14 : Hid _ := Rb_13.out.below (b14)
     have B_14 : Hid _ := on B_13.out (b14)
     have SZ_14 : Hid (w3.heap.size ≤ w14.heap.size) := Nat.le_trans SZ_13.out (b14).size
     clear qa0 qa1 qa2 qb0 qb1 qb2
     clear Da_13 Ra_13 Db_13 Rb_13
     clear b14
     go_wp2
     go_ret
     exact ⟨rfl, B_14.out⟩
set_option maxRecDepth 100000 in
theorem lown_lifted (os : Os) (started : os.Started) (H : Type) (enc : TypeId × Value → H) :
 ReturnsInHanded {} Try.checked os 8 .any (Rows.modelOwnSpec.pre6 enc Try.prog Try.f8 Rows.modelOwnRow.domain false) (Rows.modelOwnSpec.post enc Try.prog Try.f8 false true false false) := by
 refine returnsInHanded_of_change_sized (C := Try.checked) own started (by kernel_rfl) Try.func8
  (ChangeSpec.witness6 (enc := enc) (C := Try.checked) false ⟨#[], #[.agg #[.slice none 0 0, .slice none 0 0, .int .i64 0], .agg #[.int .i64 0, .int .i64 0, .int .i64 0, .int .i64 0, .string ByteArray.empty, .slice none 0 0]], []⟩ 8 (by kernel_rfl) (by kernel_rfl) (by kernel_rfl) (by kernel_rfl)) ?_
 intro W base args ds gs before hval0 hW _ hsz0 _
 have hsz : (DataW.weightsEach Try.prog (Try.f8.params.toList ++ Rows.modelOwnSpec.plain.varTypes Try.prog) (ds ++ gs)).all (· ≤ reachBytes) = true := hsz0
 clear hsz0
 have hval : ∀ (j : Nat) t v, Try.f8.params[j]? = some t → args[j]? = some v → Value.okWide Try.prog W .any base t v := hval0
 have hW' := hW
 obtain ⟨p, q, hA0, hV, rfl, hfz, hnd⟩ := hW
 have hA : DataW.TrodAll enc Try.prog W 0 (fun _ => true) true Try.f8.params.toList args.toList ds p := hA0
 rw [Try.params8] at hA hval hsz
 obtain ⟨v0, vs0, d0, ds0, p0, q0, hargs, rfl, rfl, h0, r0⟩ := trodAll_cons hA
 obtain ⟨v1, vs1, d1, ds1, p1, q1, rfl, rfl, rfl, h1, r1⟩ := trodAll_cons r0
 obtain ⟨rfl, rfl, rfl⟩ := trodAll_nil r1
 obtain rfl : args = #[v0, v1] := by cases args; simp_all
 obtain ⟨rfl, rfl⟩ := trodVars_none hV
 obtain ⟨c0, rfl, -⟩ := okWide_struct Try.underlying25 (hval 0 25 v0 rfl rfl)
 have k0 := h0
 have lt0 : ∀ x ∈ p0, x.block < W.heap.size := by obtain ⟨m, hm⟩ := k0; exact DataW.trod_lt m _ _ _ hm
 obtain ⟨x0, hx0⟩ := opens_state10.arg h0 hsz (j := 0) rfl rfl
 obtain ⟨c1, rfl, -⟩ := okWide_struct Try.underlying28 (hval 1 28 v1 rfl rfl)
 have k1 := h1
 have lt1 : ∀ x ∈ p1, x.block < W.heap.size := by obtain ⟨m, hm⟩ := k1; exact DataW.trod_lt m _ _ _ hm
 obtain ⟨x1, hx1⟩ := opens_op10.arg h1 hsz (j := 1) rfl rfl
 clear hA0 hval0
 refine (lown_walk c0.toList x0 c1.toList x1 W hx0 hx1).mono fun e W' ⟨he, bel⟩ => ?_
 subst he
 exact ⟨_, rfl, _, _, _, [], _, [], hW', trodAll_mk1 (shut_bool Try.underlying4 _), (trodAll_cons_mk (Below.trod qIZ (by kernel_rfl) (of_decide_eq_true (by kernel_rfl)) k0 bel lt0) (trodAll_cons_mk (Below.trod qIZ (by kernel_rfl) (of_decide_eq_true (by kernel_rfl)) k1 bel lt1) trodAll_mk0)), rfl, bel.frame _, fun h => by cases h⟩
theorem modelOwn_holds : Rows.ModelOwnSaid :=
 OpenClaim.holds_of_wide 8 Try.f8 rfl rfl rfl rfl rfl rfl rfl ⟨rfl, rfl, rfl, rfl, rfl⟩ rfl rfl rfl rfl rfl (by kernel_rfl) Try.func8 (by kernel_rfl)
  (of_decide_eq_true (by kernel_rfl)) (by unfold Func.isWrapper; first | (rw [if_pos (by decide +kernel)]; kernel_rfl) | (rw [if_neg (by decide +kernel)]; exact ⟨rfl, rfl⟩))
  (fun os started H enc _ => lown_lifted os started H enc)
end Go.Proofs.Ytoophkmnppoppaa
