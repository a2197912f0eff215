/-
  What any op makes of any state, and tells, is the document's; what is handed in stays. Conditions: none.
-/
import Derived.Test.YtoophkmnppoppaaM17
import Derived.Test.YtoophkmnppoppaaM19
import Derived.Test.YtoophkmnppoppaaM20
import Derived.Test.YtoophkmnppoppaaM31
namespace Go.Proofs.Ytoophkmnppoppaa
set_option maxHeartbeats 16000000
open Go.ChangeShapes Go.WideShapes Go.ChangeAt Go.RowKit
open Go.ChangeMaps (open_string shut_string)
set_option linter.unusedVariables false
set_option maxRecDepth 20000 in
theorem ldoes_walk (cs0 : List Value) (s : Sta) (xs : List Value) (x : Opn) (W : World) (h0 : rSta.rd W (fun b => b < W.heap.size) cs0 s) (hx : rOpn.rd W (fun b => b < W.heap.size) xs x) :
 Calls Try.prog 3 #[.agg cs0.toArray, .agg xs.toArray] W fun e W' => e = .returned (.bool true) ∧ Below W.heap.size W W' := by
 obtain ⟨a0, n0, c0, b0, m0, d0, rfl, hD, hU, hI⟩ := q0X h0
 obtain ⟨t0, ht0⟩ : ∃ t, t = s.2.2 := ⟨_, rfl⟩
 rw [← ht0] at h0 ⊢
 rw [← ht0] at hI
 obtain ⟨k, at', N, id, nm, dt⟩ := x
 obtain ⟨xa, xn, xc, rfl, hd, i0, i1, i2, i3, i4⟩ := q1X hx
 dsimp only at hx hd i0 i1 i2 i3 i4 ⊢
 have HIx : Hid (I64 k ∧ I64 at' ∧ I64 N ∧ I64 id ∧ nm.size ≤ maxLen) := ⟨i0, i1, i2, i3, i4⟩
 have HTs : Hid _ := ht0
 have HNs : Hid (s.1.length = n0) := (q0Q hD).1
 have HMs : Hid (s.2.1.length = m0) := (q0Q hU).1
 rw [show ([.slice a0 n0 c0, .slice b0 m0 d0, .int .i64 t0] : List Value).toArray = #[.slice a0 n0 c0, .slice b0 m0 d0, .int .i64 t0] from rfl, show ([.int .i64 k, .int .i64 at', .int .i64 N, .int .i64 id, .string nm, .slice xa xn xc] : List Value).toArray = #[.int .i64 k, .int .i64 at', .int .i64 N, .int .i64 id, .string nm, .slice xa xn xc] from rfl]
 obtain ⟨w0, hw0, V0, b00, z0⟩ := q0q W 25 [.slice a0 n0 c0, .slice b0 m0 d0, .int .i64 t0]
 obtain ⟨w1, hw1, V1, b1, z1⟩ := q0q w0 28 [.int .i64 k, .int .i64 at', .int .i64 N, .int .i64 id, .string nm, .slice xa xn xc]
 have bel : Below W.heap.size W w1 := on b00 b1
 have HSx : Hid (w0.heap.size = W.heap.size + 1 ∧ w1.heap.size = W.heap.size + 2) := by unfold Hid; omega
 have Rs_1 : Hid (Row w1 (W.heap.size) 25 [.slice a0 n0 c0, .slice b0 m0 d0, .int .i64 t0]) := V0.below b1
 have Rx_1 : Hid _ := V1
 have Ds_1 : Hid (rSta.rd w1 (fun b => b < W.heap.size) [.slice a0 n0 c0, .slice b0 m0 d0, .int .i64 t0] (s)) := Rep.below h0 bel
 have Yx_1 : Hid (rBytes.rd w1 (fun b => b < W.heap.size) [.slice xa xn xc] (dt)) := Rep.below hd bel
 have B_1 : Hid _ := bel
 clear V0 V1 b00 b1 z0 z1 bel hd i0 i1 i2 i3 i4 hD hU hI h0 hx ht0
 go_enter Try.func3, Try.ntmps3
 have HSee : Hid (∀ w', Below w1.heap.size w1 w' → w'.cell? ⟨W.heap.size, 0, none⟩ = some (.slice a0 n0 c0) ∧ w'.cell? ⟨W.heap.size, 1, none⟩ = some (.slice b0 m0 d0) ∧ w'.cell? ⟨W.heap.size, 2, none⟩ = some (.int .i64 t0) ∧ w'.cell? ⟨w0.heap.size, 0, none⟩ = some (.int .i64 k) ∧ w'.cell? ⟨w0.heap.size, 1, none⟩ = some (.int .i64 at') ∧ w'.cell? ⟨w0.heap.size, 2, none⟩ = some (.int .i64 N) ∧ w'.cell? ⟨w0.heap.size, 3, none⟩ = some (.int .i64 id) ∧ w'.cell? ⟨w0.heap.size, 4, none⟩ = some (.string nm) ∧ w'.cell? ⟨w0.heap.size, 5, none⟩ = some (.slice xa xn xc)) := fun w' hb => ⟨(Rs_1.out.below hb).cell (j := 0) rfl, (Rs_1.out.below hb).cell (j := 1) rfl, (Rs_1.out.below hb).cell (j := 2) rfl, (Rx_1.out.below hb).cell (j := 0) rfl, (Rx_1.out.below hb).cell (j := 1) rfl, (Rx_1.out.below hb).cell (j := 2) rfl, (Rx_1.out.below hb).cell (j := 3) rfl, (Rx_1.out.below hb).cell (j := 4) rfl, (Rx_1.out.below hb).cell (j := 5) rfl⟩
 have S0 := HSee.out _ (Below.refl _ w1).drew
 go_wp2_with fail
 go_cut [5, 6] (fun t u wx => ∃ (o4 o5 : Nat) (oa : Option Addr) (oc : Nat) (ob : Option Addr) (od : Nat) (xb : Option Addr) (xd : Nat), t = .pointer (some ⟨o4, 0, none⟩) ∧ u = .pointer (some ⟨o5, 0, none⟩) ∧ Hid (o4 ≠ o5 ∧ w1.heap.size ≤ o4 ∧ w1.heap.size ≤ o5) ∧ Hid (Row wx o4 31 [.slice oa n0 oc, .slice ob m0 od, .int .i64 t0]) ∧ Hid (Row wx o5 33 [.int .i64 k, .int .i64 at', .int .i64 N, .int .i64 id, .string nm, .slice xb xn xd]) ∧ Hid (rStaF.rd wx (fun q => w1.heap.size ≤ q ∧ q ≠ o4 ∧ q ≠ o5) [.slice oa n0 oc, .slice ob m0 od, .int .i64 t0] s) ∧ Hid (rFree.rd wx (fun q => w1.heap.size ≤ q ∧ q ≠ o4 ∧ q ≠ o5) [.slice xb xn xd] dt) ∧ Hid (Below w1.heap.size w1 wx))
 case first =>
  refine wp_region_held_drew (S := (fun w' : World => w'.cell? ⟨W.heap.size, 0, none⟩ = some (.slice a0 n0 c0) ∧ w'.cell? ⟨W.heap.size, 1, none⟩ = some (.slice b0 m0 d0) ∧ w'.cell? ⟨W.heap.size, 2, none⟩ = some (.int .i64 t0) ∧ w'.cell? ⟨w0.heap.size, 0, none⟩ = some (.int .i64 k) ∧ w'.cell? ⟨w0.heap.size, 1, none⟩ = some (.int .i64 at') ∧ w'.cell? ⟨w0.heap.size, 2, none⟩ = some (.int .i64 N) ∧ w'.cell? ⟨w0.heap.size, 3, none⟩ = some (.int .i64 id) ∧ w'.cell? ⟨w0.heap.size, 4, none⟩ = some (.string nm) ∧ w'.cell? ⟨w0.heap.size, 5, none⟩ = some (.slice xa xn xc))) (by kernel_rfl) (S0) (fun hH => ?_)
  refine tkM 0 _ rfl rfl ?_; simp only [sz, ss]
  refine tkM 2 _ rfl rfl ?_; simp only [sz, ss]
  refine rdL [1, 4, 5] ?_
  refine rcL (fun K hK => ?_) ?_
  · go_simp
    go_at_call 9
    refine Calls.mono (ofV (w1.drew) _ a0 b0 n0 c0 m0 d0 t0 s (rSta.keep Ds_1.out (fun _ _ _ => rfl))) ?_
    rintro e wv1 ⟨oa, oc, ob, od, rfl, hq1, bq1⟩
    obtain ⟨s1, hs⟩ : ∃ z, z = w1.heap.size := ⟨_, rfl⟩
    obtain ⟨e1, he⟩ : ∃ z, z = wv1.heap.size := ⟨_, rfl⟩
    have HO1 : Hid (rStaF.rd wv1 (fun q => s1 ≤ q ∧ q < e1) [.slice oa n0 oc, .slice ob m0 od, .int .i64 t0] s) := rStaF.weaken hq1 (fun q hq hl => ⟨by have h : w1.heap.size ≤ q := hq; omega, by omega⟩)
    have HZ1 : Hid (s1 = w1.heap.size ∧ e1 = wv1.heap.size ∧ w1.heap.size ≤ wv1.heap.size ∧ w1.heap.size ≤ w1.heap.size) := ⟨hs, he, bq1.size, Nat.le_refl _⟩
    have BT1 : Hid (Below w1.heap.size w1 wv1) := (Below.refl _ w1).drew.trans bq1
    skip
    have S1 := HSee.out _ BT1.out
    clear hq1 bq1 hs he
    go_simp
    refine hK.out _ _ ?_ (fun hH => ?_)
    · try dsimp only
      exact S1
    clear hK K
    refine rdL [3, 4, 5] ?_
    refine rcL (fun K hK => ?_) ?_
    · go_simp
      go_at_call 10
      refine Calls.mono (q3Q (wv1) _ k at' N id nm dt xa xn xc (Rep.below Yx_1.out BT1.out)) ?_
      rintro e wv3 ⟨xb, xd, rfl, hq3, bq3⟩
      obtain ⟨s3, hs⟩ : ∃ z, z = wv1.heap.size := ⟨_, rfl⟩
      obtain ⟨e3, he⟩ : ∃ z, z = wv3.heap.size := ⟨_, rfl⟩
      have HX3 : Hid (rFree.rd wv3 (fun q => s3 ≤ q ∧ q < e3) [.slice xb xn xd] dt) := rFree.weaken hq3 (fun q hq hl => ⟨by have h : wv1.heap.size ≤ q := hq; omega, by omega⟩)
      have HZ3 : Hid (s3 = wv1.heap.size ∧ e3 = wv3.heap.size ∧ wv1.heap.size ≤ wv3.heap.size ∧ w1.heap.size ≤ wv1.heap.size) := ⟨hs, he, bq3.size, BT1.out.size⟩
      have BT3 : Hid _ := on BT1.out bq3
      replace HO1 : Hid (rStaF.rd wv3 (fun q => s1 ≤ q ∧ q < e1) [.slice oa n0 oc, .slice ob m0 od, .int .i64 t0] s) := Rep.below HO1.out bq3
      have S3 := HSee.out _ BT3.out
      clear hq3 bq3 hs he
      go_simp
      refine hK.out _ _ ?_ (fun hH => ?_)
      · try dsimp only
        exact S3
      clear hK K
      refine rdL [4, 5] ?_
      refine rcL (fun K hK => ?_) ?_
      · go_simp
        obtain ⟨wv4, hw, vA, bA, zA⟩ := q0q wv3 31 [.slice none 0 0, .slice none 0 0, .int .i64 0]
        obtain ⟨o4, ho⟩ : ∃ o, o = wv3.heap.size := ⟨_, rfl⟩
        have HZ4 : Hid (o4 = wv3.heap.size ∧ wv4.heap.size = wv3.heap.size + 1 ∧ w1.heap.size ≤ wv3.heap.size) := ⟨ho, zA, BT3.out.size⟩
        have ho' : wv3.heap.size = o4 := ho.symm
        have bB : Below (wv3).heap.size (wv3) (wv4) := bA
        have BT4 : Hid _ := on BT3.out bB
        replace HO1 : Hid (rStaF.rd wv4 (fun q => s1 ≤ q ∧ q < e1) [.slice oa n0 oc, .slice ob m0 od, .int .i64 t0] s) := Rep.below HO1.out bB
        replace HX3 : Hid (rFree.rd wv4 (fun q => s3 ≤ q ∧ q < e3) [.slice xb xn xd] dt) := Rep.below HX3.out bB
        have R4 : Hid (Row (wv4) o4 31 [.slice none 0 0, .slice none 0 0, .int .i64 0]) := by rw [ho]; exact vA
        have S4 := HSee.out _ BT4.out
        clear vA zA bA ho
        first | rw [hw, ho'] | (rw [hw]; try rw [ho'])
        clear bB
        go_simp
        refine hK.out _ _ ?_ (fun hH => ?_)
        · try dsimp only
          exact S4
        clear hK K
        refine r1L 5 rfl fun K hK => ?_
        · go_simp
          obtain ⟨wv5, hw, vA, bA, zA⟩ := q0q wv4 33 [.int .i64 0, .int .i64 0, .int .i64 0, .int .i64 0, .string ⟨#[]⟩, .slice none 0 0]
          obtain ⟨o5, ho⟩ : ∃ o, o = wv4.heap.size := ⟨_, rfl⟩
          have HZ5 : Hid (o5 = wv4.heap.size ∧ wv5.heap.size = wv4.heap.size + 1 ∧ w1.heap.size ≤ wv4.heap.size) := ⟨ho, zA, BT4.out.size⟩
          have ho' : wv4.heap.size = o5 := ho.symm
          have bB : Below (wv4).heap.size (wv4) (wv5) := bA
          have BT5 : Hid _ := on BT4.out bB
          replace HO1 : Hid (rStaF.rd wv5 (fun q => s1 ≤ q ∧ q < e1) [.slice oa n0 oc, .slice ob m0 od, .int .i64 t0] s) := Rep.below HO1.out bB
          replace HX3 : Hid (rFree.rd wv5 (fun q => s3 ≤ q ∧ q < e3) [.slice xb xn xd] dt) := Rep.below HX3.out bB
          replace R4 : Hid (Row wv5 o4 31 [.slice none 0 0, .slice none 0 0, .int .i64 0]) := R4.out.below bB
          have R5 : Hid (Row (wv5) o5 33 [.int .i64 0, .int .i64 0, .int .i64 0, .int .i64 0, .string ⟨#[]⟩, .slice none 0 0]) := by rw [ho]; exact vA
          have S5 := HSee.out _ BT5.out
          clear vA zA bA ho
          first | rw [hw, ho'] | (rw [hw]; try rw [ho'])
          clear bB
          go_simp
          refine hK.out _ _ ?_ (fun hH => ?_)
          · try dsimp only
            exact S5
          clear hK K
          refine r1L 6 rfl fun K hK => ?_
          · have p60 := R4.out.cell (j := 0) rfl
            have f60 := R4.out.frozen 0
            have p61 := R4.out.cell (j := 1) rfl
            have f61 := R4.out.frozen 1
            have p62 := R4.out.cell (j := 2) rfl
            have f62 := R4.out.frozen 2
            obtain ⟨wv6, hw6, VX, KX⟩ := R4.out.whole3 (.slice oa n0 oc) (.slice ob m0 od) (.int .i64 t0)
            have BT6 : Hid (Below w1.heap.size w1 wv6) := Kept.belowOf BT5.out KX (by have g1 := HZ1.out; have g3 := HZ3.out; have g4 := HZ4.out; have g5 := HZ5.out; unfold Hid at g1 g3 g4 g5; omega)
            replace HO1 : Hid (rStaF.rd wv6 (fun q => s1 ≤ q ∧ q < e1) [.slice oa n0 oc, .slice ob m0 od, .int .i64 t0] s) := Rep.kept HO1.out KX (fun q hq hl => by have h1 := hq.1; have h2 := hq.2; have g1 := HZ1.out; have g3 := HZ3.out; have g4 := HZ4.out; have g5 := HZ5.out; unfold Hid at g1 g3 g4 g5; show q ≠ o4; omega)
            replace HX3 : Hid (rFree.rd wv6 (fun q => s3 ≤ q ∧ q < e3) [.slice xb xn xd] dt) := Rep.kept HX3.out KX (fun q hq hl => by have h1 := hq.1; have h2 := hq.2; have g1 := HZ1.out; have g3 := HZ3.out; have g4 := HZ4.out; have g5 := HZ5.out; unfold Hid at g1 g3 g4 g5; show q ≠ o4; omega)
            replace R5 : Hid (Row wv6 o5 33 [.int .i64 0, .int .i64 0, .int .i64 0, .int .i64 0, .string ⟨#[]⟩, .slice none 0 0]) := R5.out.keep (KX.block _ (by have g1 := HZ1.out; have g3 := HZ3.out; have g4 := HZ4.out; have g5 := HZ5.out; unfold Hid at g1 g3 g4 g5; show o5 ≠ o4; omega))
            replace R4 : Hid (Row wv6 o4 31 [.slice oa n0 oc, .slice ob m0 od, .int .i64 t0]) := VX
            have S6 := HSee.out _ BT6.out
            clear VX KX
            go_simp
            refine hK.out _ _ ?_ (fun hH => ?_)
            · try dsimp only
              exact S6
            clear hK K
            refine r1L 7 rfl fun K hK => ?_
            · have p70 := R5.out.cell (j := 0) rfl
              have f70 := R5.out.frozen 0
              have p71 := R5.out.cell (j := 1) rfl
              have f71 := R5.out.frozen 1
              have p72 := R5.out.cell (j := 2) rfl
              have f72 := R5.out.frozen 2
              have p73 := R5.out.cell (j := 3) rfl
              have f73 := R5.out.frozen 3
              have p74 := R5.out.cell (j := 4) rfl
              have f74 := R5.out.frozen 4
              have p75 := R5.out.cell (j := 5) rfl
              have f75 := R5.out.frozen 5
              obtain ⟨wv7, hw7, VX, KX⟩ := R5.out.whole6 (.int .i64 k) (.int .i64 at') (.int .i64 N) (.int .i64 id) (.string nm) (.slice xb xn xd)
              have BT7 : Hid (Below w1.heap.size w1 wv7) := Kept.belowOf BT6.out KX (by have g1 := HZ1.out; have g3 := HZ3.out; have g4 := HZ4.out; have g5 := HZ5.out; unfold Hid at g1 g3 g4 g5; omega)
              replace HO1 : Hid (rStaF.rd wv7 (fun q => s1 ≤ q ∧ q < e1) [.slice oa n0 oc, .slice ob m0 od, .int .i64 t0] s) := Rep.kept HO1.out KX (fun q hq hl => by have h1 := hq.1; have h2 := hq.2; have g1 := HZ1.out; have g3 := HZ3.out; have g4 := HZ4.out; have g5 := HZ5.out; unfold Hid at g1 g3 g4 g5; show q ≠ o5; omega)
              replace HX3 : Hid (rFree.rd wv7 (fun q => s3 ≤ q ∧ q < e3) [.slice xb xn xd] dt) := Rep.kept HX3.out KX (fun q hq hl => by have h1 := hq.1; have h2 := hq.2; have g1 := HZ1.out; have g3 := HZ3.out; have g4 := HZ4.out; have g5 := HZ5.out; unfold Hid at g1 g3 g4 g5; show q ≠ o5; omega)
              replace R4 : Hid (Row wv7 o4 31 [.slice oa n0 oc, .slice ob m0 od, .int .i64 t0]) := R4.out.keep (KX.block _ (by have g1 := HZ1.out; have g3 := HZ3.out; have g4 := HZ4.out; have g5 := HZ5.out; unfold Hid at g1 g3 g4 g5; show o4 ≠ o5; omega))
              replace R5 : Hid (Row wv7 o5 33 [.int .i64 k, .int .i64 at', .int .i64 N, .int .i64 id, .string nm, .slice xb xn xd]) := VX
              have S7 := HSee.out _ BT7.out
              clear VX KX
              go_simp
              refine hK.out _ _ ?_ (fun hH => ?_)
              · try dsimp only
                exact S7
              clear hK K
              refine wpAnyH_done (by kernel_rfl) ?_ _
              clear hH S0 S1 S3 S4 S5 S6 S7
              go_wp2_with fail
              go_meet
              exact ⟨o4, o5, oa, oc, ob, od, xb, xd, rfl, rfl, by have g1 := HZ1.out; have g3 := HZ3.out; have g4 := HZ4.out; have g5 := HZ5.out; unfold Hid at g1 g3 g4 g5; exact ⟨by omega, by omega, by omega⟩, R4, R5, rStaF.weaken HO1.out (fun q hq hl => by have h1 := hq.1; have h2 := hq.2; have g1 := HZ1.out; have g3 := HZ3.out; have g4 := HZ4.out; have g5 := HZ5.out; unfold Hid at g1 g3 g4 g5; exact ⟨by omega, by omega, by omega⟩), rFree.weaken HX3.out (fun q hq hl => by have h1 := hq.1; have h2 := hq.2; have g1 := HZ1.out; have g3 := HZ3.out; have g4 := HZ4.out; have g5 := HZ5.out; unfold Hid at g1 g3 g4 g5; exact ⟨by omega, by omega, by omega⟩), BT7⟩
      refine rcL (fun K hK => ?_) ?_
      · go_simp
        obtain ⟨wv5, hw, vA, bA, zA⟩ := q0q wv3 33 [.int .i64 0, .int .i64 0, .int .i64 0, .int .i64 0, .string ⟨#[]⟩, .slice none 0 0]
        obtain ⟨o5, ho⟩ : ∃ o, o = wv3.heap.size := ⟨_, rfl⟩
        have HZ5 : Hid (o5 = wv3.heap.size ∧ wv5.heap.size = wv3.heap.size + 1 ∧ w1.heap.size ≤ wv3.heap.size) := ⟨ho, zA, BT3.out.size⟩
        have ho' : wv3.heap.size = o5 := ho.symm
        have bB : Below (wv3).heap.size (wv3) (wv5) := bA
        have BT5 : Hid _ := on BT3.out bB
        replace HO1 : Hid (rStaF.rd wv5 (fun q => s1 ≤ q ∧ q < e1) [.slice oa n0 oc, .slice ob m0 od, .int .i64 t0] s) := Rep.below HO1.out bB
        replace HX3 : Hid (rFree.rd wv5 (fun q => s3 ≤ q ∧ q < e3) [.slice xb xn xd] dt) := Rep.below HX3.out bB
        have R5 : Hid (Row (wv5) o5 33 [.int .i64 0, .int .i64 0, .int .i64 0, .int .i64 0, .string ⟨#[]⟩, .slice none 0 0]) := by rw [ho]; exact vA
        have S5 := HSee.out _ BT5.out
        clear vA zA bA ho
        first | rw [hw, ho'] | (rw [hw]; try rw [ho'])
        clear bB
        go_simp
        refine hK.out _ _ ?_ (fun hH => ?_)
        · try dsimp only
          exact S5
        clear hK K
        refine r1L 4 rfl fun K hK => ?_
        · go_simp
          obtain ⟨wv4, hw, vA, bA, zA⟩ := q0q wv5 31 [.slice none 0 0, .slice none 0 0, .int .i64 0]
          obtain ⟨o4, ho⟩ : ∃ o, o = wv5.heap.size := ⟨_, rfl⟩
          have HZ4 : Hid (o4 = wv5.heap.size ∧ wv4.heap.size = wv5.heap.size + 1 ∧ w1.heap.size ≤ wv5.heap.size) := ⟨ho, zA, BT5.out.size⟩
          have ho' : wv5.heap.size = o4 := ho.symm
          have bB : Below (wv5).heap.size (wv5) (wv4) := bA
          have BT4 : Hid _ := on BT5.out bB
          replace HO1 : Hid (rStaF.rd wv4 (fun q => s1 ≤ q ∧ q < e1) [.slice oa n0 oc, .slice ob m0 od, .int .i64 t0] s) := Rep.below HO1.out bB
          replace HX3 : Hid (rFree.rd wv4 (fun q => s3 ≤ q ∧ q < e3) [.slice xb xn xd] dt) := Rep.below HX3.out bB
          replace R5 : Hid (Row wv4 o5 33 [.int .i64 0, .int .i64 0, .int .i64 0, .int .i64 0, .string ⟨#[]⟩, .slice none 0 0]) := R5.out.below bB
          have R4 : Hid (Row (wv4) o4 31 [.slice none 0 0, .slice none 0 0, .int .i64 0]) := by rw [ho]; exact vA
          have S4 := HSee.out _ BT4.out
          clear vA zA bA ho
          first | rw [hw, ho'] | (rw [hw]; try rw [ho'])
          clear bB
          go_simp
          refine hK.out _ _ ?_ (fun hH => ?_)
          · try dsimp only
            exact S4
          clear hK K
          refine r1L 6 rfl fun K hK => ?_
          · have p60 := R4.out.cell (j := 0) rfl
            have f60 := R4.out.frozen 0
            have p61 := R4.out.cell (j := 1) rfl
            have f61 := R4.out.frozen 1
            have p62 := R4.out.cell (j := 2) rfl
            have f62 := R4.out.frozen 2
            obtain ⟨wv6, hw6, VX, KX⟩ := R4.out.whole3 (.slice oa n0 oc) (.slice ob m0 od) (.int .i64 t0)
            have BT6 : Hid (Below w1.heap.size w1 wv6) := Kept.belowOf BT4.out KX (by have g1 := HZ1.out; have g3 := HZ3.out; have g5 := HZ5.out; have g4 := HZ4.out; unfold Hid at g1 g3 g5 g4; omega)
            replace HO1 : Hid (rStaF.rd wv6 (fun q => s1 ≤ q ∧ q < e1) [.slice oa n0 oc, .slice ob m0 od, .int .i64 t0] s) := Rep.kept HO1.out KX (fun q hq hl => by have h1 := hq.1; have h2 := hq.2; have g1 := HZ1.out; have g3 := HZ3.out; have g5 := HZ5.out; have g4 := HZ4.out; unfold Hid at g1 g3 g5 g4; show q ≠ o4; omega)
            replace HX3 : Hid (rFree.rd wv6 (fun q => s3 ≤ q ∧ q < e3) [.slice xb xn xd] dt) := Rep.kept HX3.out KX (fun q hq hl => by have h1 := hq.1; have h2 := hq.2; have g1 := HZ1.out; have g3 := HZ3.out; have g5 := HZ5.out; have g4 := HZ4.out; unfold Hid at g1 g3 g5 g4; show q ≠ o4; omega)
            replace R5 : Hid (Row wv6 o5 33 [.int .i64 0, .int .i64 0, .int .i64 0, .int .i64 0, .string ⟨#[]⟩, .slice none 0 0]) := R5.out.keep (KX.block _ (by have g1 := HZ1.out; have g3 := HZ3.out; have g5 := HZ5.out; have g4 := HZ4.out; unfold Hid at g1 g3 g5 g4; show o5 ≠ o4; omega))
            replace R4 : Hid (Row wv6 o4 31 [.slice oa n0 oc, .slice ob m0 od, .int .i64 t0]) := VX
            have S6 := HSee.out _ BT6.out
            clear VX KX
            go_simp
            refine hK.out _ _ ?_ (fun hH => ?_)
            · try dsimp only
              exact S6
            clear hK K
            refine r1L 7 rfl fun K hK => ?_
            · have p70 := R5.out.cell (j := 0) rfl
              have f70 := R5.out.frozen 0
              have p71 := R5.out.cell (j := 1) rfl
              have f71 := R5.out.frozen 1
              have p72 := R5.out.cell (j := 2) rfl
              have f72 := R5.out.frozen 2
              have p73 := R5.out.cell (j := 3) rfl
              have f73 := R5.out.frozen 3
              have p74 := R5.out.cell (j := 4) rfl
              have f74 := R5.out.frozen 4
              have p75 := R5.out.cell (j := 5) rfl
              have f75 := R5.out.frozen 5
              obtain ⟨wv7, hw7, VX, KX⟩ := R5.out.whole6 (.int .i64 k) (.int .i64 at') (.int .i64 N) (.int .i64 id) (.string nm) (.slice xb xn xd)
              have BT7 : Hid (Below w1.heap.size w1 wv7) := Kept.belowOf BT6.out KX (by have g1 := HZ1.out; have g3 := HZ3.out; have g5 := HZ5.out; have g4 := HZ4.out; unfold Hid at g1 g3 g5 g4; omega)
              replace HO1 : Hid (rStaF.rd wv7 (fun q => s1 ≤ q ∧ q < e1) [.slice oa n0 oc, .slice ob m0 od, .int .i64 t0] s) := Rep.kept HO1.out KX (fun q hq hl => by have h1 := hq.1; have h2 := hq.2; have g1 := HZ1.out; have g3 := HZ3.out; have g5 := HZ5.out; have g4 := HZ4.out; unfold Hid at g1 g3 g5 g4; show q ≠ o5; omega)
              replace HX3 : Hid (rFree.rd wv7 (fun q => s3 ≤ q ∧ q < e3) [.slice xb xn xd] dt) := Rep.kept HX3.out KX (fun q hq hl => by have h1 := hq.1; have h2 := hq.2; have g1 := HZ1.out; have g3 := HZ3.out; have g5 := HZ5.out; have g4 := HZ4.out; unfold Hid at g1 g3 g5 g4; show q ≠ o5; omega)
              replace R4 : Hid (Row wv7 o4 31 [.slice oa n0 oc, .slice ob m0 od, .int .i64 t0]) := R4.out.keep (KX.block _ (by have g1 := HZ1.out; have g3 := HZ3.out; have g5 := HZ5.out; have g4 := HZ4.out; unfold Hid at g1 g3 g5 g4; show o4 ≠ o5; omega))
              replace R5 : Hid (Row wv7 o5 33 [.int .i64 k, .int .i64 at', .int .i64 N, .int .i64 id, .string nm, .slice xb xn xd]) := VX
              have S7 := HSee.out _ BT7.out
              clear VX KX
              go_simp
              refine hK.out _ _ ?_ (fun hH => ?_)
              · try dsimp only
                exact S7
              clear hK K
              refine wpAnyH_done (by kernel_rfl) ?_ _
              clear hH S0 S1 S3 S4 S5 S6 S7
              go_wp2_with fail
              go_meet
              exact ⟨o4, o5, oa, oc, ob, od, xb, xd, rfl, rfl, by have g1 := HZ1.out; have g3 := HZ3.out; have g5 := HZ5.out; have g4 := HZ4.out; unfold Hid at g1 g3 g5 g4; exact ⟨by omega, by omega, by omega⟩, R4, R5, rStaF.weaken HO1.out (fun q hq hl => by have h1 := hq.1; have h2 := hq.2; have g1 := HZ1.out; have g3 := HZ3.out; have g5 := HZ5.out; have g4 := HZ4.out; unfold Hid at g1 g3 g5 g4; exact ⟨by omega, by omega, by omega⟩), rFree.weaken HX3.out (fun q hq hl => by have h1 := hq.1; have h2 := hq.2; have g1 := HZ1.out; have g3 := HZ3.out; have g5 := HZ5.out; have g4 := HZ4.out; unfold Hid at g1 g3 g5 g4; exact ⟨by omega, by omega, by omega⟩), BT7⟩
      exact rnL
    refine rcL (fun K hK => ?_) ?_
    · go_simp
      obtain ⟨wv4, hw, vA, bA, zA⟩ := q0q wv1 31 [.slice none 0 0, .slice none 0 0, .int .i64 0]
      obtain ⟨o4, ho⟩ : ∃ o, o = wv1.heap.size := ⟨_, rfl⟩
      have HZ4 : Hid (o4 = wv1.heap.size ∧ wv4.heap.size = wv1.heap.size + 1 ∧ w1.heap.size ≤ wv1.heap.size) := ⟨ho, zA, BT1.out.size⟩
      have ho' : wv1.heap.size = o4 := ho.symm
      have bB : Below (wv1).heap.size (wv1) (wv4) := bA
      have BT4 : Hid _ := on BT1.out bB
      replace HO1 : Hid (rStaF.rd wv4 (fun q => s1 ≤ q ∧ q < e1) [.slice oa n0 oc, .slice ob m0 od, .int .i64 t0] s) := Rep.below HO1.out bB
      have R4 : Hid (Row (wv4) o4 31 [.slice none 0 0, .slice none 0 0, .int .i64 0]) := by rw [ho]; exact vA
      have S4 := HSee.out _ BT4.out
      clear vA zA bA ho
      first | rw [hw, ho'] | (rw [hw]; try rw [ho'])
      clear bB
      go_simp
      refine hK.out _ _ ?_ (fun hH => ?_)
      · try dsimp only
        exact S4
      clear hK K
      refine rdL [3, 5] ?_
      refine rcL (fun K hK => ?_) ?_
      · go_simp
        go_at_call 10
        refine Calls.mono (q3Q (wv4) _ k at' N id nm dt xa xn xc (Rep.below Yx_1.out BT4.out)) ?_
        rintro e wv3 ⟨xb, xd, rfl, hq3, bq3⟩
        obtain ⟨s3, hs⟩ : ∃ z, z = wv4.heap.size := ⟨_, rfl⟩
        obtain ⟨e3, he⟩ : ∃ z, z = wv3.heap.size := ⟨_, rfl⟩
        have HX3 : Hid (rFree.rd wv3 (fun q => s3 ≤ q ∧ q < e3) [.slice xb xn xd] dt) := rFree.weaken hq3 (fun q hq hl => ⟨by have h : wv4.heap.size ≤ q := hq; omega, by omega⟩)
        have HZ3 : Hid (s3 = wv4.heap.size ∧ e3 = wv3.heap.size ∧ wv4.heap.size ≤ wv3.heap.size ∧ w1.heap.size ≤ wv4.heap.size) := ⟨hs, he, bq3.size, BT4.out.size⟩
        have BT3 : Hid _ := on BT4.out bq3
        replace HO1 : Hid (rStaF.rd wv3 (fun q => s1 ≤ q ∧ q < e1) [.slice oa n0 oc, .slice ob m0 od, .int .i64 t0] s) := Rep.below HO1.out bq3
        replace R4 : Hid (Row wv3 o4 31 [.slice none 0 0, .slice none 0 0, .int .i64 0]) := R4.out.below bq3
        have S3 := HSee.out _ BT3.out
        clear hq3 bq3 hs he
        go_simp
        refine hK.out _ _ ?_ (fun hH => ?_)
        · try dsimp only
          exact S3
        clear hK K
        refine r1L 5 rfl fun K hK => ?_
        · go_simp
          obtain ⟨wv5, hw, vA, bA, zA⟩ := q0q wv3 33 [.int .i64 0, .int .i64 0, .int .i64 0, .int .i64 0, .string ⟨#[]⟩, .slice none 0 0]
          obtain ⟨o5, ho⟩ : ∃ o, o = wv3.heap.size := ⟨_, rfl⟩
          have HZ5 : Hid (o5 = wv3.heap.size ∧ wv5.heap.size = wv3.heap.size + 1 ∧ w1.heap.size ≤ wv3.heap.size) := ⟨ho, zA, BT3.out.size⟩
          have ho' : wv3.heap.size = o5 := ho.symm
          have bB : Below (wv3).heap.size (wv3) (wv5) := bA
          have BT5 : Hid _ := on BT3.out bB
          replace HO1 : Hid (rStaF.rd wv5 (fun q => s1 ≤ q ∧ q < e1) [.slice oa n0 oc, .slice ob m0 od, .int .i64 t0] s) := Rep.below HO1.out bB
          replace R4 : Hid (Row wv5 o4 31 [.slice none 0 0, .slice none 0 0, .int .i64 0]) := R4.out.below bB
          replace HX3 : Hid (rFree.rd wv5 (fun q => s3 ≤ q ∧ q < e3) [.slice xb xn xd] dt) := Rep.below HX3.out bB
          have R5 : Hid (Row (wv5) o5 33 [.int .i64 0, .int .i64 0, .int .i64 0, .int .i64 0, .string ⟨#[]⟩, .slice none 0 0]) := by rw [ho]; exact vA
          have S5 := HSee.out _ BT5.out
          clear vA zA bA ho
          first | rw [hw, ho'] | (rw [hw]; try rw [ho'])
          clear bB
          go_simp
          refine hK.out _ _ ?_ (fun hH => ?_)
          · try dsimp only
            exact S5
          clear hK K
          refine r1L 6 rfl fun K hK => ?_
          · have p60 := R4.out.cell (j := 0) rfl
            have f60 := R4.out.frozen 0
            have p61 := R4.out.cell (j := 1) rfl
            have f61 := R4.out.frozen 1
            have p62 := R4.out.cell (j := 2) rfl
            have f62 := R4.out.frozen 2
            obtain ⟨wv6, hw6, VX, KX⟩ := R4.out.whole3 (.slice oa n0 oc) (.slice ob m0 od) (.int .i64 t0)
            have BT6 : Hid (Below w1.heap.size w1 wv6) := Kept.belowOf BT5.out KX (by have g1 := HZ1.out; have g4 := HZ4.out; have g3 := HZ3.out; have g5 := HZ5.out; unfold Hid at g1 g4 g3 g5; omega)
            replace HO1 : Hid (rStaF.rd wv6 (fun q => s1 ≤ q ∧ q < e1) [.slice oa n0 oc, .slice ob m0 od, .int .i64 t0] s) := Rep.kept HO1.out KX (fun q hq hl => by have h1 := hq.1; have h2 := hq.2; have g1 := HZ1.out; have g4 := HZ4.out; have g3 := HZ3.out; have g5 := HZ5.out; unfold Hid at g1 g4 g3 g5; show q ≠ o4; omega)
            replace HX3 : Hid (rFree.rd wv6 (fun q => s3 ≤ q ∧ q < e3) [.slice xb xn xd] dt) := Rep.kept HX3.out KX (fun q hq hl => by have h1 := hq.1; have h2 := hq.2; have g1 := HZ1.out; have g4 := HZ4.out; have g3 := HZ3.out; have g5 := HZ5.out; unfold Hid at g1 g4 g3 g5; show q ≠ o4; omega)
            replace R5 : Hid (Row wv6 o5 33 [.int .i64 0, .int .i64 0, .int .i64 0, .int .i64 0, .string ⟨#[]⟩, .slice none 0 0]) := R5.out.keep (KX.block _ (by have g1 := HZ1.out; have g4 := HZ4.out; have g3 := HZ3.out; have g5 := HZ5.out; unfold Hid at g1 g4 g3 g5; show o5 ≠ o4; omega))
            replace R4 : Hid (Row wv6 o4 31 [.slice oa n0 oc, .slice ob m0 od, .int .i64 t0]) := VX
            have S6 := HSee.out _ BT6.out
            clear VX KX
            go_simp
            refine hK.out _ _ ?_ (fun hH => ?_)
            · try dsimp only
              exact S6
            clear hK K
            refine r1L 7 rfl fun K hK => ?_
            · have p70 := R5.out.cell (j := 0) rfl
              have f70 := R5.out.frozen 0
              have p71 := R5.out.cell (j := 1) rfl
              have f71 := R5.out.frozen 1
              have p72 := R5.out.cell (j := 2) rfl
              have f72 := R5.out.frozen 2
              have p73 := R5.out.cell (j := 3) rfl
              have f73 := R5.out.frozen 3
              have p74 := R5.out.cell (j := 4) rfl
              have f74 := R5.out.frozen 4
              have p75 := R5.out.cell (j := 5) rfl
              have f75 := R5.out.frozen 5
              obtain ⟨wv7, hw7, VX, KX⟩ := R5.out.whole6 (.int .i64 k) (.int .i64 at') (.int .i64 N) (.int .i64 id) (.string nm) (.slice xb xn xd)
              have BT7 : Hid (Below w1.heap.size w1 wv7) := Kept.belowOf BT6.out KX (by have g1 := HZ1.out; have g4 := HZ4.out; have g3 := HZ3.out; have g5 := HZ5.out; unfold Hid at g1 g4 g3 g5; omega)
              replace HO1 : Hid (rStaF.rd wv7 (fun q => s1 ≤ q ∧ q < e1) [.slice oa n0 oc, .slice ob m0 od, .int .i64 t0] s) := Rep.kept HO1.out KX (fun q hq hl => by have h1 := hq.1; have h2 := hq.2; have g1 := HZ1.out; have g4 := HZ4.out; have g3 := HZ3.out; have g5 := HZ5.out; unfold Hid at g1 g4 g3 g5; show q ≠ o5; omega)
              replace R4 : Hid (Row wv7 o4 31 [.slice oa n0 oc, .slice ob m0 od, .int .i64 t0]) := R4.out.keep (KX.block _ (by have g1 := HZ1.out; have g4 := HZ4.out; have g3 := HZ3.out; have g5 := HZ5.out; unfold Hid at g1 g4 g3 g5; show o4 ≠ o5; omega))
              replace HX3 : Hid (rFree.rd wv7 (fun q => s3 ≤ q ∧ q < e3) [.slice xb xn xd] dt) := Rep.kept HX3.out KX (fun q hq hl => by have h1 := hq.1; have h2 := hq.2; have g1 := HZ1.out; have g4 := HZ4.out; have g3 := HZ3.out; have g5 := HZ5.out; unfold Hid at g1 g4 g3 g5; show q ≠ o5; omega)
              replace R5 : Hid (Row wv7 o5 33 [.int .i64 k, .int .i64 at', .int .i64 N, .int .i64 id, .string nm, .slice xb xn xd]) := VX
              have S7 := HSee.out _ BT7.out
              clear VX KX
              go_simp
              refine hK.out _ _ ?_ (fun hH => ?_)
              · try dsimp only
                exact S7
              clear hK K
              refine wpAnyH_done (by kernel_rfl) ?_ _
              clear hH S0 S1 S3 S4 S5 S6 S7
              go_wp2_with fail
              go_meet
              exact ⟨o4, o5, oa, oc, ob, od, xb, xd, rfl, rfl, by have g1 := HZ1.out; have g4 := HZ4.out; have g3 := HZ3.out; have g5 := HZ5.out; unfold Hid at g1 g4 g3 g5; exact ⟨by omega, by omega, by omega⟩, R4, R5, rStaF.weaken HO1.out (fun q hq hl => by have h1 := hq.1; have h2 := hq.2; have g1 := HZ1.out; have g4 := HZ4.out; have g3 := HZ3.out; have g5 := HZ5.out; unfold Hid at g1 g4 g3 g5; exact ⟨by omega, by omega, by omega⟩), rFree.weaken HX3.out (fun q hq hl => by have h1 := hq.1; have h2 := hq.2; have g1 := HZ1.out; have g4 := HZ4.out; have g3 := HZ3.out; have g5 := HZ5.out; unfold Hid at g1 g4 g3 g5; exact ⟨by omega, by omega, by omega⟩), BT7⟩
      refine rcL (fun K hK => ?_) ?_
      · go_simp
        obtain ⟨wv5, hw, vA, bA, zA⟩ := q0q wv4 33 [.int .i64 0, .int .i64 0, .int .i64 0, .int .i64 0, .string ⟨#[]⟩, .slice none 0 0]
        obtain ⟨o5, ho⟩ : ∃ o, o = wv4.heap.size := ⟨_, rfl⟩
        have HZ5 : Hid (o5 = wv4.heap.size ∧ wv5.heap.size = wv4.heap.size + 1 ∧ w1.heap.size ≤ wv4.heap.size) := ⟨ho, zA, BT4.out.size⟩
        have ho' : wv4.heap.size = o5 := ho.symm
        have bB : Below (wv4).heap.size (wv4) (wv5) := bA
        have BT5 : Hid _ := on BT4.out bB
        replace HO1 : Hid (rStaF.rd wv5 (fun q => s1 ≤ q ∧ q < e1) [.slice oa n0 oc, .slice ob m0 od, .int .i64 t0] s) := Rep.below HO1.out bB
        replace R4 : Hid (Row wv5 o4 31 [.slice none 0 0, .slice none 0 0, .int .i64 0]) := R4.out.below bB
        have R5 : Hid (Row (wv5) o5 33 [.int .i64 0, .int .i64 0, .int .i64 0, .int .i64 0, .string ⟨#[]⟩, .slice none 0 0]) := by rw [ho]; exact vA
        have S5 := HSee.out _ BT5.out
        clear vA zA bA ho
        first | rw [hw, ho'] | (rw [hw]; try rw [ho'])
        clear bB
        go_simp
        refine hK.out _ _ ?_ (fun hH => ?_)
        · try dsimp only
          exact S5
        clear hK K
        refine r1L 3 rfl fun K hK => ?_
        · go_simp
          go_at_call 10
          refine Calls.mono (q3Q (wv5) _ k at' N id nm dt xa xn xc (Rep.below Yx_1.out BT5.out)) ?_
          rintro e wv3 ⟨xb, xd, rfl, hq3, bq3⟩
          obtain ⟨s3, hs⟩ : ∃ z, z = wv5.heap.size := ⟨_, rfl⟩
          obtain ⟨e3, he⟩ : ∃ z, z = wv3.heap.size := ⟨_, rfl⟩
          have HX3 : Hid (rFree.rd wv3 (fun q => s3 ≤ q ∧ q < e3) [.slice xb xn xd] dt) := rFree.weaken hq3 (fun q hq hl => ⟨by have h : wv5.heap.size ≤ q := hq; omega, by omega⟩)
          have HZ3 : Hid (s3 = wv5.heap.size ∧ e3 = wv3.heap.size ∧ wv5.heap.size ≤ wv3.heap.size ∧ w1.heap.size ≤ wv5.heap.size) := ⟨hs, he, bq3.size, BT5.out.size⟩
          have BT3 : Hid _ := on BT5.out bq3
          replace HO1 : Hid (rStaF.rd wv3 (fun q => s1 ≤ q ∧ q < e1) [.slice oa n0 oc, .slice ob m0 od, .int .i64 t0] s) := Rep.below HO1.out bq3
          replace R4 : Hid (Row wv3 o4 31 [.slice none 0 0, .slice none 0 0, .int .i64 0]) := R4.out.below bq3
          replace R5 : Hid (Row wv3 o5 33 [.int .i64 0, .int .i64 0, .int .i64 0, .int .i64 0, .string ⟨#[]⟩, .slice none 0 0]) := R5.out.below bq3
          have S3 := HSee.out _ BT3.out
          clear hq3 bq3 hs he
          go_simp
          refine hK.out _ _ ?_ (fun hH => ?_)
          · try dsimp only
            exact S3
          clear hK K
          refine r1L 6 rfl fun K hK => ?_
          · have p60 := R4.out.cell (j := 0) rfl
            have f60 := R4.out.frozen 0
            have p61 := R4.out.cell (j := 1) rfl
            have f61 := R4.out.frozen 1
            have p62 := R4.out.cell (j := 2) rfl
            have f62 := R4.out.frozen 2
            obtain ⟨wv6, hw6, VX, KX⟩ := R4.out.whole3 (.slice oa n0 oc) (.slice ob m0 od) (.int .i64 t0)
            have BT6 : Hid (Below w1.heap.size w1 wv6) := Kept.belowOf BT3.out KX (by have g1 := HZ1.out; have g4 := HZ4.out; have g5 := HZ5.out; have g3 := HZ3.out; unfold Hid at g1 g4 g5 g3; omega)
            replace HO1 : Hid (rStaF.rd wv6 (fun q => s1 ≤ q ∧ q < e1) [.slice oa n0 oc, .slice ob m0 od, .int .i64 t0] s) := Rep.kept HO1.out KX (fun q hq hl => by have h1 := hq.1; have h2 := hq.2; have g1 := HZ1.out; have g4 := HZ4.out; have g5 := HZ5.out; have g3 := HZ3.out; unfold Hid at g1 g4 g5 g3; show q ≠ o4; omega)
            replace R5 : Hid (Row wv6 o5 33 [.int .i64 0, .int .i64 0, .int .i64 0, .int .i64 0, .string ⟨#[]⟩, .slice none 0 0]) := R5.out.keep (KX.block _ (by have g1 := HZ1.out; have g4 := HZ4.out; have g5 := HZ5.out; have g3 := HZ3.out; unfold Hid at g1 g4 g5 g3; show o5 ≠ o4; omega))
            replace HX3 : Hid (rFree.rd wv6 (fun q => s3 ≤ q ∧ q < e3) [.slice xb xn xd] dt) := Rep.kept HX3.out KX (fun q hq hl => by have h1 := hq.1; have h2 := hq.2; have g1 := HZ1.out; have g4 := HZ4.out; have g5 := HZ5.out; have g3 := HZ3.out; unfold Hid at g1 g4 g5 g3; show q ≠ o4; omega)
            replace R4 : Hid (Row wv6 o4 31 [.slice oa n0 oc, .slice ob m0 od, .int .i64 t0]) := VX
            have S6 := HSee.out _ BT6.out
            clear VX KX
            go_simp
            refine hK.out _ _ ?_ (fun hH => ?_)
            · try dsimp only
              exact S6
            clear hK K
            refine r1L 7 rfl fun K hK => ?_
            · have p70 := R5.out.cell (j := 0) rfl
              have f70 := R5.out.frozen 0
              have p71 := R5.out.cell (j := 1) rfl
              have f71 := R5.out.frozen 1
              have p72 := R5.out.cell (j := 2) rfl
              have f72 := R5.out.frozen 2
              have p73 := R5.out.cell (j := 3) rfl
              have f73 := R5.out.frozen 3
              have p74 := R5.out.cell (j := 4) rfl
              have f74 := R5.out.frozen 4
              have p75 := R5.out.cell (j := 5) rfl
              have f75 := R5.out.frozen 5
              obtain ⟨wv7, hw7, VX, KX⟩ := R5.out.whole6 (.int .i64 k) (.int .i64 at') (.int .i64 N) (.int .i64 id) (.string nm) (.slice xb xn xd)
              have BT7 : Hid (Below w1.heap.size w1 wv7) := Kept.belowOf BT6.out KX (by have g1 := HZ1.out; have g4 := HZ4.out; have g5 := HZ5.out; have g3 := HZ3.out; unfold Hid at g1 g4 g5 g3; omega)
              replace HO1 : Hid (rStaF.rd wv7 (fun q => s1 ≤ q ∧ q < e1) [.slice oa n0 oc, .slice ob m0 od, .int .i64 t0] s) := Rep.kept HO1.out KX (fun q hq hl => by have h1 := hq.1; have h2 := hq.2; have g1 := HZ1.out; have g4 := HZ4.out; have g5 := HZ5.out; have g3 := HZ3.out; unfold Hid at g1 g4 g5 g3; show q ≠ o5; omega)
              replace R4 : Hid (Row wv7 o4 31 [.slice oa n0 oc, .slice ob m0 od, .int .i64 t0]) := R4.out.keep (KX.block _ (by have g1 := HZ1.out; have g4 := HZ4.out; have g5 := HZ5.out; have g3 := HZ3.out; unfold Hid at g1 g4 g5 g3; show o4 ≠ o5; omega))
              replace HX3 : Hid (rFree.rd wv7 (fun q => s3 ≤ q ∧ q < e3) [.slice xb xn xd] dt) := Rep.kept HX3.out KX (fun q hq hl => by have h1 := hq.1; have h2 := hq.2; have g1 := HZ1.out; have g4 := HZ4.out; have g5 := HZ5.out; have g3 := HZ3.out; unfold Hid at g1 g4 g5 g3; show q ≠ o5; omega)
              replace R5 : Hid (Row wv7 o5 33 [.int .i64 k, .int .i64 at', .int .i64 N, .int .i64 id, .string nm, .slice xb xn xd]) := VX
              have S7 := HSee.out _ BT7.out
              clear VX KX
              go_simp
              refine hK.out _ _ ?_ (fun hH => ?_)
              · try dsimp only
                exact S7
              clear hK K
              refine wpAnyH_done (by kernel_rfl) ?_ _
              clear hH S0 S1 S3 S4 S5 S6 S7
              go_wp2_with fail
              go_meet
              exact ⟨o4, o5, oa, oc, ob, od, xb, xd, rfl, rfl, by have g1 := HZ1.out; have g4 := HZ4.out; have g5 := HZ5.out; have g3 := HZ3.out; unfold Hid at g1 g4 g5 g3; exact ⟨by omega, by omega, by omega⟩, R4, R5, rStaF.weaken HO1.out (fun q hq hl => by have h1 := hq.1; have h2 := hq.2; have g1 := HZ1.out; have g4 := HZ4.out; have g5 := HZ5.out; have g3 := HZ3.out; unfold Hid at g1 g4 g5 g3; exact ⟨by omega, by omega, by omega⟩), rFree.weaken HX3.out (fun q hq hl => by have h1 := hq.1; have h2 := hq.2; have g1 := HZ1.out; have g4 := HZ4.out; have g5 := HZ5.out; have g3 := HZ3.out; unfold Hid at g1 g4 g5 g3; exact ⟨by omega, by omega, by omega⟩), BT7⟩
      exact rnL
    refine rcL (fun K hK => ?_) ?_
    · go_simp
      obtain ⟨wv5, hw, vA, bA, zA⟩ := q0q wv1 33 [.int .i64 0, .int .i64 0, .int .i64 0, .int .i64 0, .string ⟨#[]⟩, .slice none 0 0]
      obtain ⟨o5, ho⟩ : ∃ o, o = wv1.heap.size := ⟨_, rfl⟩
      have HZ5 : Hid (o5 = wv1.heap.size ∧ wv5.heap.size = wv1.heap.size + 1 ∧ w1.heap.size ≤ wv1.heap.size) := ⟨ho, zA, BT1.out.size⟩
      have ho' : wv1.heap.size = o5 := ho.symm
      have bB : Below (wv1).heap.size (wv1) (wv5) := bA
      have BT5 : Hid _ := on BT1.out bB
      replace HO1 : Hid (rStaF.rd wv5 (fun q => s1 ≤ q ∧ q < e1) [.slice oa n0 oc, .slice ob m0 od, .int .i64 t0] s) := Rep.below HO1.out bB
      have R5 : Hid (Row (wv5) o5 33 [.int .i64 0, .int .i64 0, .int .i64 0, .int .i64 0, .string ⟨#[]⟩, .slice none 0 0]) := by rw [ho]; exact vA
      have S5 := HSee.out _ BT5.out
      clear vA zA bA ho
      first | rw [hw, ho'] | (rw [hw]; try rw [ho'])
      clear bB
      go_simp
      refine hK.out _ _ ?_ (fun hH => ?_)
      · try dsimp only
        exact S5
      clear hK K
      refine rdL [3, 4] ?_
      refine rcL (fun K hK => ?_) ?_
      · go_simp
        go_at_call 10
        refine Calls.mono (q3Q (wv5) _ k at' N id nm dt xa xn xc (Rep.below Yx_1.out BT5.out)) ?_
        rintro e wv3 ⟨xb, xd, rfl, hq3, bq3⟩
        obtain ⟨s3, hs⟩ : ∃ z, z = wv5.heap.size := ⟨_, rfl⟩
        obtain ⟨e3, he⟩ : ∃ z, z = wv3.heap.size := ⟨_, rfl⟩
        have HX3 : Hid (rFree.rd wv3 (fun q => s3 ≤ q ∧ q < e3) [.slice xb xn xd] dt) := rFree.weaken hq3 (fun q hq hl => ⟨by have h : wv5.heap.size ≤ q := hq; omega, by omega⟩)
        have HZ3 : Hid (s3 = wv5.heap.size ∧ e3 = wv3.heap.size ∧ wv5.heap.size ≤ wv3.heap.size ∧ w1.heap.size ≤ wv5.heap.size) := ⟨hs, he, bq3.size, BT5.out.size⟩
        have BT3 : Hid _ := on BT5.out bq3
        replace HO1 : Hid (rStaF.rd wv3 (fun q => s1 ≤ q ∧ q < e1) [.slice oa n0 oc, .slice ob m0 od, .int .i64 t0] s) := Rep.below HO1.out bq3
        replace R5 : Hid (Row wv3 o5 33 [.int .i64 0, .int .i64 0, .int .i64 0, .int .i64 0, .string ⟨#[]⟩, .slice none 0 0]) := R5.out.below bq3
        have S3 := HSee.out _ BT3.out
        clear hq3 bq3 hs he
        go_simp
        refine hK.out _ _ ?_ (fun hH => ?_)
        · try dsimp only
          exact S3
        clear hK K
        refine r1L 4 rfl fun K hK => ?_
        · go_simp
          obtain ⟨wv4, hw, vA, bA, zA⟩ := q0q wv3 31 [.slice none 0 0, .slice none 0 0, .int .i64 0]
          obtain ⟨o4, ho⟩ : ∃ o, o = wv3.heap.size := ⟨_, rfl⟩
          have HZ4 : Hid (o4 = wv3.heap.size ∧ wv4.heap.size = wv3.heap.size + 1 ∧ w1.heap.size ≤ wv3.heap.size) := ⟨ho, zA, BT3.out.size⟩
          have ho' : wv3.heap.size = o4 := ho.symm
          have bB : Below (wv3).heap.size (wv3) (wv4) := bA
          have BT4 : Hid _ := on BT3.out bB
          replace HO1 : Hid (rStaF.rd wv4 (fun q => s1 ≤ q ∧ q < e1) [.slice oa n0 oc, .slice ob m0 od, .int .i64 t0] s) := Rep.below HO1.out bB
          replace R5 : Hid (Row wv4 o5 33 [.int .i64 0, .int .i64 0, .int .i64 0, .int .i64 0, .string ⟨#[]⟩, .slice none 0 0]) := R5.out.below bB
          replace HX3 : Hid (rFree.rd wv4 (fun q => s3 ≤ q ∧ q < e3) [.slice xb xn xd] dt) := Rep.below HX3.out bB
          have R4 : Hid (Row (wv4) o4 31 [.slice none 0 0, .slice none 0 0, .int .i64 0]) := by rw [ho]; exact vA
          have S4 := HSee.out _ BT4.out
          clear vA zA bA ho
          first | rw [hw, ho'] | (rw [hw]; try rw [ho'])
          clear bB
          go_simp
          refine hK.out _ _ ?_ (fun hH => ?_)
          · try dsimp only
            exact S4
          clear hK K
          refine r1L 6 rfl fun K hK => ?_
          · have p60 := R4.out.cell (j := 0) rfl
            have f60 := R4.out.frozen 0
            have p61 := R4.out.cell (j := 1) rfl
            have f61 := R4.out.frozen 1
            have p62 := R4.out.cell (j := 2) rfl
            have f62 := R4.out.frozen 2
            obtain ⟨wv6, hw6, VX, KX⟩ := R4.out.whole3 (.slice oa n0 oc) (.slice ob m0 od) (.int .i64 t0)
            have BT6 : Hid (Below w1.heap.size w1 wv6) := Kept.belowOf BT4.out KX (by have g1 := HZ1.out; have g5 := HZ5.out; have g3 := HZ3.out; have g4 := HZ4.out; unfold Hid at g1 g5 g3 g4; omega)
            replace HO1 : Hid (rStaF.rd wv6 (fun q => s1 ≤ q ∧ q < e1) [.slice oa n0 oc, .slice ob m0 od, .int .i64 t0] s) := Rep.kept HO1.out KX (fun q hq hl => by have h1 := hq.1; have h2 := hq.2; have g1 := HZ1.out; have g5 := HZ5.out; have g3 := HZ3.out; have g4 := HZ4.out; unfold Hid at g1 g5 g3 g4; show q ≠ o4; omega)
            replace R5 : Hid (Row wv6 o5 33 [.int .i64 0, .int .i64 0, .int .i64 0, .int .i64 0, .string ⟨#[]⟩, .slice none 0 0]) := R5.out.keep (KX.block _ (by have g1 := HZ1.out; have g5 := HZ5.out; have g3 := HZ3.out; have g4 := HZ4.out; unfold Hid at g1 g5 g3 g4; show o5 ≠ o4; omega))
            replace HX3 : Hid (rFree.rd wv6 (fun q => s3 ≤ q ∧ q < e3) [.slice xb xn xd] dt) := Rep.kept HX3.out KX (fun q hq hl => by have h1 := hq.1; have h2 := hq.2; have g1 := HZ1.out; have g5 := HZ5.out; have g3 := HZ3.out; have g4 := HZ4.out; unfold Hid at g1 g5 g3 g4; show q ≠ o4; omega)
            replace R4 : Hid (Row wv6 o4 31 [.slice oa n0 oc, .slice ob m0 od, .int .i64 t0]) := VX
            have S6 := HSee.out _ BT6.out
            clear VX KX
            go_simp
            refine hK.out _ _ ?_ (fun hH => ?_)
            · try dsimp only
              exact S6
            clear hK K
            refine r1L 7 rfl fun K hK => ?_
            · have p70 := R5.out.cell (j := 0) rfl
              have f70 := R5.out.frozen 0
              have p71 := R5.out.cell (j := 1) rfl
              have f71 := R5.out.frozen 1
              have p72 := R5.out.cell (j := 2) rfl
              have f72 := R5.out.frozen 2
              have p73 := R5.out.cell (j := 3) rfl
              have f73 := R5.out.frozen 3
              have p74 := R5.out.cell (j := 4) rfl
              have f74 := R5.out.frozen 4
              have p75 := R5.out.cell (j := 5) rfl
              have f75 := R5.out.frozen 5
              obtain ⟨wv7, hw7, VX, KX⟩ := R5.out.whole6 (.int .i64 k) (.int .i64 at') (.int .i64 N) (.int .i64 id) (.string nm) (.slice xb xn xd)
              have BT7 : Hid (Below w1.heap.size w1 wv7) := Kept.belowOf BT6.out KX (by have g1 := HZ1.out; have g5 := HZ5.out; have g3 := HZ3.out; have g4 := HZ4.out; unfold Hid at g1 g5 g3 g4; omega)
              replace HO1 : Hid (rStaF.rd wv7 (fun q => s1 ≤ q ∧ q < e1) [.slice oa n0 oc, .slice ob m0 od, .int .i64 t0] s) := Rep.kept HO1.out KX (fun q hq hl => by have h1 := hq.1; have h2 := hq.2; have g1 := HZ1.out; have g5 := HZ5.out; have g3 := HZ3.out; have g4 := HZ4.out; unfold Hid at g1 g5 g3 g4; show q ≠ o5; omega)
              replace HX3 : Hid (rFree.rd wv7 (fun q => s3 ≤ q ∧ q < e3) [.slice xb xn xd] dt) := Rep.kept HX3.out KX (fun q hq hl => by have h1 := hq.1; have h2 := hq.2; have g1 := HZ1.out; have g5 := HZ5.out; have g3 := HZ3.out; have g4 := HZ4.out; unfold Hid at g1 g5 g3 g4; show q ≠ o5; omega)
              replace R4 : Hid (Row wv7 o4 31 [.slice oa n0 oc, .slice ob m0 od, .int .i64 t0]) := R4.out.keep (KX.block _ (by have g1 := HZ1.out; have g5 := HZ5.out; have g3 := HZ3.out; have g4 := HZ4.out; unfold Hid at g1 g5 g3 g4; show o4 ≠ o5; omega))
              replace R5 : Hid (Row wv7 o5 33 [.int .i64 k, .int .i64 at', .int .i64 N, .int .i64 id, .string nm, .slice xb xn xd]) := VX
              have S7 := HSee.out _ BT7.out
              clear VX KX
              go_simp
              refine hK.out _ _ ?_ (fun hH => ?_)
              · try dsimp only
                exact S7
              clear hK K
              refine wpAnyH_done (by kernel_rfl) ?_ _
              clear hH S0 S1 S3 S4 S5 S6 S7
              go_wp2_with fail
              go_meet
              exact ⟨o4, o5, oa, oc, ob, od, xb, xd, rfl, rfl, by have g1 := HZ1.out; have g5 := HZ5.out; have g3 := HZ3.out; have g4 := HZ4.out; unfold Hid at g1 g5 g3 g4; exact ⟨by omega, by omega, by omega⟩, R4, R5, rStaF.weaken HO1.out (fun q hq hl => by have h1 := hq.1; have h2 := hq.2; have g1 := HZ1.out; have g5 := HZ5.out; have g3 := HZ3.out; have g4 := HZ4.out; unfold Hid at g1 g5 g3 g4; exact ⟨by omega, by omega, by omega⟩), rFree.weaken HX3.out (fun q hq hl => by have h1 := hq.1; have h2 := hq.2; have g1 := HZ1.out; have g5 := HZ5.out; have g3 := HZ3.out; have g4 := HZ4.out; unfold Hid at g1 g5 g3 g4; exact ⟨by omega, by omega, by omega⟩), BT7⟩
      refine rcL (fun K hK => ?_) ?_
      · go_simp
        obtain ⟨wv4, hw, vA, bA, zA⟩ := q0q wv5 31 [.slice none 0 0, .slice none 0 0, .int .i64 0]
        obtain ⟨o4, ho⟩ : ∃ o, o = wv5.heap.size := ⟨_, rfl⟩
        have HZ4 : Hid (o4 = wv5.heap.size ∧ wv4.heap.size = wv5.heap.size + 1 ∧ w1.heap.size ≤ wv5.heap.size) := ⟨ho, zA, BT5.out.size⟩
        have ho' : wv5.heap.size = o4 := ho.symm
        have bB : Below (wv5).heap.size (wv5) (wv4) := bA
        have BT4 : Hid _ := on BT5.out bB
        replace HO1 : Hid (rStaF.rd wv4 (fun q => s1 ≤ q ∧ q < e1) [.slice oa n0 oc, .slice ob m0 od, .int .i64 t0] s) := Rep.below HO1.out bB
        replace R5 : Hid (Row wv4 o5 33 [.int .i64 0, .int .i64 0, .int .i64 0, .int .i64 0, .string ⟨#[]⟩, .slice none 0 0]) := R5.out.below bB
        have R4 : Hid (Row (wv4) o4 31 [.slice none 0 0, .slice none 0 0, .int .i64 0]) := by rw [ho]; exact vA
        have S4 := HSee.out _ BT4.out
        clear vA zA bA ho
        first | rw [hw, ho'] | (rw [hw]; try rw [ho'])
        clear bB
        go_simp
        refine hK.out _ _ ?_ (fun hH => ?_)
        · try dsimp only
          exact S4
        clear hK K
        refine r1L 3 rfl fun K hK => ?_
        · go_simp
          go_at_call 10
          refine Calls.mono (q3Q (wv4) _ k at' N id nm dt xa xn xc (Rep.below Yx_1.out BT4.out)) ?_
          rintro e wv3 ⟨xb, xd, rfl, hq3, bq3⟩
          obtain ⟨s3, hs⟩ : ∃ z, z = wv4.heap.size := ⟨_, rfl⟩
          obtain ⟨e3, he⟩ : ∃ z, z = wv3.heap.size := ⟨_, rfl⟩
          have HX3 : Hid (rFree.rd wv3 (fun q => s3 ≤ q ∧ q < e3) [.slice xb xn xd] dt) := rFree.weaken hq3 (fun q hq hl => ⟨by have h : wv4.heap.size ≤ q := hq; omega, by omega⟩)
          have HZ3 : Hid (s3 = wv4.heap.size ∧ e3 = wv3.heap.size ∧ wv4.heap.size ≤ wv3.heap.size ∧ w1.heap.size ≤ wv4.heap.size) := ⟨hs, he, bq3.size, BT4.out.size⟩
          have BT3 : Hid _ := on BT4.out bq3
          replace HO1 : Hid (rStaF.rd wv3 (fun q => s1 ≤ q ∧ q < e1) [.slice oa n0 oc, .slice ob m0 od, .int .i64 t0] s) := Rep.below HO1.out bq3
          replace R5 : Hid (Row wv3 o5 33 [.int .i64 0, .int .i64 0, .int .i64 0, .int .i64 0, .string ⟨#[]⟩, .slice none 0 0]) := R5.out.below bq3
          replace R4 : Hid (Row wv3 o4 31 [.slice none 0 0, .slice none 0 0, .int .i64 0]) := R4.out.below bq3
          have S3 := HSee.out _ BT3.out
          clear hq3 bq3 hs he
          go_simp
          refine hK.out _ _ ?_ (fun hH => ?_)
          · try dsimp only
            exact S3
          clear hK K
          refine r1L 6 rfl fun K hK => ?_
          · have p60 := R4.out.cell (j := 0) rfl
            have f60 := R4.out.frozen 0
            have p61 := R4.out.cell (j := 1) rfl
            have f61 := R4.out.frozen 1
            have p62 := R4.out.cell (j := 2) rfl
            have f62 := R4.out.frozen 2
            obtain ⟨wv6, hw6, VX, KX⟩ := R4.out.whole3 (.slice oa n0 oc) (.slice ob m0 od) (.int .i64 t0)
            have BT6 : Hid (Below w1.heap.size w1 wv6) := Kept.belowOf BT3.out KX (by have g1 := HZ1.out; have g5 := HZ5.out; have g4 := HZ4.out; have g3 := HZ3.out; unfold Hid at g1 g5 g4 g3; omega)
            replace HO1 : Hid (rStaF.rd wv6 (fun q => s1 ≤ q ∧ q < e1) [.slice oa n0 oc, .slice ob m0 od, .int .i64 t0] s) := Rep.kept HO1.out KX (fun q hq hl => by have h1 := hq.1; have h2 := hq.2; have g1 := HZ1.out; have g5 := HZ5.out; have g4 := HZ4.out; have g3 := HZ3.out; unfold Hid at g1 g5 g4 g3; show q ≠ o4; omega)
            replace R5 : Hid (Row wv6 o5 33 [.int .i64 0, .int .i64 0, .int .i64 0, .int .i64 0, .string ⟨#[]⟩, .slice none 0 0]) := R5.out.keep (KX.block _ (by have g1 := HZ1.out; have g5 := HZ5.out; have g4 := HZ4.out; have g3 := HZ3.out; unfold Hid at g1 g5 g4 g3; show o5 ≠ o4; omega))
            replace HX3 : Hid (rFree.rd wv6 (fun q => s3 ≤ q ∧ q < e3) [.slice xb xn xd] dt) := Rep.kept HX3.out KX (fun q hq hl => by have h1 := hq.1; have h2 := hq.2; have g1 := HZ1.out; have g5 := HZ5.out; have g4 := HZ4.out; have g3 := HZ3.out; unfold Hid at g1 g5 g4 g3; show q ≠ o4; omega)
            replace R4 : Hid (Row wv6 o4 31 [.slice oa n0 oc, .slice ob m0 od, .int .i64 t0]) := VX
            have S6 := HSee.out _ BT6.out
            clear VX KX
            go_simp
            refine hK.out _ _ ?_ (fun hH => ?_)
            · try dsimp only
              exact S6
            clear hK K
            refine r1L 7 rfl fun K hK => ?_
            · have p70 := R5.out.cell (j := 0) rfl
              have f70 := R5.out.frozen 0
              have p71 := R5.out.cell (j := 1) rfl
              have f71 := R5.out.frozen 1
              have p72 := R5.out.cell (j := 2) rfl
              have f72 := R5.out.frozen 2
              have p73 := R5.out.cell (j := 3) rfl
              have f73 := R5.out.frozen 3
              have p74 := R5.out.cell (j := 4) rfl
              have f74 := R5.out.frozen 4
              have p75 := R5.out.cell (j := 5) rfl
              have f75 := R5.out.frozen 5
              obtain ⟨wv7, hw7, VX, KX⟩ := R5.out.whole6 (.int .i64 k) (.int .i64 at') (.int .i64 N) (.int .i64 id) (.string nm) (.slice xb xn xd)
              have BT7 : Hid (Below w1.heap.size w1 wv7) := Kept.belowOf BT6.out KX (by have g1 := HZ1.out; have g5 := HZ5.out; have g4 := HZ4.out; have g3 := HZ3.out; unfold Hid at g1 g5 g4 g3; omega)
              replace HO1 : Hid (rStaF.rd wv7 (fun q => s1 ≤ q ∧ q < e1) [.slice oa n0 oc, .slice ob m0 od, .int .i64 t0] s) := Rep.kept HO1.out KX (fun q hq hl => by have h1 := hq.1; have h2 := hq.2; have g1 := HZ1.out; have g5 := HZ5.out; have g4 := HZ4.out; have g3 := HZ3.out; unfold Hid at g1 g5 g4 g3; show q ≠ o5; omega)
              replace R4 : Hid (Row wv7 o4 31 [.slice oa n0 oc, .slice ob m0 od, .int .i64 t0]) := R4.out.keep (KX.block _ (by have g1 := HZ1.out; have g5 := HZ5.out; have g4 := HZ4.out; have g3 := HZ3.out; unfold Hid at g1 g5 g4 g3; show o4 ≠ o5; omega))
              replace HX3 : Hid (rFree.rd wv7 (fun q => s3 ≤ q ∧ q < e3) [.slice xb xn xd] dt) := Rep.kept HX3.out KX (fun q hq hl => by have h1 := hq.1; have h2 := hq.2; have g1 := HZ1.out; have g5 := HZ5.out; have g4 := HZ4.out; have g3 := HZ3.out; unfold Hid at g1 g5 g4 g3; show q ≠ o5; omega)
              replace R5 : Hid (Row wv7 o5 33 [.int .i64 k, .int .i64 at', .int .i64 N, .int .i64 id, .string nm, .slice xb xn xd]) := VX
              have S7 := HSee.out _ BT7.out
              clear VX KX
              go_simp
              refine hK.out _ _ ?_ (fun hH => ?_)
              · try dsimp only
                exact S7
              clear hK K
              refine wpAnyH_done (by kernel_rfl) ?_ _
              clear hH S0 S1 S3 S4 S5 S6 S7
              go_wp2_with fail
              go_meet
              exact ⟨o4, o5, oa, oc, ob, od, xb, xd, rfl, rfl, by have g1 := HZ1.out; have g5 := HZ5.out; have g4 := HZ4.out; have g3 := HZ3.out; unfold Hid at g1 g5 g4 g3; exact ⟨by omega, by omega, by omega⟩, R4, R5, rStaF.weaken HO1.out (fun q hq hl => by have h1 := hq.1; have h2 := hq.2; have g1 := HZ1.out; have g5 := HZ5.out; have g4 := HZ4.out; have g3 := HZ3.out; unfold Hid at g1 g5 g4 g3; exact ⟨by omega, by omega, by omega⟩), rFree.weaken HX3.out (fun q hq hl => by have h1 := hq.1; have h2 := hq.2; have g1 := HZ1.out; have g5 := HZ5.out; have g4 := HZ4.out; have g3 := HZ3.out; unfold Hid at g1 g5 g4 g3; exact ⟨by omega, by omega, by omega⟩), BT7⟩
      exact rnL
    exact rnL
  refine rcL (fun K hK => ?_) ?_
  · go_simp
    obtain ⟨wn4, hw, vA, bA, zA⟩ := q0q w1 31 [.slice none 0 0, .slice none 0 0, .int .i64 0]
    obtain ⟨o4, ho⟩ : ∃ o, o = w1.heap.size := ⟨_, rfl⟩
    have HZ4 : Hid (o4 = w1.heap.size ∧ wn4.heap.size = w1.heap.size + 1 ∧ w1.heap.size ≤ w1.heap.size) := ⟨ho, zA, Nat.le_refl _⟩
    have ho' : w1.heap.size = o4 := ho.symm
    have bB : Below (w1.drew).heap.size (w1.drew) (wn4.drew) := q6j bA
    have BT4 : Hid (Below w1.heap.size w1 (wn4.drew)) := (Below.refl _ w1).drew.trans bB
    skip
    have R4 : Hid (Row (wn4.drew) o4 31 [.slice none 0 0, .slice none 0 0, .int .i64 0]) := by rw [ho]; exact vA.keep rfl
    have S4 := HSee.out _ BT4.out
    clear vA zA bA ho
    first | rw [hw, ho'] | (rw [hw]; try rw [ho'])
    clear bB
    go_simp
    refine hK.out _ _ ?_ (fun hH => ?_)
    · try dsimp only
      exact S4
    clear hK K
    refine rdL [1, 5] ?_
    refine rcL (fun K hK => ?_) ?_
    · go_simp
      go_at_call 9
      refine Calls.mono (ofV (wn4.drew) _ a0 b0 n0 c0 m0 d0 t0 s (Rep.below Ds_1.out BT4.out)) ?_
      rintro e wv1 ⟨oa, oc, ob, od, rfl, hq1, bq1⟩
      obtain ⟨s1, hs⟩ : ∃ z, z = wn4.heap.size := ⟨_, rfl⟩
      obtain ⟨e1, he⟩ : ∃ z, z = wv1.heap.size := ⟨_, rfl⟩
      have HO1 : Hid (rStaF.rd wv1 (fun q => s1 ≤ q ∧ q < e1) [.slice oa n0 oc, .slice ob m0 od, .int .i64 t0] s) := rStaF.weaken hq1 (fun q hq hl => ⟨by have h : wn4.heap.size ≤ q := hq; omega, by omega⟩)
      have HZ1 : Hid (s1 = wn4.heap.size ∧ e1 = wv1.heap.size ∧ wn4.heap.size ≤ wv1.heap.size ∧ w1.heap.size ≤ wn4.heap.size) := ⟨hs, he, bq1.size, BT4.out.size⟩
      have BT1 : Hid _ := on BT4.out bq1
      replace R4 : Hid (Row wv1 o4 31 [.slice none 0 0, .slice none 0 0, .int .i64 0]) := R4.out.below bq1
      have S1 := HSee.out _ BT1.out
      clear hq1 bq1 hs he
      go_simp
      refine hK.out _ _ ?_ (fun hH => ?_)
      · try dsimp only
        exact S1
      clear hK K
      refine rdL [3, 5] ?_
      refine rcL (fun K hK => ?_) ?_
      · go_simp
        go_at_call 10
        refine Calls.mono (q3Q (wv1) _ k at' N id nm dt xa xn xc (Rep.below Yx_1.out BT1.out)) ?_
        rintro e wv3 ⟨xb, xd, rfl, hq3, bq3⟩
        obtain ⟨s3, hs⟩ : ∃ z, z = wv1.heap.size := ⟨_, rfl⟩
        obtain ⟨e3, he⟩ : ∃ z, z = wv3.heap.size := ⟨_, rfl⟩
        have HX3 : Hid (rFree.rd wv3 (fun q => s3 ≤ q ∧ q < e3) [.slice xb xn xd] dt) := rFree.weaken hq3 (fun q hq hl => ⟨by have h : wv1.heap.size ≤ q := hq; omega, by omega⟩)
        have HZ3 : Hid (s3 = wv1.heap.size ∧ e3 = wv3.heap.size ∧ wv1.heap.size ≤ wv3.heap.size ∧ w1.heap.size ≤ wv1.heap.size) := ⟨hs, he, bq3.size, BT1.out.size⟩
        have BT3 : Hid _ := on BT1.out bq3
        replace R4 : Hid (Row wv3 o4 31 [.slice none 0 0, .slice none 0 0, .int .i64 0]) := R4.out.below bq3
        replace HO1 : Hid (rStaF.rd wv3 (fun q => s1 ≤ q ∧ q < e1) [.slice oa n0 oc, .slice ob m0 od, .int .i64 t0] s) := Rep.below HO1.out bq3
        have S3 := HSee.out _ BT3.out
        clear hq3 bq3 hs he
        go_simp
        refine hK.out _ _ ?_ (fun hH => ?_)
        · try dsimp only
          exact S3
        clear hK K
        refine r1L 5 rfl fun K hK => ?_
        · go_simp
          obtain ⟨wv5, hw, vA, bA, zA⟩ := q0q wv3 33 [.int .i64 0, .int .i64 0, .int .i64 0, .int .i64 0, .string ⟨#[]⟩, .slice none 0 0]
          obtain ⟨o5, ho⟩ : ∃ o, o = wv3.heap.size := ⟨_, rfl⟩
          have HZ5 : Hid (o5 = wv3.heap.size ∧ wv5.heap.size = wv3.heap.size + 1 ∧ w1.heap.size ≤ wv3.heap.size) := ⟨ho, zA, BT3.out.size⟩
          have ho' : wv3.heap.size = o5 := ho.symm
          have bB : Below (wv3).heap.size (wv3) (wv5) := bA
          have BT5 : Hid _ := on BT3.out bB
          replace R4 : Hid (Row wv5 o4 31 [.slice none 0 0, .slice none 0 0, .int .i64 0]) := R4.out.below bB
          replace HO1 : Hid (rStaF.rd wv5 (fun q => s1 ≤ q ∧ q < e1) [.slice oa n0 oc, .slice ob m0 od, .int .i64 t0] s) := Rep.below HO1.out bB
          replace HX3 : Hid (rFree.rd wv5 (fun q => s3 ≤ q ∧ q < e3) [.slice xb xn xd] dt) := Rep.below HX3.out bB
          have R5 : Hid (Row (wv5) o5 33 [.int .i64 0, .int .i64 0, .int .i64 0, .int .i64 0, .string ⟨#[]⟩, .slice none 0 0]) := by rw [ho]; exact vA
          have S5 := HSee.out _ BT5.out
          clear vA zA bA ho
          first | rw [hw, ho'] | (rw [hw]; try rw [ho'])
          clear bB
          go_simp
          refine hK.out _ _ ?_ (fun hH => ?_)
          · try dsimp only
            exact S5
          clear hK K
          refine r1L 6 rfl fun K hK => ?_
          · have p60 := R4.out.cell (j := 0) rfl
            have f60 := R4.out.frozen 0
            have p61 := R4.out.cell (j := 1) rfl
            have f61 := R4.out.frozen 1
            have p62 := R4.out.cell (j := 2) rfl
            have f62 := R4.out.frozen 2
            obtain ⟨wv6, hw6, VX, KX⟩ := R4.out.whole3 (.slice oa n0 oc) (.slice ob m0 od) (.int .i64 t0)
            have BT6 : Hid (Below w1.heap.size w1 wv6) := Kept.belowOf BT5.out KX (by have g4 := HZ4.out; have g1 := HZ1.out; have g3 := HZ3.out; have g5 := HZ5.out; unfold Hid at g4 g1 g3 g5; omega)
            replace HO1 : Hid (rStaF.rd wv6 (fun q => s1 ≤ q ∧ q < e1) [.slice oa n0 oc, .slice ob m0 od, .int .i64 t0] s) := Rep.kept HO1.out KX (fun q hq hl => by have h1 := hq.1; have h2 := hq.2; have g4 := HZ4.out; have g1 := HZ1.out; have g3 := HZ3.out; have g5 := HZ5.out; unfold Hid at g4 g1 g3 g5; show q ≠ o4; omega)
            replace HX3 : Hid (rFree.rd wv6 (fun q => s3 ≤ q ∧ q < e3) [.slice xb xn xd] dt) := Rep.kept HX3.out KX (fun q hq hl => by have h1 := hq.1; have h2 := hq.2; have g4 := HZ4.out; have g1 := HZ1.out; have g3 := HZ3.out; have g5 := HZ5.out; unfold Hid at g4 g1 g3 g5; show q ≠ o4; omega)
            replace R5 : Hid (Row wv6 o5 33 [.int .i64 0, .int .i64 0, .int .i64 0, .int .i64 0, .string ⟨#[]⟩, .slice none 0 0]) := R5.out.keep (KX.block _ (by have g4 := HZ4.out; have g1 := HZ1.out; have g3 := HZ3.out; have g5 := HZ5.out; unfold Hid at g4 g1 g3 g5; show o5 ≠ o4; omega))
            replace R4 : Hid (Row wv6 o4 31 [.slice oa n0 oc, .slice ob m0 od, .int .i64 t0]) := VX
            have S6 := HSee.out _ BT6.out
            clear VX KX
            go_simp
            refine hK.out _ _ ?_ (fun hH => ?_)
            · try dsimp only
              exact S6
            clear hK K
            refine r1L 7 rfl fun K hK => ?_
            · have p70 := R5.out.cell (j := 0) rfl
              have f70 := R5.out.frozen 0
              have p71 := R5.out.cell (j := 1) rfl
              have f71 := R5.out.frozen 1
              have p72 := R5.out.cell (j := 2) rfl
              have f72 := R5.out.frozen 2
              have p73 := R5.out.cell (j := 3) rfl
              have f73 := R5.out.frozen 3
              have p74 := R5.out.cell (j := 4) rfl
              have f74 := R5.out.frozen 4
              have p75 := R5.out.cell (j := 5) rfl
              have f75 := R5.out.frozen 5
              obtain ⟨wv7, hw7, VX, KX⟩ := R5.out.whole6 (.int .i64 k) (.int .i64 at') (.int .i64 N) (.int .i64 id) (.string nm) (.slice xb xn xd)
              have BT7 : Hid (Below w1.heap.size w1 wv7) := Kept.belowOf BT6.out KX (by have g4 := HZ4.out; have g1 := HZ1.out; have g3 := HZ3.out; have g5 := HZ5.out; unfold Hid at g4 g1 g3 g5; omega)
              replace R4 : Hid (Row wv7 o4 31 [.slice oa n0 oc, .slice ob m0 od, .int .i64 t0]) := R4.out.keep (KX.block _ (by have g4 := HZ4.out; have g1 := HZ1.out; have g3 := HZ3.out; have g5 := HZ5.out; unfold Hid at g4 g1 g3 g5; show o4 ≠ o5; omega))
              replace HO1 : Hid (rStaF.rd wv7 (fun q => s1 ≤ q ∧ q < e1) [.slice oa n0 oc, .slice ob m0 od, .int .i64 t0] s) := Rep.kept HO1.out KX (fun q hq hl => by have h1 := hq.1; have h2 := hq.2; have g4 := HZ4.out; have g1 := HZ1.out; have g3 := HZ3.out; have g5 := HZ5.out; unfold Hid at g4 g1 g3 g5; show q ≠ o5; omega)
              replace HX3 : Hid (rFree.rd wv7 (fun q => s3 ≤ q ∧ q < e3) [.slice xb xn xd] dt) := Rep.kept HX3.out KX (fun q hq hl => by have h1 := hq.1; have h2 := hq.2; have g4 := HZ4.out; have g1 := HZ1.out; have g3 := HZ3.out; have g5 := HZ5.out; unfold Hid at g4 g1 g3 g5; show q ≠ o5; omega)
              replace R5 : Hid (Row wv7 o5 33 [.int .i64 k, .int .i64 at', .int .i64 N, .int .i64 id, .string nm, .slice xb xn xd]) := VX
              have S7 := HSee.out _ BT7.out
              clear VX KX
              go_simp
              refine hK.out _ _ ?_ (fun hH => ?_)
              · try dsimp only
                exact S7
              clear hK K
              refine wpAnyH_done (by kernel_rfl) ?_ _
              clear hH S0 S1 S3 S4 S5 S6 S7
              go_wp2_with fail
              go_meet
              exact ⟨o4, o5, oa, oc, ob, od, xb, xd, rfl, rfl, by have g4 := HZ4.out; have g1 := HZ1.out; have g3 := HZ3.out; have g5 := HZ5.out; unfold Hid at g4 g1 g3 g5; exact ⟨by omega, by omega, by omega⟩, R4, R5, rStaF.weaken HO1.out (fun q hq hl => by have h1 := hq.1; have h2 := hq.2; have g4 := HZ4.out; have g1 := HZ1.out; have g3 := HZ3.out; have g5 := HZ5.out; unfold Hid at g4 g1 g3 g5; exact ⟨by omega, by omega, by omega⟩), rFree.weaken HX3.out (fun q hq hl => by have h1 := hq.1; have h2 := hq.2; have g4 := HZ4.out; have g1 := HZ1.out; have g3 := HZ3.out; have g5 := HZ5.out; unfold Hid at g4 g1 g3 g5; exact ⟨by omega, by omega, by omega⟩), BT7⟩
      refine rcL (fun K hK => ?_) ?_
      · go_simp
        obtain ⟨wv5, hw, vA, bA, zA⟩ := q0q wv1 33 [.int .i64 0, .int .i64 0, .int .i64 0, .int .i64 0, .string ⟨#[]⟩, .slice none 0 0]
        obtain ⟨o5, ho⟩ : ∃ o, o = wv1.heap.size := ⟨_, rfl⟩
        have HZ5 : Hid (o5 = wv1.heap.size ∧ wv5.heap.size = wv1.heap.size + 1 ∧ w1.heap.size ≤ wv1.heap.size) := ⟨ho, zA, BT1.out.size⟩
        have ho' : wv1.heap.size = o5 := ho.symm
        have bB : Below (wv1).heap.size (wv1) (wv5) := bA
        have BT5 : Hid _ := on BT1.out bB
        replace R4 : Hid (Row wv5 o4 31 [.slice none 0 0, .slice none 0 0, .int .i64 0]) := R4.out.below bB
        replace HO1 : Hid (rStaF.rd wv5 (fun q => s1 ≤ q ∧ q < e1) [.slice oa n0 oc, .slice ob m0 od, .int .i64 t0] s) := Rep.below HO1.out bB
        have R5 : Hid (Row (wv5) o5 33 [.int .i64 0, .int .i64 0, .int .i64 0, .int .i64 0, .string ⟨#[]⟩, .slice none 0 0]) := by rw [ho]; exact vA
        have S5 := HSee.out _ BT5.out
        clear vA zA bA ho
        first | rw [hw, ho'] | (rw [hw]; try rw [ho'])
        clear bB
        go_simp
        refine hK.out _ _ ?_ (fun hH => ?_)
        · try dsimp only
          exact S5
        clear hK K
        refine r1L 3 rfl fun K hK => ?_
        · go_simp
          go_at_call 10
          refine Calls.mono (q3Q (wv5) _ k at' N id nm dt xa xn xc (Rep.below Yx_1.out BT5.out)) ?_
          rintro e wv3 ⟨xb, xd, rfl, hq3, bq3⟩
          obtain ⟨s3, hs⟩ : ∃ z, z = wv5.heap.size := ⟨_, rfl⟩
          obtain ⟨e3, he⟩ : ∃ z, z = wv3.heap.size := ⟨_, rfl⟩
          have HX3 : Hid (rFree.rd wv3 (fun q => s3 ≤ q ∧ q < e3) [.slice xb xn xd] dt) := rFree.weaken hq3 (fun q hq hl => ⟨by have h : wv5.heap.size ≤ q := hq; omega, by omega⟩)
          have HZ3 : Hid (s3 = wv5.heap.size ∧ e3 = wv3.heap.size ∧ wv5.heap.size ≤ wv3.heap.size ∧ w1.heap.size ≤ wv5.heap.size) := ⟨hs, he, bq3.size, BT5.out.size⟩
          have BT3 : Hid _ := on BT5.out bq3
          replace R4 : Hid (Row wv3 o4 31 [.slice none 0 0, .slice none 0 0, .int .i64 0]) := R4.out.below bq3
          replace HO1 : Hid (rStaF.rd wv3 (fun q => s1 ≤ q ∧ q < e1) [.slice oa n0 oc, .slice ob m0 od, .int .i64 t0] s) := Rep.below HO1.out bq3
          replace R5 : Hid (Row wv3 o5 33 [.int .i64 0, .int .i64 0, .int .i64 0, .int .i64 0, .string ⟨#[]⟩, .slice none 0 0]) := R5.out.below bq3
          have S3 := HSee.out _ BT3.out
          clear hq3 bq3 hs he
          go_simp
          refine hK.out _ _ ?_ (fun hH => ?_)
          · try dsimp only
            exact S3
          clear hK K
          refine r1L 6 rfl fun K hK => ?_
          · have p60 := R4.out.cell (j := 0) rfl
            have f60 := R4.out.frozen 0
            have p61 := R4.out.cell (j := 1) rfl
            have f61 := R4.out.frozen 1
            have p62 := R4.out.cell (j := 2) rfl
            have f62 := R4.out.frozen 2
            obtain ⟨wv6, hw6, VX, KX⟩ := R4.out.whole3 (.slice oa n0 oc) (.slice ob m0 od) (.int .i64 t0)
            have BT6 : Hid (Below w1.heap.size w1 wv6) := Kept.belowOf BT3.out KX (by have g4 := HZ4.out; have g1 := HZ1.out; have g5 := HZ5.out; have g3 := HZ3.out; unfold Hid at g4 g1 g5 g3; omega)
            replace HO1 : Hid (rStaF.rd wv6 (fun q => s1 ≤ q ∧ q < e1) [.slice oa n0 oc, .slice ob m0 od, .int .i64 t0] s) := Rep.kept HO1.out KX (fun q hq hl => by have h1 := hq.1; have h2 := hq.2; have g4 := HZ4.out; have g1 := HZ1.out; have g5 := HZ5.out; have g3 := HZ3.out; unfold Hid at g4 g1 g5 g3; show q ≠ o4; omega)
            replace R5 : Hid (Row wv6 o5 33 [.int .i64 0, .int .i64 0, .int .i64 0, .int .i64 0, .string ⟨#[]⟩, .slice none 0 0]) := R5.out.keep (KX.block _ (by have g4 := HZ4.out; have g1 := HZ1.out; have g5 := HZ5.out; have g3 := HZ3.out; unfold Hid at g4 g1 g5 g3; show o5 ≠ o4; omega))
            replace HX3 : Hid (rFree.rd wv6 (fun q => s3 ≤ q ∧ q < e3) [.slice xb xn xd] dt) := Rep.kept HX3.out KX (fun q hq hl => by have h1 := hq.1; have h2 := hq.2; have g4 := HZ4.out; have g1 := HZ1.out; have g5 := HZ5.out; have g3 := HZ3.out; unfold Hid at g4 g1 g5 g3; show q ≠ o4; omega)
            replace R4 : Hid (Row wv6 o4 31 [.slice oa n0 oc, .slice ob m0 od, .int .i64 t0]) := VX
            have S6 := HSee.out _ BT6.out
            clear VX KX
            go_simp
            refine hK.out _ _ ?_ (fun hH => ?_)
            · try dsimp only
              exact S6
            clear hK K
            refine r1L 7 rfl fun K hK => ?_
            · have p70 := R5.out.cell (j := 0) rfl
              have f70 := R5.out.frozen 0
              have p71 := R5.out.cell (j := 1) rfl
              have f71 := R5.out.frozen 1
              have p72 := R5.out.cell (j := 2) rfl
              have f72 := R5.out.frozen 2
              have p73 := R5.out.cell (j := 3) rfl
              have f73 := R5.out.frozen 3
              have p74 := R5.out.cell (j := 4) rfl
              have f74 := R5.out.frozen 4
              have p75 := R5.out.cell (j := 5) rfl
              have f75 := R5.out.frozen 5
              obtain ⟨wv7, hw7, VX, KX⟩ := R5.out.whole6 (.int .i64 k) (.int .i64 at') (.int .i64 N) (.int .i64 id) (.string nm) (.slice xb xn xd)
              have BT7 : Hid (Below w1.heap.size w1 wv7) := Kept.belowOf BT6.out KX (by have g4 := HZ4.out; have g1 := HZ1.out; have g5 := HZ5.out; have g3 := HZ3.out; unfold Hid at g4 g1 g5 g3; omega)
              replace R4 : Hid (Row wv7 o4 31 [.slice oa n0 oc, .slice ob m0 od, .int .i64 t0]) := R4.out.keep (KX.block _ (by have g4 := HZ4.out; have g1 := HZ1.out; have g5 := HZ5.out; have g3 := HZ3.out; unfold Hid at g4 g1 g5 g3; show o4 ≠ o5; omega))
              replace HO1 : Hid (rStaF.rd wv7 (fun q => s1 ≤ q ∧ q < e1) [.slice oa n0 oc, .slice ob m0 od, .int .i64 t0] s) := Rep.kept HO1.out KX (fun q hq hl => by have h1 := hq.1; have h2 := hq.2; have g4 := HZ4.out; have g1 := HZ1.out; have g5 := HZ5.out; have g3 := HZ3.out; unfold Hid at g4 g1 g5 g3; show q ≠ o5; omega)
              replace HX3 : Hid (rFree.rd wv7 (fun q => s3 ≤ q ∧ q < e3) [.slice xb xn xd] dt) := Rep.kept HX3.out KX (fun q hq hl => by have h1 := hq.1; have h2 := hq.2; have g4 := HZ4.out; have g1 := HZ1.out; have g5 := HZ5.out; have g3 := HZ3.out; unfold Hid at g4 g1 g5 g3; show q ≠ o5; omega)
              replace R5 : Hid (Row wv7 o5 33 [.int .i64 k, .int .i64 at', .int .i64 N, .int .i64 id, .string nm, .slice xb xn xd]) := VX
              have S7 := HSee.out _ BT7.out
              clear VX KX
              go_simp
              refine hK.out _ _ ?_ (fun hH => ?_)
              · try dsimp only
                exact S7
              clear hK K
              refine wpAnyH_done (by kernel_rfl) ?_ _
              clear hH S0 S1 S3 S4 S5 S6 S7
              go_wp2_with fail
              go_meet
              exact ⟨o4, o5, oa, oc, ob, od, xb, xd, rfl, rfl, by have g4 := HZ4.out; have g1 := HZ1.out; have g5 := HZ5.out; have g3 := HZ3.out; unfold Hid at g4 g1 g5 g3; exact ⟨by omega, by omega, by omega⟩, R4, R5, rStaF.weaken HO1.out (fun q hq hl => by have h1 := hq.1; have h2 := hq.2; have g4 := HZ4.out; have g1 := HZ1.out; have g5 := HZ5.out; have g3 := HZ3.out; unfold Hid at g4 g1 g5 g3; exact ⟨by omega, by omega, by omega⟩), rFree.weaken HX3.out (fun q hq hl => by have h1 := hq.1; have h2 := hq.2; have g4 := HZ4.out; have g1 := HZ1.out; have g5 := HZ5.out; have g3 := HZ3.out; unfold Hid at g4 g1 g5 g3; exact ⟨by omega, by omega, by omega⟩), BT7⟩
      exact rnL
    refine rcL (fun K hK => ?_) ?_
    · go_simp
      obtain ⟨wn5, hw, vA, bA, zA⟩ := q0q wn4 33 [.int .i64 0, .int .i64 0, .int .i64 0, .int .i64 0, .string ⟨#[]⟩, .slice none 0 0]
      obtain ⟨o5, ho⟩ : ∃ o, o = wn4.heap.size := ⟨_, rfl⟩
      have HZ5 : Hid (o5 = wn4.heap.size ∧ wn5.heap.size = wn4.heap.size + 1 ∧ w1.heap.size ≤ wn4.heap.size) := ⟨ho, zA, BT4.out.size⟩
      have ho' : wn4.heap.size = o5 := ho.symm
      have bB : Below (wn4.drew).heap.size (wn4.drew) (wn5.drew) := q6j bA
      have BT5 : Hid _ := on BT4.out bB
      replace R4 : Hid (Row wn5.drew o4 31 [.slice none 0 0, .slice none 0 0, .int .i64 0]) := R4.out.below bB
      have R5 : Hid (Row (wn5.drew) o5 33 [.int .i64 0, .int .i64 0, .int .i64 0, .int .i64 0, .string ⟨#[]⟩, .slice none 0 0]) := by rw [ho]; exact vA.keep rfl
      have S5 := HSee.out _ BT5.out
      clear vA zA bA ho
      first | rw [hw, ho'] | (rw [hw]; try rw [ho'])
      clear bB
      go_simp
      refine hK.out _ _ ?_ (fun hH => ?_)
      · try dsimp only
        exact S5
      clear hK K
      refine r1L 1 rfl fun K hK => ?_
      · go_simp
        go_at_call 9
        refine Calls.mono (ofV (wn5.drew) _ a0 b0 n0 c0 m0 d0 t0 s (Rep.below Ds_1.out BT5.out)) ?_
        rintro e wv1 ⟨oa, oc, ob, od, rfl, hq1, bq1⟩
        obtain ⟨s1, hs⟩ : ∃ z, z = wn5.heap.size := ⟨_, rfl⟩
        obtain ⟨e1, he⟩ : ∃ z, z = wv1.heap.size := ⟨_, rfl⟩
        have HO1 : Hid (rStaF.rd wv1 (fun q => s1 ≤ q ∧ q < e1) [.slice oa n0 oc, .slice ob m0 od, .int .i64 t0] s) := rStaF.weaken hq1 (fun q hq hl => ⟨by have h : wn5.heap.size ≤ q := hq; omega, by omega⟩)
        have HZ1 : Hid (s1 = wn5.heap.size ∧ e1 = wv1.heap.size ∧ wn5.heap.size ≤ wv1.heap.size ∧ w1.heap.size ≤ wn5.heap.size) := ⟨hs, he, bq1.size, BT5.out.size⟩
        have BT1 : Hid _ := on BT5.out bq1
        replace R4 : Hid (Row wv1 o4 31 [.slice none 0 0, .slice none 0 0, .int .i64 0]) := R4.out.below bq1
        replace R5 : Hid (Row wv1 o5 33 [.int .i64 0, .int .i64 0, .int .i64 0, .int .i64 0, .string ⟨#[]⟩, .slice none 0 0]) := R5.out.below bq1
        have S1 := HSee.out _ BT1.out
        clear hq1 bq1 hs he
        go_simp
        refine hK.out _ _ ?_ (fun hH => ?_)
        · try dsimp only
          exact S1
        clear hK K
        refine r1L 3 rfl fun K hK => ?_
        · go_simp
          go_at_call 10
          refine Calls.mono (q3Q (wv1) _ k at' N id nm dt xa xn xc (Rep.below Yx_1.out BT1.out)) ?_
          rintro e wv3 ⟨xb, xd, rfl, hq3, bq3⟩
          obtain ⟨s3, hs⟩ : ∃ z, z = wv1.heap.size := ⟨_, rfl⟩
          obtain ⟨e3, he⟩ : ∃ z, z = wv3.heap.size := ⟨_, rfl⟩
          have HX3 : Hid (rFree.rd wv3 (fun q => s3 ≤ q ∧ q < e3) [.slice xb xn xd] dt) := rFree.weaken hq3 (fun q hq hl => ⟨by have h : wv1.heap.size ≤ q := hq; omega, by omega⟩)
          have HZ3 : Hid (s3 = wv1.heap.size ∧ e3 = wv3.heap.size ∧ wv1.heap.size ≤ wv3.heap.size ∧ w1.heap.size ≤ wv1.heap.size) := ⟨hs, he, bq3.size, BT1.out.size⟩
          have BT3 : Hid _ := on BT1.out bq3
          replace R4 : Hid (Row wv3 o4 31 [.slice none 0 0, .slice none 0 0, .int .i64 0]) := R4.out.below bq3
          replace R5 : Hid (Row wv3 o5 33 [.int .i64 0, .int .i64 0, .int .i64 0, .int .i64 0, .string ⟨#[]⟩, .slice none 0 0]) := R5.out.below bq3
          replace HO1 : Hid (rStaF.rd wv3 (fun q => s1 ≤ q ∧ q < e1) [.slice oa n0 oc, .slice ob m0 od, .int .i64 t0] s) := Rep.below HO1.out bq3
          have S3 := HSee.out _ BT3.out
          clear hq3 bq3 hs he
          go_simp
          refine hK.out _ _ ?_ (fun hH => ?_)
          · try dsimp only
            exact S3
          clear hK K
          refine r1L 6 rfl fun K hK => ?_
          · have p60 := R4.out.cell (j := 0) rfl
            have f60 := R4.out.frozen 0
            have p61 := R4.out.cell (j := 1) rfl
            have f61 := R4.out.frozen 1
            have p62 := R4.out.cell (j := 2) rfl
            have f62 := R4.out.frozen 2
            obtain ⟨wv6, hw6, VX, KX⟩ := R4.out.whole3 (.slice oa n0 oc) (.slice ob m0 od) (.int .i64 t0)
            have BT6 : Hid (Below w1.heap.size w1 wv6) := Kept.belowOf BT3.out KX (by have g4 := HZ4.out; have g5 := HZ5.out; have g1 := HZ1.out; have g3 := HZ3.out; unfold Hid at g4 g5 g1 g3; omega)
            replace R5 : Hid (Row wv6 o5 33 [.int .i64 0, .int .i64 0, .int .i64 0, .int .i64 0, .string ⟨#[]⟩, .slice none 0 0]) := R5.out.keep (KX.block _ (by have g4 := HZ4.out; have g5 := HZ5.out; have g1 := HZ1.out; have g3 := HZ3.out; unfold Hid at g4 g5 g1 g3; show o5 ≠ o4; omega))
            replace HO1 : Hid (rStaF.rd wv6 (fun q => s1 ≤ q ∧ q < e1) [.slice oa n0 oc, .slice ob m0 od, .int .i64 t0] s) := Rep.kept HO1.out KX (fun q hq hl => by have h1 := hq.1; have h2 := hq.2; have g4 := HZ4.out; have g5 := HZ5.out; have g1 := HZ1.out; have g3 := HZ3.out; unfold Hid at g4 g5 g1 g3; show q ≠ o4; omega)
            replace HX3 : Hid (rFree.rd wv6 (fun q => s3 ≤ q ∧ q < e3) [.slice xb xn xd] dt) := Rep.kept HX3.out KX (fun q hq hl => by have h1 := hq.1; have h2 := hq.2; have g4 := HZ4.out; have g5 := HZ5.out; have g1 := HZ1.out; have g3 := HZ3.out; unfold Hid at g4 g5 g1 g3; show q ≠ o4; omega)
            replace R4 : Hid (Row wv6 o4 31 [.slice oa n0 oc, .slice ob m0 od, .int .i64 t0]) := VX
            have S6 := HSee.out _ BT6.out
            clear VX KX
            go_simp
            refine hK.out _ _ ?_ (fun hH => ?_)
            · try dsimp only
              exact S6
            clear hK K
            refine r1L 7 rfl fun K hK => ?_
            · have p70 := R5.out.cell (j := 0) rfl
              have f70 := R5.out.frozen 0
              have p71 := R5.out.cell (j := 1) rfl
              have f71 := R5.out.frozen 1
              have p72 := R5.out.cell (j := 2) rfl
              have f72 := R5.out.frozen 2
              have p73 := R5.out.cell (j := 3) rfl
              have f73 := R5.out.frozen 3
              have p74 := R5.out.cell (j := 4) rfl
              have f74 := R5.out.frozen 4
              have p75 := R5.out.cell (j := 5) rfl
              have f75 := R5.out.frozen 5
              obtain ⟨wv7, hw7, VX, KX⟩ := R5.out.whole6 (.int .i64 k) (.int .i64 at') (.int .i64 N) (.int .i64 id) (.string nm) (.slice xb xn xd)
              have BT7 : Hid (Below w1.heap.size w1 wv7) := Kept.belowOf BT6.out KX (by have g4 := HZ4.out; have g5 := HZ5.out; have g1 := HZ1.out; have g3 := HZ3.out; unfold Hid at g4 g5 g1 g3; omega)
              replace R4 : Hid (Row wv7 o4 31 [.slice oa n0 oc, .slice ob m0 od, .int .i64 t0]) := R4.out.keep (KX.block _ (by have g4 := HZ4.out; have g5 := HZ5.out; have g1 := HZ1.out; have g3 := HZ3.out; unfold Hid at g4 g5 g1 g3; show o4 ≠ o5; omega))
              replace HO1 : Hid (rStaF.rd wv7 (fun q => s1 ≤ q ∧ q < e1) [.slice oa n0 oc, .slice ob m0 od, .int .i64 t0] s) := Rep.kept HO1.out KX (fun q hq hl => by have h1 := hq.1; have h2 := hq.2; have g4 := HZ4.out; have g5 := HZ5.out; have g1 := HZ1.out; have g3 := HZ3.out; unfold Hid at g4 g5 g1 g3; show q ≠ o5; omega)
              replace HX3 : Hid (rFree.rd wv7 (fun q => s3 ≤ q ∧ q < e3) [.slice xb xn xd] dt) := Rep.kept HX3.out KX (fun q hq hl => by have h1 := hq.1; have h2 := hq.2; have g4 := HZ4.out; have g5 := HZ5.out; have g1 := HZ1.out; have g3 := HZ3.out; unfold Hid at g4 g5 g1 g3; show q ≠ o5; omega)
              replace R5 : Hid (Row wv7 o5 33 [.int .i64 k, .int .i64 at', .int .i64 N, .int .i64 id, .string nm, .slice xb xn xd]) := VX
              have S7 := HSee.out _ BT7.out
              clear VX KX
              go_simp
              refine hK.out _ _ ?_ (fun hH => ?_)
              · try dsimp only
                exact S7
              clear hK K
              refine wpAnyH_done (by kernel_rfl) ?_ _
              clear hH S0 S1 S3 S4 S5 S6 S7
              go_wp2_with fail
              go_meet
              exact ⟨o4, o5, oa, oc, ob, od, xb, xd, rfl, rfl, by have g4 := HZ4.out; have g5 := HZ5.out; have g1 := HZ1.out; have g3 := HZ3.out; unfold Hid at g4 g5 g1 g3; exact ⟨by omega, by omega, by omega⟩, R4, R5, rStaF.weaken HO1.out (fun q hq hl => by have h1 := hq.1; have h2 := hq.2; have g4 := HZ4.out; have g5 := HZ5.out; have g1 := HZ1.out; have g3 := HZ3.out; unfold Hid at g4 g5 g1 g3; exact ⟨by omega, by omega, by omega⟩), rFree.weaken HX3.out (fun q hq hl => by have h1 := hq.1; have h2 := hq.2; have g4 := HZ4.out; have g5 := HZ5.out; have g1 := HZ1.out; have g3 := HZ3.out; unfold Hid at g4 g5 g1 g3; exact ⟨by omega, by omega, by omega⟩), BT7⟩
    exact rnL
  refine rcL (fun K hK => ?_) ?_
  · go_simp
    obtain ⟨wn5, hw, vA, bA, zA⟩ := q0q w1 33 [.int .i64 0, .int .i64 0, .int .i64 0, .int .i64 0, .string ⟨#[]⟩, .slice none 0 0]
    obtain ⟨o5, ho⟩ : ∃ o, o = w1.heap.size := ⟨_, rfl⟩
    have HZ5 : Hid (o5 = w1.heap.size ∧ wn5.heap.size = w1.heap.size + 1 ∧ w1.heap.size ≤ w1.heap.size) := ⟨ho, zA, Nat.le_refl _⟩
    have ho' : w1.heap.size = o5 := ho.symm
    have bB : Below (w1.drew).heap.size (w1.drew) (wn5.drew) := q6j bA
    have BT5 : Hid (Below w1.heap.size w1 (wn5.drew)) := (Below.refl _ w1).drew.trans bB
    skip
    have R5 : Hid (Row (wn5.drew) o5 33 [.int .i64 0, .int .i64 0, .int .i64 0, .int .i64 0, .string ⟨#[]⟩, .slice none 0 0]) := by rw [ho]; exact vA.keep rfl
    have S5 := HSee.out _ BT5.out
    clear vA zA bA ho
    first | rw [hw, ho'] | (rw [hw]; try rw [ho'])
    clear bB
    go_simp
    refine hK.out _ _ ?_ (fun hH => ?_)
    · try dsimp only
      exact S5
    clear hK K
    refine rdL [1, 4] ?_
    refine rcL (fun K hK => ?_) ?_
    · go_simp
      go_at_call 9
      refine Calls.mono (ofV (wn5.drew) _ a0 b0 n0 c0 m0 d0 t0 s (Rep.below Ds_1.out BT5.out)) ?_
      rintro e wv1 ⟨oa, oc, ob, od, rfl, hq1, bq1⟩
      obtain ⟨s1, hs⟩ : ∃ z, z = wn5.heap.size := ⟨_, rfl⟩
      obtain ⟨e1, he⟩ : ∃ z, z = wv1.heap.size := ⟨_, rfl⟩
      have HO1 : Hid (rStaF.rd wv1 (fun q => s1 ≤ q ∧ q < e1) [.slice oa n0 oc, .slice ob m0 od, .int .i64 t0] s) := rStaF.weaken hq1 (fun q hq hl => ⟨by have h : wn5.heap.size ≤ q := hq; omega, by omega⟩)
      have HZ1 : Hid (s1 = wn5.heap.size ∧ e1 = wv1.heap.size ∧ wn5.heap.size ≤ wv1.heap.size ∧ w1.heap.size ≤ wn5.heap.size) := ⟨hs, he, bq1.size, BT5.out.size⟩
      have BT1 : Hid _ := on BT5.out bq1
      replace R5 : Hid (Row wv1 o5 33 [.int .i64 0, .int .i64 0, .int .i64 0, .int .i64 0, .string ⟨#[]⟩, .slice none 0 0]) := R5.out.below bq1
      have S1 := HSee.out _ BT1.out
      clear hq1 bq1 hs he
      go_simp
      refine hK.out _ _ ?_ (fun hH => ?_)
      · try dsimp only
        exact S1
      clear hK K
      refine rdL [3, 4] ?_
      refine rcL (fun K hK => ?_) ?_
      · go_simp
        go_at_call 10
        refine Calls.mono (q3Q (wv1) _ k at' N id nm dt xa xn xc (Rep.below Yx_1.out BT1.out)) ?_
        rintro e wv3 ⟨xb, xd, rfl, hq3, bq3⟩
        obtain ⟨s3, hs⟩ : ∃ z, z = wv1.heap.size := ⟨_, rfl⟩
        obtain ⟨e3, he⟩ : ∃ z, z = wv3.heap.size := ⟨_, rfl⟩
        have HX3 : Hid (rFree.rd wv3 (fun q => s3 ≤ q ∧ q < e3) [.slice xb xn xd] dt) := rFree.weaken hq3 (fun q hq hl => ⟨by have h : wv1.heap.size ≤ q := hq; omega, by omega⟩)
        have HZ3 : Hid (s3 = wv1.heap.size ∧ e3 = wv3.heap.size ∧ wv1.heap.size ≤ wv3.heap.size ∧ w1.heap.size ≤ wv1.heap.size) := ⟨hs, he, bq3.size, BT1.out.size⟩
        have BT3 : Hid _ := on BT1.out bq3
        replace R5 : Hid (Row wv3 o5 33 [.int .i64 0, .int .i64 0, .int .i64 0, .int .i64 0, .string ⟨#[]⟩, .slice none 0 0]) := R5.out.below bq3
        replace HO1 : Hid (rStaF.rd wv3 (fun q => s1 ≤ q ∧ q < e1) [.slice oa n0 oc, .slice ob m0 od, .int .i64 t0] s) := Rep.below HO1.out bq3
        have S3 := HSee.out _ BT3.out
        clear hq3 bq3 hs he
        go_simp
        refine hK.out _ _ ?_ (fun hH => ?_)
        · try dsimp only
          exact S3
        clear hK K
        refine r1L 4 rfl fun K hK => ?_
        · go_simp
          obtain ⟨wv4, hw, vA, bA, zA⟩ := q0q wv3 31 [.slice none 0 0, .slice none 0 0, .int .i64 0]
          obtain ⟨o4, ho⟩ : ∃ o, o = wv3.heap.size := ⟨_, rfl⟩
          have HZ4 : Hid (o4 = wv3.heap.size ∧ wv4.heap.size = wv3.heap.size + 1 ∧ w1.heap.size ≤ wv3.heap.size) := ⟨ho, zA, BT3.out.size⟩
          have ho' : wv3.heap.size = o4 := ho.symm
          have bB : Below (wv3).heap.size (wv3) (wv4) := bA
          have BT4 : Hid _ := on BT3.out bB
          replace R5 : Hid (Row wv4 o5 33 [.int .i64 0, .int .i64 0, .int .i64 0, .int .i64 0, .string ⟨#[]⟩, .slice none 0 0]) := R5.out.below bB
          replace HO1 : Hid (rStaF.rd wv4 (fun q => s1 ≤ q ∧ q < e1) [.slice oa n0 oc, .slice ob m0 od, .int .i64 t0] s) := Rep.below HO1.out bB
          replace HX3 : Hid (rFree.rd wv4 (fun q => s3 ≤ q ∧ q < e3) [.slice xb xn xd] dt) := Rep.below HX3.out bB
          have R4 : Hid (Row (wv4) o4 31 [.slice none 0 0, .slice none 0 0, .int .i64 0]) := by rw [ho]; exact vA
          have S4 := HSee.out _ BT4.out
          clear vA zA bA ho
          first | rw [hw, ho'] | (rw [hw]; try rw [ho'])
          clear bB
          go_simp
          refine hK.out _ _ ?_ (fun hH => ?_)
          · try dsimp only
            exact S4
          clear hK K
          refine r1L 6 rfl fun K hK => ?_
          · have p60 := R4.out.cell (j := 0) rfl
            have f60 := R4.out.frozen 0
            have p61 := R4.out.cell (j := 1) rfl
            have f61 := R4.out.frozen 1
            have p62 := R4.out.cell (j := 2) rfl
            have f62 := R4.out.frozen 2
            obtain ⟨wv6, hw6, VX, KX⟩ := R4.out.whole3 (.slice oa n0 oc) (.slice ob m0 od) (.int .i64 t0)
            have BT6 : Hid (Below w1.heap.size w1 wv6) := Kept.belowOf BT4.out KX (by have g5 := HZ5.out; have g1 := HZ1.out; have g3 := HZ3.out; have g4 := HZ4.out; unfold Hid at g5 g1 g3 g4; omega)
            replace R5 : Hid (Row wv6 o5 33 [.int .i64 0, .int .i64 0, .int .i64 0, .int .i64 0, .string ⟨#[]⟩, .slice none 0 0]) := R5.out.keep (KX.block _ (by have g5 := HZ5.out; have g1 := HZ1.out; have g3 := HZ3.out; have g4 := HZ4.out; unfold Hid at g5 g1 g3 g4; show o5 ≠ o4; omega))
            replace HO1 : Hid (rStaF.rd wv6 (fun q => s1 ≤ q ∧ q < e1) [.slice oa n0 oc, .slice ob m0 od, .int .i64 t0] s) := Rep.kept HO1.out KX (fun q hq hl => by have h1 := hq.1; have h2 := hq.2; have g5 := HZ5.out; have g1 := HZ1.out; have g3 := HZ3.out; have g4 := HZ4.out; unfold Hid at g5 g1 g3 g4; show q ≠ o4; omega)
            replace HX3 : Hid (rFree.rd wv6 (fun q => s3 ≤ q ∧ q < e3) [.slice xb xn xd] dt) := Rep.kept HX3.out KX (fun q hq hl => by have h1 := hq.1; have h2 := hq.2; have g5 := HZ5.out; have g1 := HZ1.out; have g3 := HZ3.out; have g4 := HZ4.out; unfold Hid at g5 g1 g3 g4; show q ≠ o4; omega)
            replace R4 : Hid (Row wv6 o4 31 [.slice oa n0 oc, .slice ob m0 od, .int .i64 t0]) := VX
            have S6 := HSee.out _ BT6.out
            clear VX KX
            go_simp
            refine hK.out _ _ ?_ (fun hH => ?_)
            · try dsimp only
              exact S6
            clear hK K
            refine r1L 7 rfl fun K hK => ?_
            · have p70 := R5.out.cell (j := 0) rfl
              have f70 := R5.out.frozen 0
              have p71 := R5.out.cell (j := 1) rfl
              have f71 := R5.out.frozen 1
              have p72 := R5.out.cell (j := 2) rfl
              have f72 := R5.out.frozen 2
              have p73 := R5.out.cell (j := 3) rfl
              have f73 := R5.out.frozen 3
              have p74 := R5.out.cell (j := 4) rfl
              have f74 := R5.out.frozen 4
              have p75 := R5.out.cell (j := 5) rfl
              have f75 := R5.out.frozen 5
              obtain ⟨wv7, hw7, VX, KX⟩ := R5.out.whole6 (.int .i64 k) (.int .i64 at') (.int .i64 N) (.int .i64 id) (.string nm) (.slice xb xn xd)
              have BT7 : Hid (Below w1.heap.size w1 wv7) := Kept.belowOf BT6.out KX (by have g5 := HZ5.out; have g1 := HZ1.out; have g3 := HZ3.out; have g4 := HZ4.out; unfold Hid at g5 g1 g3 g4; omega)
              replace HO1 : Hid (rStaF.rd wv7 (fun q => s1 ≤ q ∧ q < e1) [.slice oa n0 oc, .slice ob m0 od, .int .i64 t0] s) := Rep.kept HO1.out KX (fun q hq hl => by have h1 := hq.1; have h2 := hq.2; have g5 := HZ5.out; have g1 := HZ1.out; have g3 := HZ3.out; have g4 := HZ4.out; unfold Hid at g5 g1 g3 g4; show q ≠ o5; omega)
              replace HX3 : Hid (rFree.rd wv7 (fun q => s3 ≤ q ∧ q < e3) [.slice xb xn xd] dt) := Rep.kept HX3.out KX (fun q hq hl => by have h1 := hq.1; have h2 := hq.2; have g5 := HZ5.out; have g1 := HZ1.out; have g3 := HZ3.out; have g4 := HZ4.out; unfold Hid at g5 g1 g3 g4; show q ≠ o5; omega)
              replace R4 : Hid (Row wv7 o4 31 [.slice oa n0 oc, .slice ob m0 od, .int .i64 t0]) := R4.out.keep (KX.block _ (by have g5 := HZ5.out; have g1 := HZ1.out; have g3 := HZ3.out; have g4 := HZ4.out; unfold Hid at g5 g1 g3 g4; show o4 ≠ o5; omega))
              replace R5 : Hid (Row wv7 o5 33 [.int .i64 k, .int .i64 at', .int .i64 N, .int .i64 id, .string nm, .slice xb xn xd]) := VX
              have S7 := HSee.out _ BT7.out
              clear VX KX
              go_simp
              refine hK.out _ _ ?_ (fun hH => ?_)
              · try dsimp only
                exact S7
              clear hK K
              refine wpAnyH_done (by kernel_rfl) ?_ _
              clear hH S0 S1 S3 S4 S5 S6 S7
              go_wp2_with fail
              go_meet
              exact ⟨o4, o5, oa, oc, ob, od, xb, xd, rfl, rfl, by have g5 := HZ5.out; have g1 := HZ1.out; have g3 := HZ3.out; have g4 := HZ4.out; unfold Hid at g5 g1 g3 g4; exact ⟨by omega, by omega, by omega⟩, R4, R5, rStaF.weaken HO1.out (fun q hq hl => by have h1 := hq.1; have h2 := hq.2; have g5 := HZ5.out; have g1 := HZ1.out; have g3 := HZ3.out; have g4 := HZ4.out; unfold Hid at g5 g1 g3 g4; exact ⟨by omega, by omega, by omega⟩), rFree.weaken HX3.out (fun q hq hl => by have h1 := hq.1; have h2 := hq.2; have g5 := HZ5.out; have g1 := HZ1.out; have g3 := HZ3.out; have g4 := HZ4.out; unfold Hid at g5 g1 g3 g4; exact ⟨by omega, by omega, by omega⟩), BT7⟩
      refine rcL (fun K hK => ?_) ?_
      · go_simp
        obtain ⟨wv4, hw, vA, bA, zA⟩ := q0q wv1 31 [.slice none 0 0, .slice none 0 0, .int .i64 0]
        obtain ⟨o4, ho⟩ : ∃ o, o = wv1.heap.size := ⟨_, rfl⟩
        have HZ4 : Hid (o4 = wv1.heap.size ∧ wv4.heap.size = wv1.heap.size + 1 ∧ w1.heap.size ≤ wv1.heap.size) := ⟨ho, zA, BT1.out.size⟩
        have ho' : wv1.heap.size = o4 := ho.symm
        have bB : Below (wv1).heap.size (wv1) (wv4) := bA
        have BT4 : Hid _ := on BT1.out bB
        replace R5 : Hid (Row wv4 o5 33 [.int .i64 0, .int .i64 0, .int .i64 0, .int .i64 0, .string ⟨#[]⟩, .slice none 0 0]) := R5.out.below bB
        replace HO1 : Hid (rStaF.rd wv4 (fun q => s1 ≤ q ∧ q < e1) [.slice oa n0 oc, .slice ob m0 od, .int .i64 t0] s) := Rep.below HO1.out bB
        have R4 : Hid (Row (wv4) o4 31 [.slice none 0 0, .slice none 0 0, .int .i64 0]) := by rw [ho]; exact vA
        have S4 := HSee.out _ BT4.out
        clear vA zA bA ho
        first | rw [hw, ho'] | (rw [hw]; try rw [ho'])
        clear bB
        go_simp
        refine hK.out _ _ ?_ (fun hH => ?_)
        · try dsimp only
          exact S4
        clear hK K
        refine r1L 3 rfl fun K hK => ?_
        · go_simp
          go_at_call 10
          refine Calls.mono (q3Q (wv4) _ k at' N id nm dt xa xn xc (Rep.below Yx_1.out BT4.out)) ?_
          rintro e wv3 ⟨xb, xd, rfl, hq3, bq3⟩
          obtain ⟨s3, hs⟩ : ∃ z, z = wv4.heap.size := ⟨_, rfl⟩
          obtain ⟨e3, he⟩ : ∃ z, z = wv3.heap.size := ⟨_, rfl⟩
          have HX3 : Hid (rFree.rd wv3 (fun q => s3 ≤ q ∧ q < e3) [.slice xb xn xd] dt) := rFree.weaken hq3 (fun q hq hl => ⟨by have h : wv4.heap.size ≤ q := hq; omega, by omega⟩)
          have HZ3 : Hid (s3 = wv4.heap.size ∧ e3 = wv3.heap.size ∧ wv4.heap.size ≤ wv3.heap.size ∧ w1.heap.size ≤ wv4.heap.size) := ⟨hs, he, bq3.size, BT4.out.size⟩
          have BT3 : Hid _ := on BT4.out bq3
          replace R5 : Hid (Row wv3 o5 33 [.int .i64 0, .int .i64 0, .int .i64 0, .int .i64 0, .string ⟨#[]⟩, .slice none 0 0]) := R5.out.below bq3
          replace HO1 : Hid (rStaF.rd wv3 (fun q => s1 ≤ q ∧ q < e1) [.slice oa n0 oc, .slice ob m0 od, .int .i64 t0] s) := Rep.below HO1.out bq3
          replace R4 : Hid (Row wv3 o4 31 [.slice none 0 0, .slice none 0 0, .int .i64 0]) := R4.out.below bq3
          have S3 := HSee.out _ BT3.out
          clear hq3 bq3 hs he
          go_simp
          refine hK.out _ _ ?_ (fun hH => ?_)
          · try dsimp only
            exact S3
          clear hK K
          refine r1L 6 rfl fun K hK => ?_
          · have p60 := R4.out.cell (j := 0) rfl
            have f60 := R4.out.frozen 0
            have p61 := R4.out.cell (j := 1) rfl
            have f61 := R4.out.frozen 1
            have p62 := R4.out.cell (j := 2) rfl
            have f62 := R4.out.frozen 2
            obtain ⟨wv6, hw6, VX, KX⟩ := R4.out.whole3 (.slice oa n0 oc) (.slice ob m0 od) (.int .i64 t0)
            have BT6 : Hid (Below w1.heap.size w1 wv6) := Kept.belowOf BT3.out KX (by have g5 := HZ5.out; have g1 := HZ1.out; have g4 := HZ4.out; have g3 := HZ3.out; unfold Hid at g5 g1 g4 g3; omega)
            replace R5 : Hid (Row wv6 o5 33 [.int .i64 0, .int .i64 0, .int .i64 0, .int .i64 0, .string ⟨#[]⟩, .slice none 0 0]) := R5.out.keep (KX.block _ (by have g5 := HZ5.out; have g1 := HZ1.out; have g4 := HZ4.out; have g3 := HZ3.out; unfold Hid at g5 g1 g4 g3; show o5 ≠ o4; omega))
            replace HO1 : Hid (rStaF.rd wv6 (fun q => s1 ≤ q ∧ q < e1) [.slice oa n0 oc, .slice ob m0 od, .int .i64 t0] s) := Rep.kept HO1.out KX (fun q hq hl => by have h1 := hq.1; have h2 := hq.2; have g5 := HZ5.out; have g1 := HZ1.out; have g4 := HZ4.out; have g3 := HZ3.out; unfold Hid at g5 g1 g4 g3; show q ≠ o4; omega)
            replace HX3 : Hid (rFree.rd wv6 (fun q => s3 ≤ q ∧ q < e3) [.slice xb xn xd] dt) := Rep.kept HX3.out KX (fun q hq hl => by have h1 := hq.1; have h2 := hq.2; have g5 := HZ5.out; have g1 := HZ1.out; have g4 := HZ4.out; have g3 := HZ3.out; unfold Hid at g5 g1 g4 g3; show q ≠ o4; omega)
            replace R4 : Hid (Row wv6 o4 31 [.slice oa n0 oc, .slice ob m0 od, .int .i64 t0]) := VX
            have S6 := HSee.out _ BT6.out
            clear VX KX
            go_simp
            refine hK.out _ _ ?_ (fun hH => ?_)
            · try dsimp only
              exact S6
            clear hK K
            refine r1L 7 rfl fun K hK => ?_
            · have p70 := R5.out.cell (j := 0) rfl
              have f70 := R5.out.frozen 0
              have p71 := R5.out.cell (j := 1) rfl
              have f71 := R5.out.frozen 1
              have p72 := R5.out.cell (j := 2) rfl
              have f72 := R5.out.frozen 2
              have p73 := R5.out.cell (j := 3) rfl
              have f73 := R5.out.frozen 3
              have p74 := R5.out.cell (j := 4) rfl
              have f74 := R5.out.frozen 4
              have p75 := R5.out.cell (j := 5) rfl
              have f75 := R5.out.frozen 5
              obtain ⟨wv7, hw7, VX, KX⟩ := R5.out.whole6 (.int .i64 k) (.int .i64 at') (.int .i64 N) (.int .i64 id) (.string nm) (.slice xb xn xd)
              have BT7 : Hid (Below w1.heap.size w1 wv7) := Kept.belowOf BT6.out KX (by have g5 := HZ5.out; have g1 := HZ1.out; have g4 := HZ4.out; have g3 := HZ3.out; unfold Hid at g5 g1 g4 g3; omega)
              replace HO1 : Hid (rStaF.rd wv7 (fun q => s1 ≤ q ∧ q < e1) [.slice oa n0 oc, .slice ob m0 od, .int .i64 t0] s) := Rep.kept HO1.out KX (fun q hq hl => by have h1 := hq.1; have h2 := hq.2; have g5 := HZ5.out; have g1 := HZ1.out; have g4 := HZ4.out; have g3 := HZ3.out; unfold Hid at g5 g1 g4 g3; show q ≠ o5; omega)
              replace R4 : Hid (Row wv7 o4 31 [.slice oa n0 oc, .slice ob m0 od, .int .i64 t0]) := R4.out.keep (KX.block _ (by have g5 := HZ5.out; have g1 := HZ1.out; have g4 := HZ4.out; have g3 := HZ3.out; unfold Hid at g5 g1 g4 g3; show o4 ≠ o5; omega))
              replace HX3 : Hid (rFree.rd wv7 (fun q => s3 ≤ q ∧ q < e3) [.slice xb xn xd] dt) := Rep.kept HX3.out KX (fun q hq hl => by have h1 := hq.1; have h2 := hq.2; have g5 := HZ5.out; have g1 := HZ1.out; have g4 := HZ4.out; have g3 := HZ3.out; unfold Hid at g5 g1 g4 g3; show q ≠ o5; omega)
              replace R5 : Hid (Row wv7 o5 33 [.int .i64 k, .int .i64 at', .int .i64 N, .int .i64 id, .string nm, .slice xb xn xd]) := VX
              have S7 := HSee.out _ BT7.out
              clear VX KX
              go_simp
              refine hK.out _ _ ?_ (fun hH => ?_)
              · try dsimp only
                exact S7
              clear hK K
              refine wpAnyH_done (by kernel_rfl) ?_ _
              clear hH S0 S1 S3 S4 S5 S6 S7
              go_wp2_with fail
              go_meet
              exact ⟨o4, o5, oa, oc, ob, od, xb, xd, rfl, rfl, by have g5 := HZ5.out; have g1 := HZ1.out; have g4 := HZ4.out; have g3 := HZ3.out; unfold Hid at g5 g1 g4 g3; exact ⟨by omega, by omega, by omega⟩, R4, R5, rStaF.weaken HO1.out (fun q hq hl => by have h1 := hq.1; have h2 := hq.2; have g5 := HZ5.out; have g1 := HZ1.out; have g4 := HZ4.out; have g3 := HZ3.out; unfold Hid at g5 g1 g4 g3; exact ⟨by omega, by omega, by omega⟩), rFree.weaken HX3.out (fun q hq hl => by have h1 := hq.1; have h2 := hq.2; have g5 := HZ5.out; have g1 := HZ1.out; have g4 := HZ4.out; have g3 := HZ3.out; unfold Hid at g5 g1 g4 g3; exact ⟨by omega, by omega, by omega⟩), BT7⟩
      exact rnL
    refine rcL (fun K hK => ?_) ?_
    · go_simp
      obtain ⟨wn4, hw, vA, bA, zA⟩ := q0q wn5 31 [.slice none 0 0, .slice none 0 0, .int .i64 0]
      obtain ⟨o4, ho⟩ : ∃ o, o = wn5.heap.size := ⟨_, rfl⟩
      have HZ4 : Hid (o4 = wn5.heap.size ∧ wn4.heap.size = wn5.heap.size + 1 ∧ w1.heap.size ≤ wn5.heap.size) := ⟨ho, zA, BT5.out.size⟩
      have ho' : wn5.heap.size = o4 := ho.symm
      have bB : Below (wn5.drew).heap.size (wn5.drew) (wn4.drew) := q6j bA
      have BT4 : Hid _ := on BT5.out bB
      replace R5 : Hid (Row wn4.drew o5 33 [.int .i64 0, .int .i64 0, .int .i64 0, .int .i64 0, .string ⟨#[]⟩, .slice none 0 0]) := R5.out.below bB
      have R4 : Hid (Row (wn4.drew) o4 31 [.slice none 0 0, .slice none 0 0, .int .i64 0]) := by rw [ho]; exact vA.keep rfl
      have S4 := HSee.out _ BT4.out
      clear vA zA bA ho
      first | rw [hw, ho'] | (rw [hw]; try rw [ho'])
      clear bB
      go_simp
      refine hK.out _ _ ?_ (fun hH => ?_)
      · try dsimp only
        exact S4
      clear hK K
      refine r1L 1 rfl fun K hK => ?_
      · go_simp
        go_at_call 9
        refine Calls.mono (ofV (wn4.drew) _ a0 b0 n0 c0 m0 d0 t0 s (Rep.below Ds_1.out BT4.out)) ?_
        rintro e wv1 ⟨oa, oc, ob, od, rfl, hq1, bq1⟩
        obtain ⟨s1, hs⟩ : ∃ z, z = wn4.heap.size := ⟨_, rfl⟩
        obtain ⟨e1, he⟩ : ∃ z, z = wv1.heap.size := ⟨_, rfl⟩
        have HO1 : Hid (rStaF.rd wv1 (fun q => s1 ≤ q ∧ q < e1) [.slice oa n0 oc, .slice ob m0 od, .int .i64 t0] s) := rStaF.weaken hq1 (fun q hq hl => ⟨by have h : wn4.heap.size ≤ q := hq; omega, by omega⟩)
        have HZ1 : Hid (s1 = wn4.heap.size ∧ e1 = wv1.heap.size ∧ wn4.heap.size ≤ wv1.heap.size ∧ w1.heap.size ≤ wn4.heap.size) := ⟨hs, he, bq1.size, BT4.out.size⟩
        have BT1 : Hid _ := on BT4.out bq1
        replace R5 : Hid (Row wv1 o5 33 [.int .i64 0, .int .i64 0, .int .i64 0, .int .i64 0, .string ⟨#[]⟩, .slice none 0 0]) := R5.out.below bq1
        replace R4 : Hid (Row wv1 o4 31 [.slice none 0 0, .slice none 0 0, .int .i64 0]) := R4.out.below bq1
        have S1 := HSee.out _ BT1.out
        clear hq1 bq1 hs he
        go_simp
        refine hK.out _ _ ?_ (fun hH => ?_)
        · try dsimp only
          exact S1
        clear hK K
        refine r1L 3 rfl fun K hK => ?_
        · go_simp
          go_at_call 10
          refine Calls.mono (q3Q (wv1) _ k at' N id nm dt xa xn xc (Rep.below Yx_1.out BT1.out)) ?_
          rintro e wv3 ⟨xb, xd, rfl, hq3, bq3⟩
          obtain ⟨s3, hs⟩ : ∃ z, z = wv1.heap.size := ⟨_, rfl⟩
          obtain ⟨e3, he⟩ : ∃ z, z = wv3.heap.size := ⟨_, rfl⟩
          have HX3 : Hid (rFree.rd wv3 (fun q => s3 ≤ q ∧ q < e3) [.slice xb xn xd] dt) := rFree.weaken hq3 (fun q hq hl => ⟨by have h : wv1.heap.size ≤ q := hq; omega, by omega⟩)
          have HZ3 : Hid (s3 = wv1.heap.size ∧ e3 = wv3.heap.size ∧ wv1.heap.size ≤ wv3.heap.size ∧ w1.heap.size ≤ wv1.heap.size) := ⟨hs, he, bq3.size, BT1.out.size⟩
          have BT3 : Hid _ := on BT1.out bq3
          replace R5 : Hid (Row wv3 o5 33 [.int .i64 0, .int .i64 0, .int .i64 0, .int .i64 0, .string ⟨#[]⟩, .slice none 0 0]) := R5.out.below bq3
          replace R4 : Hid (Row wv3 o4 31 [.slice none 0 0, .slice none 0 0, .int .i64 0]) := R4.out.below bq3
          replace HO1 : Hid (rStaF.rd wv3 (fun q => s1 ≤ q ∧ q < e1) [.slice oa n0 oc, .slice ob m0 od, .int .i64 t0] s) := Rep.below HO1.out bq3
          have S3 := HSee.out _ BT3.out
          clear hq3 bq3 hs he
          go_simp
          refine hK.out _ _ ?_ (fun hH => ?_)
          · try dsimp only
            exact S3
          clear hK K
          refine r1L 6 rfl fun K hK => ?_
          · have p60 := R4.out.cell (j := 0) rfl
            have f60 := R4.out.frozen 0
            have p61 := R4.out.cell (j := 1) rfl
            have f61 := R4.out.frozen 1
            have p62 := R4.out.cell (j := 2) rfl
            have f62 := R4.out.frozen 2
            obtain ⟨wv6, hw6, VX, KX⟩ := R4.out.whole3 (.slice oa n0 oc) (.slice ob m0 od) (.int .i64 t0)
            have BT6 : Hid (Below w1.heap.size w1 wv6) := Kept.belowOf BT3.out KX (by have g5 := HZ5.out; have g4 := HZ4.out; have g1 := HZ1.out; have g3 := HZ3.out; unfold Hid at g5 g4 g1 g3; omega)
            replace R5 : Hid (Row wv6 o5 33 [.int .i64 0, .int .i64 0, .int .i64 0, .int .i64 0, .string ⟨#[]⟩, .slice none 0 0]) := R5.out.keep (KX.block _ (by have g5 := HZ5.out; have g4 := HZ4.out; have g1 := HZ1.out; have g3 := HZ3.out; unfold Hid at g5 g4 g1 g3; show o5 ≠ o4; omega))
            replace HO1 : Hid (rStaF.rd wv6 (fun q => s1 ≤ q ∧ q < e1) [.slice oa n0 oc, .slice ob m0 od, .int .i64 t0] s) := Rep.kept HO1.out KX (fun q hq hl => by have h1 := hq.1; have h2 := hq.2; have g5 := HZ5.out; have g4 := HZ4.out; have g1 := HZ1.out; have g3 := HZ3.out; unfold Hid at g5 g4 g1 g3; show q ≠ o4; omega)
            replace HX3 : Hid (rFree.rd wv6 (fun q => s3 ≤ q ∧ q < e3) [.slice xb xn xd] dt) := Rep.kept HX3.out KX (fun q hq hl => by have h1 := hq.1; have h2 := hq.2; have g5 := HZ5.out; have g4 := HZ4.out; have g1 := HZ1.out; have g3 := HZ3.out; unfold Hid at g5 g4 g1 g3; show q ≠ o4; omega)
            replace R4 : Hid (Row wv6 o4 31 [.slice oa n0 oc, .slice ob m0 od, .int .i64 t0]) := VX
            have S6 := HSee.out _ BT6.out
            clear VX KX
            go_simp
            refine hK.out _ _ ?_ (fun hH => ?_)
            · try dsimp only
              exact S6
            clear hK K
            refine r1L 7 rfl fun K hK => ?_
            · have p70 := R5.out.cell (j := 0) rfl
              have f70 := R5.out.frozen 0
              have p71 := R5.out.cell (j := 1) rfl
              have f71 := R5.out.frozen 1
              have p72 := R5.out.cell (j := 2) rfl
              have f72 := R5.out.frozen 2
              have p73 := R5.out.cell (j := 3) rfl
              have f73 := R5.out.frozen 3
              have p74 := R5.out.cell (j := 4) rfl
              have f74 := R5.out.frozen 4
              have p75 := R5.out.cell (j := 5) rfl
              have f75 := R5.out.frozen 5
              obtain ⟨wv7, hw7, VX, KX⟩ := R5.out.whole6 (.int .i64 k) (.int .i64 at') (.int .i64 N) (.int .i64 id) (.string nm) (.slice xb xn xd)
              have BT7 : Hid (Below w1.heap.size w1 wv7) := Kept.belowOf BT6.out KX (by have g5 := HZ5.out; have g4 := HZ4.out; have g1 := HZ1.out; have g3 := HZ3.out; unfold Hid at g5 g4 g1 g3; omega)
              replace R4 : Hid (Row wv7 o4 31 [.slice oa n0 oc, .slice ob m0 od, .int .i64 t0]) := R4.out.keep (KX.block _ (by have g5 := HZ5.out; have g4 := HZ4.out; have g1 := HZ1.out; have g3 := HZ3.out; unfold Hid at g5 g4 g1 g3; show o4 ≠ o5; omega))
              replace HO1 : Hid (rStaF.rd wv7 (fun q => s1 ≤ q ∧ q < e1) [.slice oa n0 oc, .slice ob m0 od, .int .i64 t0] s) := Rep.kept HO1.out KX (fun q hq hl => by have h1 := hq.1; have h2 := hq.2; have g5 := HZ5.out; have g4 := HZ4.out; have g1 := HZ1.out; have g3 := HZ3.out; unfold Hid at g5 g4 g1 g3; show q ≠ o5; omega)
              replace HX3 : Hid (rFree.rd wv7 (fun q => s3 ≤ q ∧ q < e3) [.slice xb xn xd] dt) := Rep.kept HX3.out KX (fun q hq hl => by have h1 := hq.1; have h2 := hq.2; have g5 := HZ5.out; have g4 := HZ4.out; have g1 := HZ1.out; have g3 := HZ3.out; unfold Hid at g5 g4 g1 g3; show q ≠ o5; omega)
              replace R5 : Hid (Row wv7 o5 33 [.int .i64 k, .int .i64 at', .int .i64 N, .int .i64 id, .string nm, .slice xb xn xd]) := VX
              have S7 := HSee.out _ BT7.out
              clear VX KX
              go_simp
              refine hK.out _ _ ?_ (fun hH => ?_)
              · try dsimp only
                exact S7
              clear hK K
              refine wpAnyH_done (by kernel_rfl) ?_ _
              clear hH S0 S1 S3 S4 S5 S6 S7
              go_wp2_with fail
              go_meet
              exact ⟨o4, o5, oa, oc, ob, od, xb, xd, rfl, rfl, by have g5 := HZ5.out; have g4 := HZ4.out; have g1 := HZ1.out; have g3 := HZ3.out; unfold Hid at g5 g4 g1 g3; exact ⟨by omega, by omega, by omega⟩, R4, R5, rStaF.weaken HO1.out (fun q hq hl => by have h1 := hq.1; have h2 := hq.2; have g5 := HZ5.out; have g4 := HZ4.out; have g1 := HZ1.out; have g3 := HZ3.out; unfold Hid at g5 g4 g1 g3; exact ⟨by omega, by omega, by omega⟩), rFree.weaken HX3.out (fun q hq hl => by have h1 := hq.1; have h2 := hq.2; have g5 := HZ5.out; have g4 := HZ4.out; have g1 := HZ1.out; have g3 := HZ3.out; unfold Hid at g5 g4 g1 g3; exact ⟨by omega, by omega, by omega⟩), BT7⟩
    exact rnL
  exact rnL
 clear S0 HSee
 case rest =>
  obtain ⟨o4, o5, oa, oc, ob, od, xb, xd, rfl, rfl, HOO, RO, RI, FO, GI, BX⟩ := hcut
  obtain ⟨w2, hw2⟩ : ∃ v, v = wc := ⟨_, rfl⟩
  subst hw2
  have Rs_2 : Hid _ := Rs_1.out.below (BX.out)
  have Rx_2 : Hid _ := Rx_1.out.below (BX.out)
  have Ds_2 : Hid (rSta.rd w2 (fun b => b < W.heap.size) [.slice a0 n0 c0, .slice b0 m0 d0, .int .i64 t0] (s)) := Rep.below Ds_1.out (BX.out)
  have Yx_2 : Hid (rBytes.rd w2 (fun b => b < W.heap.size) [.slice xa xn xc] (dt)) := Rep.below Yx_1.out (BX.out)
  have B_2 : Hid _ := on B_1.out (BX.out)
  clear Rs_1 Rx_1 Ds_1 Yx_1
  have Ro_2 : Hid _ := RO
  have Ri_2 : Hid _ := RI
  have Fo_2 : Hid (rStaF.rd w2 (fun q => w1.heap.size ≤ q ∧ q ≠ o4 ∧ q ≠ o5) [.slice oa n0 oc, .slice ob m0 od, .int .i64 t0] (s)) := FO
  have Gi_2 : Hid (rFree.rd w2 (fun q => w1.heap.size ≤ q ∧ q ≠ o4 ∧ q ≠ o5) [.slice xb xn xd] (dt)) := GI
  have Do_2 : Hid (rSta.rd w2 (fun _ => True) [.slice oa n0 oc, .slice ob m0 od, .int .i64 t0] (s)) := rSta.weaken (staF_sta FO.out) (fun _ _ _ => trivial)
  clear RO RI FO GI BX
  have qo0 := Ro_2.out.cell (j := 0) rfl
  have qo1 := Ro_2.out.cell (j := 1) rfl
  have qo2 := Ro_2.out.cell (j := 2) rfl
  have qi0 := Ri_2.out.cell (j := 0) rfl
  have qi1 := Ri_2.out.cell (j := 1) rfl
  have qi2 := Ri_2.out.cell (j := 2) rfl
  have qi3 := Ri_2.out.cell (j := 3) rfl
  have qi4 := Ri_2.out.cell (j := 4) rfl
  have qi5 := Ri_2.out.cell (j := 5) rfl
  go_wp2_with fail
  go_at_call 11
  refine Calls.mono (do_v w2 _ oa ob n0 oc m0 od t0 s Do_2.out k at' N id nm dt xb xn xd HIx.out.1 HIx.out.2.1 HIx.out.2.2.1 HIx.out.2.2.2.1 HIx.out.2.2.2.2 (P' := fun _ => True) (rBytes.weaken Gi_2.out.1 (fun _ _ _ => trivial))) ?_
  rintro e w3 ⟨aa, na, ca, ba, ma, da, ta, xr, yr, zr, fr, gr, hr, rfl, hd3, hy3, hn3, bb3⟩
  obtain ⟨Er, hEr⟩ : ∃ z, z = (Mo.doR s (k, at', N, id, nm, dt)).1 := ⟨_, rfl⟩
  obtain ⟨Ir, hIr⟩ : ∃ z, z = (Mo.doR s (k, at', N, id, nm, dt)).2.2.1 := ⟨_, rfl⟩
  obtain ⟨Zr, hZr⟩ : ∃ z, z = (Mo.doR s (k, at', N, id, nm, dt)).2.2.2.2 := ⟨_, rfl⟩
  rw [← hEr, ← hIr, ← hZr]
  have HEr : Hid _ := hEr
  have HIr : Hid _ := hIr
  have HZr : Hid _ := hZr
  clear hEr hIr hZr
  have Da_3 : Hid (rSta.rd w3 (fun b => w2.heap.size ≤ b ∧ b < w3.heap.size) [.slice aa na ca, .slice ba ma da, .int .i64 ta] (Mo.doS s (k, at', N, id, nm, dt))) := rSta.weaken hd3 (fun q hq hl => ⟨hq, hl⟩)
  have Yr_3 : Hid (rBytes.rd w3 (fun b => w2.heap.size ≤ b) [.slice xr yr zr] ((Mo.doR s (k, at', N, id, nm, dt)).2.1)) := hy3
  have Nr_3 : Hid (rNmds.rd w3 (fun b => w2.heap.size ≤ b) [.slice fr gr hr] ((Mo.doR s (k, at', N, id, nm, dt)).2.2.2.1)) := hn3
  have Rs_3 : Hid _ := Rs_2.out.below (bb3)
  have Rx_3 : Hid _ := Rx_2.out.below (bb3)
  have Ds_3 : Hid (rSta.rd w3 (fun b => b < W.heap.size) [.slice a0 n0 c0, .slice b0 m0 d0, .int .i64 t0] (s)) := Rep.below Ds_2.out (bb3)
  have Yx_3 : Hid (rBytes.rd w3 (fun b => b < W.heap.size) [.slice xa xn xc] (dt)) := Rep.below Yx_2.out (bb3)
  have Ro_3 : Hid _ := Ro_2.out.below (bb3)
  have Ri_3 : Hid _ := Ri_2.out.below (bb3)
  have Fo_3 : Hid (rStaF.rd w3 (fun q => w1.heap.size ≤ q ∧ q ≠ o4 ∧ q ≠ o5) [.slice oa n0 oc, .slice ob m0 od, .int .i64 t0] (s)) := Rep.below Fo_2.out (bb3)
  have Gi_3 : Hid (rFree.rd w3 (fun q => w1.heap.size ≤ q ∧ q ≠ o4 ∧ q ≠ o5) [.slice xb xn xd] (dt)) := Rep.below Gi_2.out (bb3)
  have Do_3 : Hid (rSta.rd w3 (fun _ => True) [.slice oa n0 oc, .slice ob m0 od, .int .i64 t0] (s)) := Rep.below Do_2.out (bb3)
  have B_3 : Hid _ := on B_2.out (bb3)
  clear qo0 qo1 qo2 qi0 qi1 qi2 qi3 qi4 qi5
  clear Rs_2 Rx_2 Ds_2 Yx_2 Ro_2 Ri_2 Fo_2 Gi_2 Do_2
  have HLT3 : Hid (W.heap.size < w3.heap.size) := Rs_3.out.lt
  clear hd3 hy3 hn3 bb3
  obtain ⟨wA4, wB4, wX4, w4, hA4, hB4, va, hX4, vr, hY4, vs, vt, k4, hl4⟩ := fresh2 w3 (.slice aa na ca) (.slice ba ma da) (.int .i64 ta) (.int .i64 Er) (.slice xr yr zr) (.int .i64 Ir) (.slice fr gr hr) (.int .i64 Zr)
  have Ra_4 : Hid _ := vs
  have Rr_4 : Hid _ := vt
  have Rs_4 : Hid _ := Rs_3.out.below (k4)
  have Rx_4 : Hid _ := Rx_3.out.below (k4)
  have Ds_4 : Hid (rSta.rd w4 (fun b => b < W.heap.size) [.slice a0 n0 c0, .slice b0 m0 d0, .int .i64 t0] (s)) := Rep.below Ds_3.out (k4)
  have Yx_4 : Hid (rBytes.rd w4 (fun b => b < W.heap.size) [.slice xa xn xc] (dt)) := Rep.below Yx_3.out (k4)
  have Ro_4 : Hid _ := Ro_3.out.below (k4)
  have Ri_4 : Hid _ := Ri_3.out.below (k4)
  have Fo_4 : Hid (rStaF.rd w4 (fun q => w1.heap.size ≤ q ∧ q ≠ o4 ∧ q ≠ o5) [.slice oa n0 oc, .slice ob m0 od, .int .i64 t0] (s)) := Rep.below Fo_3.out (k4)
  have Gi_4 : Hid (rFree.rd w4 (fun q => w1.heap.size ≤ q ∧ q ≠ o4 ∧ q ≠ o5) [.slice xb xn xd] (dt)) := Rep.below Gi_3.out (k4)
  have Do_4 : Hid (rSta.rd w4 (fun _ => True) [.slice oa n0 oc, .slice ob m0 od, .int .i64 t0] (s)) := Rep.below Do_3.out (k4)
  have Da_4 : Hid (rSta.rd w4 (fun b => w2.heap.size ≤ b ∧ b < w3.heap.size) [.slice aa na ca, .slice ba ma da, .int .i64 ta] (Mo.doS s (k, at', N, id, nm, dt))) := Rep.below Da_3.out (k4)
  have Yr_4 : Hid (rBytes.rd w4 (fun b => w2.heap.size ≤ b) [.slice xr yr zr] ((Mo.doR s (k, at', N, id, nm, dt)).2.1)) := Rep.below Yr_3.out (k4)
  have Nr_4 : Hid (rNmds.rd w4 (fun b => w2.heap.size ≤ b) [.slice fr gr hr] ((Mo.doR s (k, at', N, id, nm, dt)).2.2.2.1)) := Rep.below Nr_3.out (k4)
  have B_4 : Hid _ := on B_3.out (k4)
  clear Rs_3 Rx_3 Ds_3 Yx_3 Ro_3 Ri_3 Fo_3 Gi_3 Do_3 Da_3 Yr_3 Nr_3
  have p4_0 := va.cell (j := 0) rfl
  have r4_0 := va.frozen 0
  have p4_1 := va.cell (j := 1) rfl
  have r4_1 := va.frozen 1
  have p4_2 := va.cell (j := 2) rfl
  have r4_2 := va.frozen 2
  have s4_0 := vr.cell (j := 0) rfl
  have u4_0 := vr.frozen 0
  have s4_1 := vr.cell (j := 1) rfl
  have u4_1 := vr.frozen 1
  have s4_2 := vr.cell (j := 2) rfl
  have u4_2 := vr.frozen 2
  have s4_3 := vr.cell (j := 3) rfl
  have u4_3 := vr.frozen 3
  have s4_4 := vr.cell (j := 4) rfl
  have u4_4 := vr.frozen 4
  have HL4 : Hid _ := hl4
  clear va vr vs vt k4 hl4
  have qs0 := Rs_4.out.cell (j := 0) rfl
  have qs1 := Rs_4.out.cell (j := 1) rfl
  have qs2 := Rs_4.out.cell (j := 2) rfl
  have qx0 := Rx_4.out.cell (j := 0) rfl
  have qx1 := Rx_4.out.cell (j := 1) rfl
  have qx2 := Rx_4.out.cell (j := 2) rfl
  have qx3 := Rx_4.out.cell (j := 3) rfl
  have qx4 := Rx_4.out.cell (j := 4) rfl
  have qx5 := Rx_4.out.cell (j := 5) rfl
  have hdd := docDo_u w4 _ _ a0 b0 n0 c0 m0 d0 t0 s Ds_4.out (k, at', N, id, nm, dt) xa xn xc (rOpn.of HIx.out.1 HIx.out.2.1 HIx.out.2.2.1 HIx.out.2.2.2.1 HIx.out.2.2.2.2 Yx_4.out)
  dsimp only at hdd
  go_wp2_with fail
  go_at_call 12
  refine Calls.mono (hdd) ?_
  rintro e w5 ⟨ab, nb, cb, bb, mb, db, tb, xq, yq, zq, fq, gq, hq9, rfl, hd5, hy5, hn5, bb5⟩
  obtain ⟨Eq, hEq⟩ : ∃ z, z = (Mo.doR s (k, at', N, id, nm, dt)).1 := ⟨_, rfl⟩
  obtain ⟨Iq, hIq⟩ : ∃ z, z = (Mo.doR s (k, at', N, id, nm, dt)).2.2.1 := ⟨_, rfl⟩
  obtain ⟨Zq, hZq⟩ : ∃ z, z = (Mo.doR s (k, at', N, id, nm, dt)).2.2.2.2 := ⟨_, rfl⟩
  rw [← hEq, ← hIq, ← hZq]
  have HEq : Hid _ := hEq
  have HIq : Hid _ := hIq
  have HZq : Hid _ := hZq
  clear hEq hIq hZq hdd
  have Db_5 : Hid (rSta.rd w5 (fun b => w4.heap.size ≤ b ∧ b < w5.heap.size) [.slice ab nb cb, .slice bb mb db, .int .i64 tb] (Mo.doS s (k, at', N, id, nm, dt))) := rSta.weaken hd5 (fun q hq hl => ⟨hq, hl⟩)
  have Yq_5 : Hid (rBytes.rd w5 (fun b => w4.heap.size ≤ b ∧ b < w5.heap.size) [.slice xq yq zq] ((Mo.doR s (k, at', N, id, nm, dt)).2.1)) := rBytes.weaken hy5 (fun q hq hl => ⟨hq, hl⟩)
  have Nq_5 : Hid (rNmds.rd w5 (fun b => w4.heap.size ≤ b ∧ b < w5.heap.size) [.slice fq gq hq9] ((Mo.doR s (k, at', N, id, nm, dt)).2.2.2.1)) := rNmds.weaken hn5 (fun q hq hl => ⟨hq, hl⟩)
  have Rs_5 : Hid _ := Rs_4.out.below (bb5)
  have Rx_5 : Hid _ := Rx_4.out.below (bb5)
  have Ds_5 : Hid (rSta.rd w5 (fun b => b < W.heap.size) [.slice a0 n0 c0, .slice b0 m0 d0, .int .i64 t0] (s)) := Rep.below Ds_4.out (bb5)
  have Yx_5 : Hid (rBytes.rd w5 (fun b => b < W.heap.size) [.slice xa xn xc] (dt)) := Rep.below Yx_4.out (bb5)
  have Ro_5 : Hid _ := Ro_4.out.below (bb5)
  have Ri_5 : Hid _ := Ri_4.out.below (bb5)
  have Fo_5 : Hid (rStaF.rd w5 (fun q => w1.heap.size ≤ q ∧ q ≠ o4 ∧ q ≠ o5) [.slice oa n0 oc, .slice ob m0 od, .int .i64 t0] (s)) := Rep.below Fo_4.out (bb5)
  have Gi_5 : Hid (rFree.rd w5 (fun q => w1.heap.size ≤ q ∧ q ≠ o4 ∧ q ≠ o5) [.slice xb xn xd] (dt)) := Rep.below Gi_4.out (bb5)
  have Do_5 : Hid (rSta.rd w5 (fun _ => True) [.slice oa n0 oc, .slice ob m0 od, .int .i64 t0] (s)) := Rep.below Do_4.out (bb5)
  have Da_5 : Hid (rSta.rd w5 (fun b => w2.heap.size ≤ b ∧ b < w3.heap.size) [.slice aa na ca, .slice ba ma da, .int .i64 ta] (Mo.doS s (k, at', N, id, nm, dt))) := Rep.below Da_4.out (bb5)
  have Yr_5 : Hid (rBytes.rd w5 (fun b => w2.heap.size ≤ b) [.slice xr yr zr] ((Mo.doR s (k, at', N, id, nm, dt)).2.1)) := Rep.below Yr_4.out (bb5)
  have Nr_5 : Hid (rNmds.rd w5 (fun b => w2.heap.size ≤ b) [.slice fr gr hr] ((Mo.doR s (k, at', N, id, nm, dt)).2.2.2.1)) := Rep.below Nr_4.out (bb5)
  have Ra_5 : Hid _ := Ra_4.out.below (bb5)
  have Rr_5 : Hid _ := Rr_4.out.below (bb5)
  have B_5 : Hid _ := on B_4.out (bb5)
  clear p4_0 r4_0 p4_1 r4_1 p4_2 r4_2 s4_0 u4_0 s4_1 u4_1 s4_2 u4_2 s4_3 u4_3 s4_4 u4_4 hA4 hB4 hX4 hY4 qs0 qs1 qs2 qx0 qx1 qx2 qx3 qx4 qx5
  clear Rs_4 Rx_4 Ds_4 Yx_4 Ro_4 Ri_4 Fo_4 Gi_4 Do_4 Da_4 Yr_4 Nr_4 Ra_4 Rr_4
  clear hd5 hy5 hn5 bb5
  obtain ⟨wA6, wB6, wX6, w6, hA6, hB6, va9, hX6, vr, hY6, vs, vt, k6, hl6⟩ := fresh2D w5 (.slice ab nb cb) (.slice bb mb db) (.int .i64 tb) (.int .i64 Eq) (.slice xq yq zq) (.int .i64 Iq) (.slice fq gq hq9) (.int .i64 Zq)
  have Rb_6 : Hid _ := vs
  have Rq_6 : Hid _ := vt
  have Rs_6 : Hid _ := Rs_5.out.below (k6)
  have Rx_6 : Hid _ := Rx_5.out.below (k6)
  have Ds_6 : Hid (rSta.rd w6 (fun b => b < W.heap.size) [.slice a0 n0 c0, .slice b0 m0 d0, .int .i64 t0] (s)) := Rep.below Ds_5.out (k6)
  have Yx_6 : Hid (rBytes.rd w6 (fun b => b < W.heap.size) [.slice xa xn xc] (dt)) := Rep.below Yx_5.out (k6)
  have Ro_6 : Hid _ := Ro_5.out.below (k6)
  have Ri_6 : Hid _ := Ri_5.out.below (k6)
  have Fo_6 : Hid (rStaF.rd w6 (fun q => w1.heap.size ≤ q ∧ q ≠ o4 ∧ q ≠ o5) [.slice oa n0 oc, .slice ob m0 od, .int .i64 t0] (s)) := Rep.below Fo_5.out (k6)
  have Gi_6 : Hid (rFree.rd w6 (fun q => w1.heap.size ≤ q ∧ q ≠ o4 ∧ q ≠ o5) [.slice xb xn xd] (dt)) := Rep.below Gi_5.out (k6)
  have Do_6 : Hid (rSta.rd w6 (fun _ => True) [.slice oa n0 oc, .slice ob m0 od, .int .i64 t0] (s)) := Rep.below Do_5.out (k6)
  have Da_6 : Hid (rSta.rd w6 (fun b => w2.heap.size ≤ b ∧ b < w3.heap.size) [.slice aa na ca, .slice ba ma da, .int .i64 ta] (Mo.doS s (k, at', N, id, nm, dt))) := Rep.below Da_5.out (k6)
  have Yr_6 : Hid (rBytes.rd w6 (fun b => w2.heap.size ≤ b) [.slice xr yr zr] ((Mo.doR s (k, at', N, id, nm, dt)).2.1)) := Rep.below Yr_5.out (k6)
  have Nr_6 : Hid (rNmds.rd w6 (fun b => w2.heap.size ≤ b) [.slice fr gr hr] ((Mo.doR s (k, at', N, id, nm, dt)).2.2.2.1)) := Rep.below Nr_5.out (k6)
  have Ra_6 : Hid _ := Ra_5.out.below (k6)
  have Rr_6 : Hid _ := Rr_5.out.below (k6)
  have Db_6 : Hid (rSta.rd w6 (fun b => w4.heap.size ≤ b ∧ b < w5.heap.size) [.slice ab nb cb, .slice bb mb db, .int .i64 tb] (Mo.doS s (k, at', N, id, nm, dt))) := Rep.below Db_5.out (k6)
  have Yq_6 : Hid (rBytes.rd w6 (fun b => w4.heap.size ≤ b ∧ b < w5.heap.size) [.slice xq yq zq] ((Mo.doR s (k, at', N, id, nm, dt)).2.1)) := Rep.below Yq_5.out (k6)
  have Nq_6 : Hid (rNmds.rd w6 (fun b => w4.heap.size ≤ b ∧ b < w5.heap.size) [.slice fq gq hq9] ((Mo.doR s (k, at', N, id, nm, dt)).2.2.2.1)) := Rep.below Nq_5.out (k6)
  have B_6 : Hid _ := on B_5.out (k6)
  clear Rs_5 Rx_5 Ds_5 Yx_5 Ro_5 Ri_5 Fo_5 Gi_5 Do_5 Da_5 Yr_5 Nr_5 Ra_5 Rr_5 Db_5 Yq_5 Nq_5
  have p6_0 := va9.cell (j := 0) rfl
  have r6_0 := va9.frozen 0
  have p6_1 := va9.cell (j := 1) rfl
  have r6_1 := va9.frozen 1
  have p6_2 := va9.cell (j := 2) rfl
  have r6_2 := va9.frozen 2
  have s6_0 := vr.cell (j := 0) rfl
  have u6_0 := vr.frozen 0
  have s6_1 := vr.cell (j := 1) rfl
  have u6_1 := vr.frozen 1
  have s6_2 := vr.cell (j := 2) rfl
  have u6_2 := vr.frozen 2
  have s6_3 := vr.cell (j := 3) rfl
  have u6_3 := vr.frozen 3
  have s6_4 := vr.cell (j := 4) rfl
  have u6_4 := vr.frozen 4
  have HL6 : Hid _ := hl6
  clear va9 vr vs vt k6 hl6
  have hEE : Eq = Er := HEq.out.trans HEr.out.symm
  have hII : Iq = Ir := HIq.out.trans HIr.out.symm
  have hZZ : Zq = Zr := HZq.out.trans HZr.out.symm
  have HEE : Hid _ := hEE
  have HII : Hid _ := hII
  have HZZ : Hid _ := hZZ
  clear hEE hII hZZ
  go_wp2_with fail
  clear p6_0 r6_0 p6_1 r6_1 p6_2 r6_2 s6_0 u6_0 s6_1 u6_1 s6_2 u6_2 s6_3 u6_3 s6_4 u6_4 hA6 hB6 hX6 hY6
  have HSee : Hid (∀ w', Below w6.heap.size w6 w' → w'.cell? ⟨w3.heap.size, 0, none⟩ = some (.slice aa na ca) ∧ w'.cell? ⟨w3.heap.size, 1, none⟩ = some (.slice ba ma da) ∧ w'.cell? ⟨w3.heap.size, 2, none⟩ = some (.int .i64 ta) ∧ w'.cell? ⟨w5.heap.size, 0, none⟩ = some (.slice ab nb cb) ∧ w'.cell? ⟨w5.heap.size, 1, none⟩ = some (.slice bb mb db) ∧ w'.cell? ⟨w5.heap.size, 2, none⟩ = some (.int .i64 tb) ∧ w'.cell? ⟨wA4.heap.size, 0, none⟩ = some (.int .i64 Er) ∧ w'.cell? ⟨wA4.heap.size, 1, none⟩ = some (.slice xr yr zr) ∧ w'.cell? ⟨wA4.heap.size, 2, none⟩ = some (.int .i64 Ir) ∧ w'.cell? ⟨wA4.heap.size, 3, none⟩ = some (.slice fr gr hr) ∧ w'.cell? ⟨wA4.heap.size, 4, none⟩ = some (.int .i64 Zr) ∧ w'.cell? ⟨wA6.heap.size, 0, none⟩ = some (.int .i64 Eq) ∧ w'.cell? ⟨wA6.heap.size, 1, none⟩ = some (.slice xq yq zq) ∧ w'.cell? ⟨wA6.heap.size, 2, none⟩ = some (.int .i64 Iq) ∧ w'.cell? ⟨wA6.heap.size, 3, none⟩ = some (.slice fq gq hq9) ∧ w'.cell? ⟨wA6.heap.size, 4, none⟩ = some (.int .i64 Zq) ∧ w'.cell? ⟨o4, 0, none⟩ = some (.slice oa n0 oc) ∧ w'.cell? ⟨o4, 1, none⟩ = some (.slice ob m0 od) ∧ w'.cell? ⟨o4, 2, none⟩ = some (.int .i64 t0) ∧ w'.cell? ⟨W.heap.size, 0, none⟩ = some (.slice a0 n0 c0) ∧ w'.cell? ⟨W.heap.size, 1, none⟩ = some (.slice b0 m0 d0) ∧ w'.cell? ⟨W.heap.size, 2, none⟩ = some (.int .i64 t0) ∧ w'.cell? ⟨o5, 5, none⟩ = some (.slice xb xn xd) ∧ w'.cell? ⟨w0.heap.size, 5, none⟩ = some (.slice xa xn xc)) := fun w' hb => ⟨(Ra_6.out.below hb).cell (j := 0) rfl, (Ra_6.out.below hb).cell (j := 1) rfl, (Ra_6.out.below hb).cell (j := 2) rfl, (Rb_6.out.below hb).cell (j := 0) rfl, (Rb_6.out.below hb).cell (j := 1) rfl, (Rb_6.out.below hb).cell (j := 2) rfl, (Rr_6.out.below hb).cell (j := 0) rfl, (Rr_6.out.below hb).cell (j := 1) rfl, (Rr_6.out.below hb).cell (j := 2) rfl, (Rr_6.out.below hb).cell (j := 3) rfl, (Rr_6.out.below hb).cell (j := 4) rfl, (Rq_6.out.below hb).cell (j := 0) rfl, (Rq_6.out.below hb).cell (j := 1) rfl, (Rq_6.out.below hb).cell (j := 2) rfl, (Rq_6.out.below hb).cell (j := 3) rfl, (Rq_6.out.below hb).cell (j := 4) rfl, (Ro_6.out.below hb).cell (j := 0) rfl, (Ro_6.out.below hb).cell (j := 1) rfl, (Ro_6.out.below hb).cell (j := 2) rfl, (Rs_6.out.below hb).cell (j := 0) rfl, (Rs_6.out.below hb).cell (j := 1) rfl, (Rs_6.out.below hb).cell (j := 2) rfl, (Ri_6.out.below hb).cell (j := 5) rfl, (Rx_6.out.below hb).cell (j := 5) rfl⟩
  have S0 := HSee.out _ (Below.refl _ w6).drew
  have hck : (Mo.checkE s == Mo.checkE s) = true := beq_self_eq_true _
  have hdd : (dt == dt) = true := beq_self_eq_true _
  refine wp_region_held_drew (S := (fun w' : World => w'.cell? ⟨w3.heap.size, 0, none⟩ = some (.slice aa na ca) ∧ w'.cell? ⟨w3.heap.size, 1, none⟩ = some (.slice ba ma da) ∧ w'.cell? ⟨w3.heap.size, 2, none⟩ = some (.int .i64 ta) ∧ w'.cell? ⟨w5.heap.size, 0, none⟩ = some (.slice ab nb cb) ∧ w'.cell? ⟨w5.heap.size, 1, none⟩ = some (.slice bb mb db) ∧ w'.cell? ⟨w5.heap.size, 2, none⟩ = some (.int .i64 tb) ∧ w'.cell? ⟨wA4.heap.size, 0, none⟩ = some (.int .i64 Er) ∧ w'.cell? ⟨wA4.heap.size, 1, none⟩ = some (.slice xr yr zr) ∧ w'.cell? ⟨wA4.heap.size, 2, none⟩ = some (.int .i64 Ir) ∧ w'.cell? ⟨wA4.heap.size, 3, none⟩ = some (.slice fr gr hr) ∧ w'.cell? ⟨wA4.heap.size, 4, none⟩ = some (.int .i64 Zr) ∧ w'.cell? ⟨wA6.heap.size, 0, none⟩ = some (.int .i64 Eq) ∧ w'.cell? ⟨wA6.heap.size, 1, none⟩ = some (.slice xq yq zq) ∧ w'.cell? ⟨wA6.heap.size, 2, none⟩ = some (.int .i64 Iq) ∧ w'.cell? ⟨wA6.heap.size, 3, none⟩ = some (.slice fq gq hq9) ∧ w'.cell? ⟨wA6.heap.size, 4, none⟩ = some (.int .i64 Zq) ∧ w'.cell? ⟨o4, 0, none⟩ = some (.slice oa n0 oc) ∧ w'.cell? ⟨o4, 1, none⟩ = some (.slice ob m0 od) ∧ w'.cell? ⟨o4, 2, none⟩ = some (.int .i64 t0) ∧ w'.cell? ⟨W.heap.size, 0, none⟩ = some (.slice a0 n0 c0) ∧ w'.cell? ⟨W.heap.size, 1, none⟩ = some (.slice b0 m0 d0) ∧ w'.cell? ⟨W.heap.size, 2, none⟩ = some (.int .i64 t0) ∧ w'.cell? ⟨o5, 5, none⟩ = some (.slice xb xn xd) ∧ w'.cell? ⟨w0.heap.size, 5, none⟩ = some (.slice xa xn xc))) (by kernel_rfl) (S0) (fun hH => ?_)
  refine tkM 0 _ rfl rfl ?_; simp only [sz, ss]
  refine tkM 1 _ rfl rfl ?_; simp only [sz, ss]
  refine r1L 2 rfl fun K hK => ?_
  · go_simp
    go_at_call 13
    refine Calls.mono (qBZ (w6.drew) _ _ [.slice aa na ca, .slice ba ma da, .int .i64 ta] [.slice ab nb cb, .slice bb mb db, .int .i64 tb] (Mo.doS s (k, at', N, id, nm, dt)) (rSta.keep Da_6.out (fun _ _ _ => rfl)) (rSta.keep Db_6.out (fun _ _ _ => rfl))) ?_
    rintro e wc2 ⟨rfl, bq⟩
    have BT2 : Hid (Below w6.heap.size w6 wc2) := ((Below.refl _ w6).drew).trans bq
    have S2 := HSee.out _ BT2.out
    clear bq
    go_simp
    refine hK.out _ _ ?_ (fun hH => ?_)
    · try dsimp only
      exact S2
    clear hK K
    refine tkM 3 _ rfl rfl ?_; simp only [sz, ss]
    refine tkM 4 _ rfl rfl ?_; simp only [sz, ss]
    refine tkM 5 _ rfl rfl ?_; simp only [sz, ss]
    refine tkM 6 _ rfl rfl ?_; simp only [sz, ss]
    refine r1L 7 rfl fun K hK => ?_
    · go_simp
      go_at_call 14
      have hun := qHq wc2 _ _ (Mo.doR s (k, at', N, id, nm, dt)) xr xq fr fq yr zr yq zq gr hr gq hq9 (Rep.below Yr_6.out BT2.out) (Rep.below Yq_6.out BT2.out) (Rep.below Nr_6.out BT2.out) (Rep.below Nq_6.out BT2.out)
      rw [← HEr.out, ← HIr.out, ← HZr.out] at hun
      rw [HEE.out, HII.out, HZZ.out]
      refine Calls.mono (hun) ?_
      rintro e wc7 ⟨rfl, bq⟩
      have BT7 : Hid _ := on BT2.out bq
      have S7 := HSee.out _ BT7.out
      clear bq hun
      go_simp
      refine hK.out _ _ ?_ (fun hH => ?_)
      · try dsimp only
        exact S7
      clear hK K
      refine tkM 8 _ rfl rfl ?_; simp only [sz, ss]
      refine tkM 9 _ rfl rfl ?_; simp only [sz, ss]
      refine tkM 10 _ rfl rfl ?_; simp only [sz, ss]
      refine tkM 11 _ rfl rfl ?_; simp only [sz, ss]
      refine tkM 14 _ rfl rfl ?_; simp only [sz, ss]
      refine r1L 12 rfl fun K hK => ?_
      · go_simp
        go_at_call 16
        refine Calls.mono (check_v (wc7) _ oa ob n0 oc m0 od t0 s (Rep.below Do_6.out BT7.out)) ?_
        rintro e wc12 ⟨rfl, bq⟩
        have BT12 : Hid _ := on BT7.out bq
        have S12 := HSee.out _ BT12.out
        clear bq
        go_simp
        refine hK.out _ _ ?_ (fun hH => ?_)
        · try dsimp only
          exact S12
        clear hK K
        refine r1L 13 rfl fun K hK => ?_
        · go_simp
          go_at_call 15
          refine (num10_u _ _).mono ?_
          rintro e w99 ⟨rfl, rfl⟩
          go_simp
          refine hK.out _ _ ?_ (fun hH => ?_)
          · try dsimp only
            exact S12
          clear hK K
          refine r1L 15 rfl fun K hK => ?_
          · go_simp
            go_at_call 17
            refine Calls.mono (qCj (wc12) _ a0 b0 n0 c0 m0 d0 t0 s (Rep.below Ds_6.out BT12.out)) ?_
            rintro e wc15 ⟨rfl, bq⟩
            have BT15 : Hid _ := on BT12.out bq
            have S15 := HSee.out _ BT15.out
            clear bq
            go_simp
            refine hK.out _ _ ?_ (fun hH => ?_)
            · try dsimp only
              exact S15
            clear hK K
            refine tkM 16 _ rfl rfl ?_; simp only [sz, ss]
            refine tkM 17 _ rfl rfl ?_; simp only [sz, ss]
            refine tkM 18 _ rfl rfl ?_; simp only [sz, ss]
            refine tkM 19 _ rfl rfl ?_; simp only [sz, ss]
            refine tkM 20 _ rfl rfl ?_; simp only [sz, ss]
            refine r1L 21 rfl fun K hK => ?_
            · go_simp
              go_at_call 13
              refine Calls.mono (qBZ (wc15) _ _ [.slice oa n0 oc, .slice ob m0 od, .int .i64 t0] [.slice a0 n0 c0, .slice b0 m0 d0, .int .i64 t0] s (Rep.below Do_6.out BT15.out) (Rep.below Ds_6.out BT15.out)) ?_
              rintro e wc21 ⟨rfl, bq⟩
              have BT21 : Hid _ := on BT15.out bq
              have S21 := HSee.out _ BT21.out
              clear bq
              go_simp
              refine hK.out _ _ ?_ (fun hH => ?_)
              · try dsimp only
                exact S21
              clear hK K
              refine tkM 22 _ rfl rfl ?_; simp only [sz, ss]
              refine tkM 23 _ rfl rfl ?_; simp only [sz, ss]
              refine tkM 24 _ rfl rfl ?_; simp only [sz, ss]
              refine tkM 25 _ rfl rfl ?_; simp only [sz, ss]
              refine tkM 26 _ rfl rfl ?_; simp only [sz, ss]
              refine tkM 27 _ rfl rfl ?_; simp only [sz, ss]
              refine tkM 28 _ rfl rfl ?_; simp only [sz, ss]
              refine r1L 29 rfl fun K hK => ?_
              · go_simp
                go_at_call 18
                have h1 : IsB wc21 xb xn dt := (q1Q (Rep.below Gi_6.out.1 BT21.out)).1
                have h2 : IsB wc21 xa xn dt := (q1Q (Rep.below Yx_6.out BT21.out)).1
                refine (qAq _ xb xa xn xd xn xc dt dt h1 h2).mono ?_
                rintro e w' ⟨rfl, rfl⟩
                rw [beq_self_eq_true]
                clear h1 h2
                go_simp
                refine hK.out _ _ ?_ (fun hH => ?_)
                · try dsimp only
                  exact S21
                clear hK K
                refine tkM 30 _ rfl rfl ?_; simp only [sz, ss]
                refine tkM 31 _ rfl rfl ?_; simp only [sz, ss]
                refine r1L 32 rfl fun K hK => ?_
                · go_simp
                  go_at_call 19
                  refine Calls.mono (alive10_u _) ?_
                  rintro e wc32 ⟨rfl, bq⟩
                  have BT32 : Hid _ := on BT21.out bq
                  have S32 := HSee.out _ BT32.out
                  clear bq
                  go_simp
                  refine hK.out _ _ ?_ (fun hH => ?_)
                  · try dsimp only
                    exact S32
                  clear hK K
                  refine tkM 33 _ rfl rfl ?_; simp only [sz, ss]
                  refine tkM 34 _ rfl rfl ?_; simp only [sz, ss]
                  refine wpAnyH_done (by kernel_rfl) ?_ _
                  clear hH S32 S21 S15 S12 S7 S2 S0
                  go_wp2
                  go_ret
                  exact ⟨rfl, B_6.out.trans (BT32.out.mono B_6.out.size)⟩
set_option maxRecDepth 100000 in
theorem ldoes_lifted (os : Os) (started : os.Started) (H : Type) (enc : TypeId × Value → H) :
 ReturnsInHanded {} Try.checked os 3 .any (Rows.modelDoesSpec.pre6 enc Try.prog Try.f3 Rows.modelDoesRow.domain false) (Rows.modelDoesSpec.post enc Try.prog Try.f3 false true false false) := by
 refine returnsInHanded_of_change_sized (C := Try.checked) own started (by kernel_rfl) Try.func3
  (ChangeSpec.witness6 (enc := enc) (C := Try.checked) false ⟨#[], #[.agg #[.slice none 0 0, .slice none 0 0, .int .i64 0], .agg #[.int .i64 0, .int .i64 0, .int .i64 0, .int .i64 0, .string ByteArray.empty, .slice none 0 0]], []⟩ 8 (by kernel_rfl) (by kernel_rfl) (by kernel_rfl) (by kernel_rfl)) ?_
 intro W base args ds gs before hval0 hW _ hsz0 _
 have hsz : (DataW.weightsEach Try.prog (Try.f3.params.toList ++ Rows.modelDoesSpec.plain.varTypes Try.prog) (ds ++ gs)).all (· ≤ reachBytes) = true := hsz0
 clear hsz0
 have hval : ∀ (j : Nat) t v, Try.f3.params[j]? = some t → args[j]? = some v → Value.okWide Try.prog W .any base t v := hval0
 have hW' := hW
 obtain ⟨p, q, hA0, hV, rfl, hfz, hnd⟩ := hW
 have hA : DataW.TrodAll enc Try.prog W 0 (fun _ => true) true Try.f3.params.toList args.toList ds p := hA0
 rw [Try.params3] at hA hval hsz
 obtain ⟨v0, vs0, d0, ds0, p0, q0, hargs, rfl, rfl, h0, r0⟩ := trodAll_cons hA
 obtain ⟨v1, vs1, d1, ds1, p1, q1, rfl, rfl, rfl, h1, r1⟩ := trodAll_cons r0
 obtain ⟨rfl, rfl, rfl⟩ := trodAll_nil r1
 obtain rfl : args = #[v0, v1] := by cases args; simp_all
 obtain ⟨rfl, rfl⟩ := trodVars_none hV
 obtain ⟨c0, rfl, -⟩ := okWide_struct Try.underlying25 (hval 0 25 v0 rfl rfl)
 have k0 := h0
 have lt0 : ∀ x ∈ p0, x.block < W.heap.size := by obtain ⟨m, hm⟩ := k0; exact DataW.trod_lt m _ _ _ hm
 obtain ⟨x0, hx0⟩ := opens_state10.arg h0 hsz (j := 0) rfl rfl
 obtain ⟨c1, rfl, -⟩ := okWide_struct Try.underlying28 (hval 1 28 v1 rfl rfl)
 have k1 := h1
 have lt1 : ∀ x ∈ p1, x.block < W.heap.size := by obtain ⟨m, hm⟩ := k1; exact DataW.trod_lt m _ _ _ hm
 obtain ⟨x1, hx1⟩ := opens_op10.arg h1 hsz (j := 1) rfl rfl
 clear hA0 hval0
 refine (ldoes_walk c0.toList x0 c1.toList x1 W hx0 hx1).mono fun e W' ⟨he, bel⟩ => ?_
 subst he
 exact ⟨_, rfl, _, _, _, [], _, [], hW', trodAll_mk1 (shut_bool Try.underlying4 _), (trodAll_cons_mk (Below.trod qIZ (by kernel_rfl) (of_decide_eq_true (by kernel_rfl)) k0 bel lt0) (trodAll_cons_mk (Below.trod qIZ (by kernel_rfl) (of_decide_eq_true (by kernel_rfl)) k1 bel lt1) trodAll_mk0)), rfl, bel.frame _, fun h => by cases h⟩
theorem modelDoes_holds : Rows.ModelDoesSaid :=
 OpenClaim.holds_of_wide 3 Try.f3 rfl rfl rfl rfl rfl rfl rfl ⟨rfl, rfl, rfl, rfl, rfl⟩ rfl rfl rfl rfl rfl (by kernel_rfl) Try.func3 (by kernel_rfl)
  (of_decide_eq_true (by kernel_rfl)) (by unfold Func.isWrapper; first | (rw [if_pos (by decide +kernel)]; kernel_rfl) | (rw [if_neg (by decide +kernel)]; exact ⟨rfl, rfl⟩))
  (fun os started H enc _ => ldoes_lifted os started H enc)
end Go.Proofs.Ytoophkmnppoppaa
