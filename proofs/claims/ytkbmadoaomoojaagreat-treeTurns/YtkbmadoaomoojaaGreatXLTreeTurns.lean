/-
  Two unlike keys put in one order or the other, or one put and the other taken away, are the same items. Conditions: none.
-/
import Derived.Test.YtkbmadoaomoojaaGreatT00
import Derived.Test.YtkbmadoaomoojaaGreatT07
import Derived.Test.YtkbmadoaomoojaaGreatT08
import Derived.Test.YtkbmadoaomoojaaGreatT17
import Derived.Test.YtkbmadoaomoojaaGreatT19
import Derived.Test.YtkbmadoaomoojaaGreatT20
namespace Go.Proofs.YtkbmadoaomoojaaGreat
set_option maxHeartbeats 16000000
set_option maxRecDepth 20000
open Go.ChangeShapes Go.WideShapes Go.ChangeAt Go.RowKit
set_option linter.unusedVariables false
set_option maxRecDepth 20000 in
theorem tturns_walk (cs : List Value) (s : Pgs) (root : Int) (ds : List Value) (x : Itm) (es : List Value) (y : Itm) (W : World) (h0 : rSectors.rd W (fun b => b < W.heap.size) cs s) (hr0 : -9223372036854775808 ≤ root) (hr1 : root ≤ 9223372036854775807) (h2 : rItm.rd W (fun b => b < W.heap.size) ds x) (h3 : rItm.rd W (fun b => b < W.heap.size) es y) :
 Calls Tryz.prog 5 #[.agg cs.toArray, .int .i64 root, .agg ds.toArray, .agg es.toArray] W fun e W' => e = .returned (.bool true) ∧ Below W.heap.size W W' := by
 obtain ⟨a, n, c, rfl, hn, hn5⟩ := rPages_rd h0
 have HN : Hid (s.length = n) := hn
 have HN5 : Hid (n ≤ 5864062014634) := hn5
 have HR0 : Hid (-9223372036854775808 ≤ root) := hr0
 have HR1 : Hid (root ≤ 9223372036854775807) := hr1
 rw [show ([.slice a n c] : List Value).toArray = #[.slice a n c] from rfl]
 obtain rfl := rItm_rd.1 h2
 obtain rfl := rItm_rd.1 h3
 rw [show (itm2 x).toArray = #[.int .u64 (x.1.toNat : Int), .int .u64 (x.2.toNat : Int)] from rfl, show (itm2 y).toArray = #[.int .u64 (y.1.toNat : Int), .int .u64 (y.2.toNat : Int)] from rfl]
 obtain ⟨w0, hw0, V0, b0, z0⟩ := q0q W 24 [.slice a n c]
 obtain ⟨v1, hv1, V1, b1, z1⟩ := q0q w0 45 [.int .u64 (x.1.toNat : Int), .int .u64 (x.2.toNat : Int)]
 obtain ⟨w1, hw1, V2, b2, z2⟩ := q0q v1 45 [.int .u64 (y.1.toNat : Int), .int .u64 (y.2.toNat : Int)]
 have Rs_1 : Hid _ := (V0.below b1).below b2
 have Rx_1 : Hid _ := V1.below b2
 have Ry_1 : Hid _ := V2
 have B_1 : Hid (Below W.heap.size W w1) := on (on b0 b1) b2
 have Ss_1 : Hid (rSectors.rd w1 (fun b => b < W.heap.size) [.slice a n c] (s)) := Rep.below h0 B_1.out
 clear V0 V1 V2 b0 b1 b2 z0 z1 z2 h0 h2 h3 hn hn5 hr0 hr1
 by_cases hxy : x.1 = y.1
 · have e1 : (((x.1.toNat : Int)) == ((y.1.toNat : Int))) = true := by rw [hxy]; exact beq_self_eq_true _
   clear hxy
   go_enter Tryz.func5, Tryz.ntmps5
   go_wp2_with fail
   go_at_call 9
   refine Calls.mono (z0z _) ?_
   rintro e w2 ⟨rfl, b2⟩
   have Rs_2 : Hid _ := Rs_1.out.below (b2)
   have Rx_2 : Hid _ := Rx_1.out.below (b2)
   have Ry_2 : Hid _ := Ry_1.out.below (b2)
   have Ss_2 : Hid _ := Rep.below Ss_1.out (b2)
   have B_2 : Hid _ := on B_1.out (b2)
   clear Rs_1 Rx_1 Ry_1 Ss_1
   clear b2
   obtain ⟨qx0, qx1⟩ := Rx_2.out.two
   obtain ⟨qy0, qy1⟩ := Ry_2.out.two
   go_wp2_with fail
   go_at_call 9
   refine Calls.mono (z0z _) ?_
   rintro e w3 ⟨rfl, b3⟩
   have Rs_3 : Hid _ := Rs_2.out.below (b3)
   have Rx_3 : Hid _ := Rx_2.out.below (b3)
   have Ry_3 : Hid _ := Ry_2.out.below (b3)
   have Ss_3 : Hid _ := Rep.below Ss_2.out (b3)
   have B_3 : Hid _ := on B_2.out (b3)
   clear qx0 qx1 qy0 qy1
   clear Rs_2 Rx_2 Ry_2 Ss_2
   clear b3
   go_wp2_with fail
   go_ret
   exact ⟨rfl, B_3.out⟩
 · have e1 : (((x.1.toNat : Int)) == ((y.1.toNat : Int))) = false := beq_eq_false_iff_ne.2 (fun e => hxy (UInt64.toNat.inj (by omega)))
   have HXY : Hid (x.1 ≠ y.1) := hxy
   clear hxy
   go_enter Tryz.func5, Tryz.ntmps5
   go_wp2_with fail
   go_at_call 9
   refine Calls.mono (z0z _) ?_
   rintro e w4 ⟨rfl, b4⟩
   have Rs_4 : Hid _ := Rs_1.out.below (b4)
   have Rx_4 : Hid _ := Rx_1.out.below (b4)
   have Ry_4 : Hid _ := Ry_1.out.below (b4)
   have Ss_4 : Hid _ := Rep.below Ss_1.out (b4)
   have B_4 : Hid _ := on B_1.out (b4)
   clear Rs_1 Rx_1 Ry_1 Ss_1
   clear b4
   obtain ⟨qx0, qx1⟩ := Rx_4.out.two
   obtain ⟨qy0, qy1⟩ := Ry_4.out.two
   have qs0 := Rs_4.out.cell (j := 0) rfl
   have hns : n = s.length := HN.out.symm
   subst hns
   go_wp2_with fail
   have SK_4 : Hid (∀ {w' : World}, Below w4.heap.size w4 w' → w'.cell? ⟨W.heap.size, 0, none⟩ = some (.slice a s.length c) ∧ w'.cell? ⟨w0.heap.size, 0, none⟩ = some (.int .u64 (x.1.toNat : Int)) ∧ w'.cell? ⟨w0.heap.size, 1, none⟩ = some (.int .u64 (x.2.toNat : Int))) := fun b => ⟨(Rs_4.out.below b).cell (j := 0) rfl, (Rx_4.out.below b).cell (j := 0) rfl, (Rx_4.out.below b).cell (j := 1) rfl⟩
   clear qx0 qx1 qy0 qy1 qs0
   go_wp2_with (go_at_call 10; refine (q7x _ _).mono ?_; rintro e w99 ⟨rfl, rfl⟩)
   go_cut [9, 10, 11] (fun t pp er wx => ∃ vb av mv cv, t = .pointer (some ⟨vb, 0, none⟩) ∧ pp = .int .i64 (Tr.putQ x s root) ∧ er = .int .i64 (Tr.putE x s root) ∧ Hid (Row wx vb 26 [.slice av mv cv]) ∧ Hid (rSectors.rd wx (fun b => w4.heap.size ≤ b) [.slice av mv cv] (Tr.putS x s root)) ∧ Hid (Below w4.heap.size w4 wx))
   case first =>
    refine wp_region_held_drew (S := (fun w' : World => w'.cell? ⟨W.heap.size, 0, none⟩ = some (.slice a s.length c) ∧ w'.cell? ⟨w0.heap.size, 0, none⟩ = some (.int .u64 (x.1.toNat : Int)) ∧ w'.cell? ⟨w0.heap.size, 1, none⟩ = some (.int .u64 (x.2.toNat : Int)))) (by kernel_rfl) (SK_4.out (Below.refl _ _).drew) (fun hH => ?_)
    refine tkM 0 _ rfl rfl ?_; simp only [sz, ss]
    refine tkM 2 _ rfl rfl ?_; simp only [sz, ss]
    refine tkM 3 _ rfl rfl ?_; simp only [sz, ss]
    refine rdL [1, 9] ?_
    refine rcL (fun K hK => ?_) ?_
    · go_simp
      go_at_call 6
      refine Calls.mono (of8_u _ _ s a s.length c (Rep.below Ss_4.out ((Below.refl _ _).drew))) ?_
      rintro e wB ⟨aB, cB, rfl, hoB, bB⟩
      have BB : Hid (Below w4.heap.size w4 wB) := q1Q bB
      have LB : Hid _ := hoB
      clear hoB bB
      go_simp
      refine hK.out _ _ (by exact SK_4.out BB.out) fun hH => ?_; clear hK K
      refine rdL [4, 9] ?_
      refine rcL (fun K hK => ?_) ?_
      · go_simp
        go_at_call 15
        refine Calls.mono (qLj _ _ s root x _ _ _ LB.out HR0.out HR1.out) ?_
        rintro e wC ⟨aC, mC, cC, rfl, hoC, bC⟩
        have BC : Hid _ := on BB.out bC
        have OC : Hid _ := hoC
        clear hoC bC
        go_simp
        refine hK.out _ _ (by exact SK_4.out BC.out) fun hH => ?_; clear hK K
        refine tkM 5 _ rfl rfl ?_; simp only [sz, ss]
        refine tkM 6 _ rfl rfl ?_; simp only [sz, ss]
        refine tkM 7 _ rfl rfl ?_; simp only [sz, ss]
        refine tkM 8 _ rfl rfl ?_; simp only [sz, ss]
        refine r1L 9 rfl fun K hK => ?_
        · go_simp
          refine hK.out _ _ (by exact SK_4.out (q0Q BC.out _)) fun hH => ?_; clear hK K
          refine r1L 10 rfl fun K hK => ?_
          · go_simp
            refine hK.out _ _ (by exact SK_4.out (q0Q BC.out _)) fun hH => ?_; clear hK K
            refine tkM 11 _ rfl rfl ?_; simp only [sz, ss]
            refine tkM 12 _ rfl rfl ?_; simp only [sz, ss]
            refine wpAnyH_done (by kernel_rfl) ?_ _
            clear hH
            go_wp2_with fail
            go_meet
            exact ⟨wC.heap.size, aC, mC, cC, rfl, rfl, rfl, q1Z _ _ _, Rep.below (rSectors.weaken OC.out (fun b hb _ => zw1 BB.out.size hb)) ((Below.refl _ wC).alloc (zw0 _) _), q0Q BC.out _⟩
      refine rcL (fun K hK => ?_) ?_
      · have BZ : Hid (Below w4.heap.size w4 (wB.alloc (.cells #[.slice none 0 0] 26))) := q0Q BB.out _
        have VZB : Hid (Row (wB.alloc (.cells #[.slice none 0 0] 26)) wB.heap.size 26 [.slice none 0 0]) := q1Z wB _ _
        have LB2 : Hid _ := Rep.below LB.out ((Below.refl _ wB).alloc (zw0 _) (.cells #[.slice none 0 0] 26))
        obtain ⟨wZ, hwZ⟩ : ∃ wZ, wZ = wB.alloc (.cells #[.slice none 0 0] 26) := ⟨_, rfl⟩
        rw [← hwZ] at BZ VZB LB2
        have HZB : Hid (w4.heap.size ≤ wB.heap.size) := BB.out.size
        go_simp
        rw [← hwZ]
        clear hwZ
        refine hK.out _ _ (by exact SK_4.out BZ.out) fun hH => ?_; clear hK K
        refine r1L 4 rfl fun K hK => ?_
        · go_simp
          go_at_call 15
          refine Calls.mono (qLj _ _ s root x _ _ _ LB2.out HR0.out HR1.out) ?_
          rintro e wC ⟨aC, mC, cC, rfl, hoC, bC⟩
          have BC : Hid _ := on BZ.out bC
          have OC : Hid _ := hoC
          have VC : Hid _ := VZB.out.below bC
          have hlt : Hid (wB.heap.size < wZ.heap.size) := VZB.out.lt
          have g0 := VC.out.cell (j := 0) rfl
          have g2 := VC.out.frozen 0
          clear hoC bC
          go_simp
          refine hK.out _ _ (by exact SK_4.out BC.out) fun hH => ?_; clear hK K
          refine tkM 5 _ rfl rfl ?_; simp only [sz, ss]
          refine tkM 6 _ rfl rfl ?_; simp only [sz, ss]
          refine tkM 7 _ rfl rfl ?_; simp only [sz, ss]
          refine tkM 8 _ rfl rfl ?_; simp only [sz, ss]
          refine r1L 10 rfl fun K hK => ?_
          · go_simp
            refine hK.out _ _ (by exact SK_4.out (BC.out.setCell (p := ⟨wB.heap.size, 0, none⟩) HZB.out _)) fun hH => ?_; clear hK K
            refine tkM 11 _ rfl rfl ?_; simp only [sz, ss]
            refine tkM 12 _ rfl rfl ?_; simp only [sz, ss]
            refine wpAnyH_done (by kernel_rfl) ?_ _
            clear hH
            go_wp2_with fail
            go_meet
            have K9 : Kept (· ≠ wB.heap.size) wC (wC.setCell ⟨wB.heap.size, 0, none⟩ (.slice aC mC cC)) := (Kept.refl _ wC).setCell (p := ⟨wB.heap.size, 0, none⟩) (fun h => h rfl) _
            exact ⟨wB.heap.size, aC, mC, cC, rfl, rfl, rfl, VC.out.set 0 _, rSectors.weaken (Rep.kept OC.out K9 (fun b hb _ => by have h1 : wZ.heap.size ≤ b := hb; have h2 := hlt.out; show b ≠ wB.heap.size; omega)) (fun b hb _ => zw1 BZ.out.size hb), Kept.belowOf BC.out K9 HZB.out⟩
      exact rnL
    refine rcL (fun K hK => ?_) ?_
    · have BZ : Hid (Below w4.heap.size w4 (w4.alloc (.cells #[.slice none 0 0] 26)).drew) := ((Below.refl _ w4).alloc (zw0 _) _).drew
      have VZ : Hid (Row (w4.alloc (.cells #[.slice none 0 0] 26)).drew w4.heap.size 26 [.slice none 0 0]) := (q1Z w4 _ _).keep rfl
      obtain ⟨wZ, hwZ⟩ : ∃ wZ, wZ = (w4.alloc (.cells #[.slice none 0 0] 26)).drew := ⟨_, rfl⟩
      rw [← hwZ] at BZ VZ
      go_simp
      rw [← hwZ]
      clear hwZ
      refine hK.out _ _ (by exact SK_4.out BZ.out) fun hH => ?_; clear hK K
      refine r1L 1 rfl fun K hK => ?_
      · go_simp
        go_at_call 6
        refine Calls.mono (of8_u _ _ s a s.length c (Rep.below Ss_4.out (BZ.out))) ?_
        rintro e wB ⟨aB, cB, rfl, hoB, bB⟩
        have BB : Hid _ := on BZ.out bB
        have VZB : Hid _ := VZ.out.below bB
        have LB : Hid _ := hoB
        clear hoB bB
        go_simp
        refine hK.out _ _ (by exact SK_4.out BB.out) fun hH => ?_; clear hK K
        refine r1L 4 rfl fun K hK => ?_
        · go_simp
          go_at_call 15
          refine Calls.mono (qLj _ _ s root x _ _ _ LB.out HR0.out HR1.out) ?_
          rintro e wC ⟨aC, mC, cC, rfl, hoC, bC⟩
          have BC : Hid _ := on BB.out bC
          have OC : Hid _ := hoC
          have VC : Hid _ := VZB.out.below bC
          have hlt : Hid (w4.heap.size < wB.heap.size) := VZB.out.lt
          have g0 := VC.out.cell (j := 0) rfl
          have g2 := VC.out.frozen 0
          clear hoC bC
          go_simp
          refine hK.out _ _ (by exact SK_4.out BC.out) fun hH => ?_; clear hK K
          refine tkM 5 _ rfl rfl ?_; simp only [sz, ss]
          refine tkM 6 _ rfl rfl ?_; simp only [sz, ss]
          refine tkM 7 _ rfl rfl ?_; simp only [sz, ss]
          refine tkM 8 _ rfl rfl ?_; simp only [sz, ss]
          refine r1L 10 rfl fun K hK => ?_
          · go_simp
            refine hK.out _ _ (by exact SK_4.out (BC.out.setCell (p := ⟨w4.heap.size, 0, none⟩) (zw0 _) _)) fun hH => ?_; clear hK K
            refine tkM 11 _ rfl rfl ?_; simp only [sz, ss]
            refine tkM 12 _ rfl rfl ?_; simp only [sz, ss]
            refine wpAnyH_done (by kernel_rfl) ?_ _
            clear hH
            go_wp2_with fail
            go_meet
            have K9 : Kept (· ≠ w4.heap.size) wC (wC.setCell ⟨w4.heap.size, 0, none⟩ (.slice aC mC cC)) := (Kept.refl _ wC).setCell (p := ⟨w4.heap.size, 0, none⟩) (fun h => h rfl) _
            exact ⟨w4.heap.size, aC, mC, cC, rfl, rfl, rfl, VC.out.set 0 _, rSectors.weaken (Rep.kept OC.out K9 (fun b hb _ => by have h1 : wB.heap.size ≤ b := hb; have h2 := hlt.out; show b ≠ w4.heap.size; omega)) (fun b hb _ => zw1 BB.out.size hb), Kept.belowOf BC.out K9 (zw0 _)⟩
    exact rnL
   case rest =>
    obtain ⟨vbp, ap, np, cp, rfl, rfl, rfl, Rp_5, Sp_5, bc5⟩ := hcut
    obtain ⟨w5, hw5⟩ : ∃ w5, w5 = wc := ⟨_, rfl⟩
    subst hw5
    clear SK_4
    have Rs_5 : Hid _ := Rs_4.out.below (bc5.out)
    have Rx_5 : Hid _ := Rx_4.out.below (bc5.out)
    have Ry_5 : Hid _ := Ry_4.out.below (bc5.out)
    have Ss_5 : Hid _ := Rep.below Ss_4.out (bc5.out)
    have B_5 : Hid _ := on B_4.out (bc5.out)
    clear Rs_4 Rx_4 Ry_4 Ss_4
    clear bc5
    have HPn : Hid ((Tr.putS x s root).length = np) := (q0x Sp_5.out).1
    have hcase := Tr.put_cases x s root
    obtain ⟨PE, hPE⟩ : ∃ PE, PE = Tr.putE x s root := ⟨_, rfl⟩
    obtain ⟨PQ, hPQ⟩ : ∃ PQ, PQ = Tr.putQ x s root := ⟨_, rfl⟩
    obtain ⟨PS, hPS⟩ : ∃ PS, PS = Tr.putS x s root := ⟨_, rfl⟩
    have HPQI := Tr.putQ_in x s root
    rw [← hPE, ← hPQ, ← hPS] at hcase
    rw [← hPQ] at HPQI
    rw [← hPS] at HPn
    rw [← hPE, ← hPQ]
    have Sp_5' : Hid (rSectors.rd w5 (fun b => w4.heap.size ≤ b) [.slice ap np cp] (PS)) := by unfold Hid; rw [hPS]; exact Sp_5.out
    have HCase : Hid _ := hcase
    have HPQ2 : Hid _ := HPQI
    clear hPE hPQ hPS hcase HPQI Sp_5
    have Sp_5 : Hid _ := Sp_5'
    clear Sp_5'
    rcases HCase.out with ⟨hE, hP, hS, hQ⟩ | ⟨hE, hP, hL, hS, hQ⟩ | ⟨hE, hP, hAf⟩
    · subst hP hS hQ
      obtain rfl : np = 0 := HPn.out.symm
      have hEb : (Tr.readE s root != 0) = true := bne_iff_ne.2 hE
      clear HCase
      have qp0 := Rp_5.out.cell (j := 0) rfl
      go_wp2_with (go_at_call 10; refine (q7x _ _).mono ?_; rintro e w99 ⟨rfl, rfl⟩)
      go_ret
      exact ⟨rfl, B_5.out⟩
    · subst hP hS hQ
      obtain rfl : np = 0 := HPn.out.symm
      clear HCase hE hL
      have qp0 := Rp_5.out.cell (j := 0) rfl
      go_wp2_with (go_at_call 10; refine (q7x _ _).mono ?_; rintro e w99 ⟨rfl, rfl⟩)
      go_ret
      exact ⟨rfl, B_5.out⟩
    · subst hP
      have HTwo : Hid _ := Tr.two_of HXY.out hE hAf
      have HQ0 : Hid (-9223372036854775808 ≤ PQ) := by have := HPQ2.out; unfold Hid; omega
      have HQ1 : Hid (PQ ≤ 9223372036854775807) := by have := HPQ2.out; unfold Hid; omega
      have HE : Hid _ := hE
      clear HCase hE hAf
      have qp0 := Rp_5.out.cell (j := 0) rfl
      obtain ⟨qy0, qy1⟩ := Ry_5.out.two
      go_wp2_with (go_at_call 10; refine (q7x _ _).mono ?_; rintro e w99 ⟨rfl, rfl⟩)
      go_at_call 15
      refine Calls.mono (qLj _ _ PS PQ y _ _ _ Sp_5.out HQ0.out HQ1.out) ?_
      rintro e w6 ⟨ab, nb, cb, rfl, h6, b6⟩
      have Sb_6 : Hid _ := h6
      have Rs_6 : Hid _ := Rs_5.out.below (b6)
      have Rx_6 : Hid _ := Rx_5.out.below (b6)
      have Ry_6 : Hid _ := Ry_5.out.below (b6)
      have Ss_6 : Hid _ := Rep.below Ss_5.out (b6)
      have Rp_6 : Hid _ := Rp_5.out.below (b6)
      have Sp_6 : Hid _ := Rep.below Sp_5.out (b6)
      have B_6 : Hid _ := on B_5.out (b6)
      clear qp0 qy0 qy1
      clear Rs_5 Rx_5 Ry_5 Ss_5 Rp_5 Sp_5
      clear h6 b6
      obtain ⟨w7, hw7, V7, b7, z7⟩ := q0q w6 26 [.slice ab nb cb]
      have Rb_7 : Hid _ := V7
      have Rs_7 : Hid _ := Rs_6.out.below (b7)
      have Rx_7 : Hid _ := Rx_6.out.below (b7)
      have Ry_7 : Hid _ := Ry_6.out.below (b7)
      have Ss_7 : Hid _ := Rep.below Ss_6.out (b7)
      have Rp_7 : Hid _ := Rp_6.out.below (b7)
      have Sp_7 : Hid _ := Rep.below Sp_6.out (b7)
      have Sb_7 : Hid _ := Rep.below Sb_6.out (b7)
      have B_7 : Hid _ := on B_6.out (b7)
      clear Rs_6 Rx_6 Ry_6 Ss_6 Rp_6 Sp_6 Sb_6
      clear V7 b7 z7
      have HB0 : Hid (-9223372036854775808 ≤ Tr.putQ y PS PQ) := by have := Tr.putQ_in y PS PQ; unfold Hid; omega
      have HB1 : Hid (Tr.putQ y PS PQ ≤ 9223372036854775807) := by have := Tr.putQ_in y PS PQ; unfold Hid; omega
      clear Sp_7 Rp_7
      go_wp2_with fail
      have SK_7 : Hid (∀ {w' : World}, Below w7.heap.size w7 w' → w'.cell? ⟨W.heap.size, 0, none⟩ = some (.slice a s.length c) ∧ w'.cell? ⟨v1.heap.size, 0, none⟩ = some (.int .u64 (y.1.toNat : Int)) ∧ w'.cell? ⟨v1.heap.size, 1, none⟩ = some (.int .u64 (y.2.toNat : Int))) := fun b => ⟨(Rs_7.out.below b).cell (j := 0) rfl, (Ry_7.out.below b).cell (j := 0) rfl, (Ry_7.out.below b).cell (j := 1) rfl⟩
      go_wp2_with (go_at_call 10; refine (q7x _ _).mono ?_; rintro e w99 ⟨rfl, rfl⟩)
      go_cut [15, 16, 17] (fun t pp er wx => ∃ vb av mv cv, t = .pointer (some ⟨vb, 0, none⟩) ∧ pp = .int .i64 (Tr.putQ y s root) ∧ er = .int .i64 (Tr.putE y s root) ∧ Hid (Row wx vb 26 [.slice av mv cv]) ∧ Hid (rSectors.rd wx (fun b => w7.heap.size ≤ b) [.slice av mv cv] (Tr.putS y s root)) ∧ Hid (Below w7.heap.size w7 wx))
      case first =>
       refine wp_region_held_drew (S := (fun w' : World => w'.cell? ⟨W.heap.size, 0, none⟩ = some (.slice a s.length c) ∧ w'.cell? ⟨v1.heap.size, 0, none⟩ = some (.int .u64 (y.1.toNat : Int)) ∧ w'.cell? ⟨v1.heap.size, 1, none⟩ = some (.int .u64 (y.2.toNat : Int)))) (by kernel_rfl) (SK_7.out (Below.refl _ _).drew) (fun hH => ?_)
       refine tkM 0 _ rfl rfl ?_; simp only [sz, ss]
       refine tkM 2 _ rfl rfl ?_; simp only [sz, ss]
       refine tkM 3 _ rfl rfl ?_; simp only [sz, ss]
       refine rdL [1, 9] ?_
       refine rcL (fun K hK => ?_) ?_
       · go_simp
         go_at_call 6
         refine Calls.mono (of8_u _ _ s a s.length c (Rep.below Ss_7.out ((Below.refl _ _).drew))) ?_
         rintro e wB ⟨aB, cB, rfl, hoB, bB⟩
         have BB : Hid (Below w7.heap.size w7 wB) := q1Q bB
         have LB : Hid _ := hoB
         clear hoB bB
         go_simp
         refine hK.out _ _ (by exact SK_7.out BB.out) fun hH => ?_; clear hK K
         refine rdL [4, 9] ?_
         refine rcL (fun K hK => ?_) ?_
         · go_simp
           go_at_call 15
           refine Calls.mono (qLj _ _ s root y _ _ _ LB.out HR0.out HR1.out) ?_
           rintro e wC ⟨aC, mC, cC, rfl, hoC, bC⟩
           have BC : Hid _ := on BB.out bC
           have OC : Hid _ := hoC
           clear hoC bC
           go_simp
           refine hK.out _ _ (by exact SK_7.out BC.out) fun hH => ?_; clear hK K
           refine tkM 5 _ rfl rfl ?_; simp only [sz, ss]
           refine tkM 6 _ rfl rfl ?_; simp only [sz, ss]
           refine tkM 7 _ rfl rfl ?_; simp only [sz, ss]
           refine tkM 8 _ rfl rfl ?_; simp only [sz, ss]
           refine r1L 9 rfl fun K hK => ?_
           · go_simp
             refine hK.out _ _ (by exact SK_7.out (q0Q BC.out _)) fun hH => ?_; clear hK K
             refine r1L 10 rfl fun K hK => ?_
             · go_simp
               refine hK.out _ _ (by exact SK_7.out (q0Q BC.out _)) fun hH => ?_; clear hK K
               refine tkM 11 _ rfl rfl ?_; simp only [sz, ss]
               refine tkM 12 _ rfl rfl ?_; simp only [sz, ss]
               refine wpAnyH_done (by kernel_rfl) ?_ _
               clear hH
               go_wp2_with fail
               go_meet
               exact ⟨wC.heap.size, aC, mC, cC, rfl, rfl, rfl, q1Z _ _ _, Rep.below (rSectors.weaken OC.out (fun b hb _ => zw1 BB.out.size hb)) ((Below.refl _ wC).alloc (zw0 _) _), q0Q BC.out _⟩
         refine rcL (fun K hK => ?_) ?_
         · have BZ : Hid (Below w7.heap.size w7 (wB.alloc (.cells #[.slice none 0 0] 26))) := q0Q BB.out _
           have VZB : Hid (Row (wB.alloc (.cells #[.slice none 0 0] 26)) wB.heap.size 26 [.slice none 0 0]) := q1Z wB _ _
           have LB2 : Hid _ := Rep.below LB.out ((Below.refl _ wB).alloc (zw0 _) (.cells #[.slice none 0 0] 26))
           obtain ⟨wZ, hwZ⟩ : ∃ wZ, wZ = wB.alloc (.cells #[.slice none 0 0] 26) := ⟨_, rfl⟩
           rw [← hwZ] at BZ VZB LB2
           have HZB : Hid (w7.heap.size ≤ wB.heap.size) := BB.out.size
           go_simp
           rw [← hwZ]
           clear hwZ
           refine hK.out _ _ (by exact SK_7.out BZ.out) fun hH => ?_; clear hK K
           refine r1L 4 rfl fun K hK => ?_
           · go_simp
             go_at_call 15
             refine Calls.mono (qLj _ _ s root y _ _ _ LB2.out HR0.out HR1.out) ?_
             rintro e wC ⟨aC, mC, cC, rfl, hoC, bC⟩
             have BC : Hid _ := on BZ.out bC
             have OC : Hid _ := hoC
             have VC : Hid _ := VZB.out.below bC
             have hlt : Hid (wB.heap.size < wZ.heap.size) := VZB.out.lt
             have g0 := VC.out.cell (j := 0) rfl
             have g2 := VC.out.frozen 0
             clear hoC bC
             go_simp
             refine hK.out _ _ (by exact SK_7.out BC.out) fun hH => ?_; clear hK K
             refine tkM 5 _ rfl rfl ?_; simp only [sz, ss]
             refine tkM 6 _ rfl rfl ?_; simp only [sz, ss]
             refine tkM 7 _ rfl rfl ?_; simp only [sz, ss]
             refine tkM 8 _ rfl rfl ?_; simp only [sz, ss]
             refine r1L 10 rfl fun K hK => ?_
             · go_simp
               refine hK.out _ _ (by exact SK_7.out (BC.out.setCell (p := ⟨wB.heap.size, 0, none⟩) HZB.out _)) fun hH => ?_; clear hK K
               refine tkM 11 _ rfl rfl ?_; simp only [sz, ss]
               refine tkM 12 _ rfl rfl ?_; simp only [sz, ss]
               refine wpAnyH_done (by kernel_rfl) ?_ _
               clear hH
               go_wp2_with fail
               go_meet
               have K9 : Kept (· ≠ wB.heap.size) wC (wC.setCell ⟨wB.heap.size, 0, none⟩ (.slice aC mC cC)) := (Kept.refl _ wC).setCell (p := ⟨wB.heap.size, 0, none⟩) (fun h => h rfl) _
               exact ⟨wB.heap.size, aC, mC, cC, rfl, rfl, rfl, VC.out.set 0 _, rSectors.weaken (Rep.kept OC.out K9 (fun b hb _ => by have h1 : wZ.heap.size ≤ b := hb; have h2 := hlt.out; show b ≠ wB.heap.size; omega)) (fun b hb _ => zw1 BZ.out.size hb), Kept.belowOf BC.out K9 HZB.out⟩
         exact rnL
       refine rcL (fun K hK => ?_) ?_
       · have BZ : Hid (Below w7.heap.size w7 (w7.alloc (.cells #[.slice none 0 0] 26)).drew) := ((Below.refl _ w7).alloc (zw0 _) _).drew
         have VZ : Hid (Row (w7.alloc (.cells #[.slice none 0 0] 26)).drew w7.heap.size 26 [.slice none 0 0]) := (q1Z w7 _ _).keep rfl
         obtain ⟨wZ, hwZ⟩ : ∃ wZ, wZ = (w7.alloc (.cells #[.slice none 0 0] 26)).drew := ⟨_, rfl⟩
         rw [← hwZ] at BZ VZ
         go_simp
         rw [← hwZ]
         clear hwZ
         refine hK.out _ _ (by exact SK_7.out BZ.out) fun hH => ?_; clear hK K
         refine r1L 1 rfl fun K hK => ?_
         · go_simp
           go_at_call 6
           refine Calls.mono (of8_u _ _ s a s.length c (Rep.below Ss_7.out (BZ.out))) ?_
           rintro e wB ⟨aB, cB, rfl, hoB, bB⟩
           have BB : Hid _ := on BZ.out bB
           have VZB : Hid _ := VZ.out.below bB
           have LB : Hid _ := hoB
           clear hoB bB
           go_simp
           refine hK.out _ _ (by exact SK_7.out BB.out) fun hH => ?_; clear hK K
           refine r1L 4 rfl fun K hK => ?_
           · go_simp
             go_at_call 15
             refine Calls.mono (qLj _ _ s root y _ _ _ LB.out HR0.out HR1.out) ?_
             rintro e wC ⟨aC, mC, cC, rfl, hoC, bC⟩
             have BC : Hid _ := on BB.out bC
             have OC : Hid _ := hoC
             have VC : Hid _ := VZB.out.below bC
             have hlt : Hid (w7.heap.size < wB.heap.size) := VZB.out.lt
             have g0 := VC.out.cell (j := 0) rfl
             have g2 := VC.out.frozen 0
             clear hoC bC
             go_simp
             refine hK.out _ _ (by exact SK_7.out BC.out) fun hH => ?_; clear hK K
             refine tkM 5 _ rfl rfl ?_; simp only [sz, ss]
             refine tkM 6 _ rfl rfl ?_; simp only [sz, ss]
             refine tkM 7 _ rfl rfl ?_; simp only [sz, ss]
             refine tkM 8 _ rfl rfl ?_; simp only [sz, ss]
             refine r1L 10 rfl fun K hK => ?_
             · go_simp
               refine hK.out _ _ (by exact SK_7.out (BC.out.setCell (p := ⟨w7.heap.size, 0, none⟩) (zw0 _) _)) fun hH => ?_; clear hK K
               refine tkM 11 _ rfl rfl ?_; simp only [sz, ss]
               refine tkM 12 _ rfl rfl ?_; simp only [sz, ss]
               refine wpAnyH_done (by kernel_rfl) ?_ _
               clear hH
               go_wp2_with fail
               go_meet
               have K9 : Kept (· ≠ w7.heap.size) wC (wC.setCell ⟨w7.heap.size, 0, none⟩ (.slice aC mC cC)) := (Kept.refl _ wC).setCell (p := ⟨w7.heap.size, 0, none⟩) (fun h => h rfl) _
               exact ⟨w7.heap.size, aC, mC, cC, rfl, rfl, rfl, VC.out.set 0 _, rSectors.weaken (Rep.kept OC.out K9 (fun b hb _ => by have h1 : wB.heap.size ≤ b := hb; have h2 := hlt.out; show b ≠ w7.heap.size; omega)) (fun b hb _ => zw1 BB.out.size hb), Kept.belowOf BC.out K9 (zw0 _)⟩
       exact rnL
      case rest =>
       obtain ⟨vbc, ac, nc, cc, rfl, rfl, rfl, Rc_8, Sc_8, bc8⟩ := hcut
       obtain ⟨w8, hw8⟩ : ∃ w8, w8 = wc := ⟨_, rfl⟩
       subst hw8
       clear SK_7
       have Rs_8 : Hid _ := Rs_7.out.below (bc8.out)
       have Rx_8 : Hid _ := Rx_7.out.below (bc8.out)
       have Ry_8 : Hid _ := Ry_7.out.below (bc8.out)
       have Ss_8 : Hid _ := Rep.below Ss_7.out (bc8.out)
       have Sb_8 : Hid _ := Rep.below Sb_7.out (bc8.out)
       have Rb_8 : Hid _ := Rb_7.out.below (bc8.out)
       have B_8 : Hid _ := on B_7.out (bc8.out)
       clear Rs_7 Rx_7 Ry_7 Ss_7 Sb_7 Rb_7
       clear bc8
       have HC0 : Hid (-9223372036854775808 ≤ Tr.putQ y s root) := by have := Tr.putQ_in y s root; unfold Hid; omega
       have HC1 : Hid (Tr.putQ y s root ≤ 9223372036854775807) := by have := Tr.putQ_in y s root; unfold Hid; omega
       have qc0 := Rc_8.out.cell (j := 0) rfl
       obtain ⟨qx0, qx1⟩ := Rx_8.out.two
       go_wp2_with (go_at_call 10; refine (q7x _ _).mono ?_; rintro e w99 ⟨rfl, rfl⟩)
       go_at_call 15
       refine Calls.mono (qLj _ _ (Tr.putS y s root) (Tr.putQ y s root) x _ _ _ Sc_8.out HC0.out HC1.out) ?_
       rintro e w9 ⟨ad, nd, cd, rfl, h9, b9⟩
       have Sd_9 : Hid _ := h9
       have Rs_9 : Hid _ := Rs_8.out.below (b9)
       have Rx_9 : Hid _ := Rx_8.out.below (b9)
       have Ry_9 : Hid _ := Ry_8.out.below (b9)
       have Ss_9 : Hid _ := Rep.below Ss_8.out (b9)
       have Sb_9 : Hid _ := Rep.below Sb_8.out (b9)
       have Rb_9 : Hid _ := Rb_8.out.below (b9)
       have Rc_9 : Hid _ := Rc_8.out.below (b9)
       have Sc_9 : Hid _ := Rep.below Sc_8.out (b9)
       have B_9 : Hid _ := on B_8.out (b9)
       clear qc0 qx0 qx1
       clear Rs_8 Rx_8 Ry_8 Ss_8 Sb_8 Rb_8 Rc_8 Sc_8
       clear h9 b9
       obtain ⟨w10, hw10, V10, b10, z10⟩ := q0q w9 26 [.slice ad nd cd]
       have Rd_10 : Hid _ := V10
       have Rs_10 : Hid _ := Rs_9.out.below (b10)
       have Rx_10 : Hid _ := Rx_9.out.below (b10)
       have Ry_10 : Hid _ := Ry_9.out.below (b10)
       have Ss_10 : Hid _ := Rep.below Ss_9.out (b10)
       have Sb_10 : Hid _ := Rep.below Sb_9.out (b10)
       have Rb_10 : Hid _ := Rb_9.out.below (b10)
       have Rc_10 : Hid _ := Rc_9.out.below (b10)
       have Sc_10 : Hid _ := Rep.below Sc_9.out (b10)
       have Sd_10 : Hid _ := Rep.below Sd_9.out (b10)
       have B_10 : Hid _ := on B_9.out (b10)
       clear Rs_9 Rx_9 Ry_9 Ss_9 Sb_9 Rb_9 Rc_9 Sc_9 Sd_9
       clear V10 b10 z10
       have HD0 : Hid (-9223372036854775808 ≤ Tr.putQ x (Tr.putS y s root) (Tr.putQ y s root)) := by have := Tr.putQ_in x (Tr.putS y s root) (Tr.putQ y s root); unfold Hid; omega
       have HD1 : Hid (Tr.putQ x (Tr.putS y s root) (Tr.putQ y s root) ≤ 9223372036854775807) := by have := Tr.putQ_in x (Tr.putS y s root) (Tr.putQ y s root); unfold Hid; omega
       clear Sc_10 Rc_10
       have qb0 := Rb_10.out.cell (j := 0) rfl
       obtain ⟨qy0, qy1⟩ := Ry_10.out.two
       go_wp2_with (go_at_call 10; refine (q7x _ _).mono ?_; rintro e w99 ⟨rfl, rfl⟩)
       go_at_call 14
       refine Calls.mono (del8_u _ _ (Tr.putS y PS PQ) (Tr.putQ y PS PQ) y.1 _ _ _ Sb_10.out HB0.out HB1.out) ?_
       rintro e w11 ⟨ak, nk, ck, rfl, h11, b11⟩
       have Sk_11 : Hid _ := h11
       have Rs_11 : Hid _ := Rs_10.out.below (b11)
       have Rx_11 : Hid _ := Rx_10.out.below (b11)
       have Ry_11 : Hid _ := Ry_10.out.below (b11)
       have Ss_11 : Hid _ := Rep.below Ss_10.out (b11)
       have Sb_11 : Hid _ := Rep.below Sb_10.out (b11)
       have Rb_11 : Hid _ := Rb_10.out.below (b11)
       have Sd_11 : Hid _ := Rep.below Sd_10.out (b11)
       have Rd_11 : Hid _ := Rd_10.out.below (b11)
       have B_11 : Hid _ := on B_10.out (b11)
       clear qb0 qy0 qy1
       clear Rs_10 Rx_10 Ry_10 Ss_10 Sb_10 Rb_10 Sd_10 Rd_10
       clear h11 b11
       obtain ⟨w12, hw12, V12, b12, z12⟩ := q0q w11 26 [.slice ak nk ck]
       have Rk_12 : Hid _ := V12
       have Rs_12 : Hid _ := Rs_11.out.below (b12)
       have Rx_12 : Hid _ := Rx_11.out.below (b12)
       have Ry_12 : Hid _ := Ry_11.out.below (b12)
       have Ss_12 : Hid _ := Rep.below Ss_11.out (b12)
       have Sb_12 : Hid _ := Rep.below Sb_11.out (b12)
       have Rb_12 : Hid _ := Rb_11.out.below (b12)
       have Sd_12 : Hid _ := Rep.below Sd_11.out (b12)
       have Rd_12 : Hid _ := Rd_11.out.below (b12)
       have Sk_12 : Hid _ := Rep.below Sk_11.out (b12)
       have B_12 : Hid _ := on B_11.out (b12)
       clear Rs_11 Rx_11 Ry_11 Ss_11 Sb_11 Rb_11 Sd_11 Rd_11 Sk_11
       clear V12 b12 z12
       have HZ0 : Hid (-9223372036854775808 ≤ (Tr.delA (Tr.putS y PS PQ) (Tr.putQ y PS PQ) y.1).2.1) := by have := HTwo.out.p; unfold Hid; omega
       have HZ1 : Hid ((Tr.delA (Tr.putS y PS PQ) (Tr.putQ y PS PQ) y.1).2.1 ≤ 9223372036854775807) := by have := HTwo.out.p; unfold Hid; omega
       obtain ⟨Eb, hEb⟩ : ∃ z, z = Tr.putE y PS PQ := ⟨_, rfl⟩
       obtain ⟨Ec, hEc⟩ : ∃ z, z = Tr.putE y s root := ⟨_, rfl⟩
       obtain ⟨Ed, hEd⟩ : ∃ z, z = Tr.putE x (Tr.putS y s root) (Tr.putQ y s root) := ⟨_, rfl⟩
       obtain ⟨Ek, hEk⟩ : ∃ z, z = (Tr.delA (Tr.putS y PS PQ) (Tr.putQ y PS PQ) y.1).2.2.2 := ⟨_, rfl⟩
       rw [← hEb, ← hEc, ← hEd, ← hEk]
       have HEb : Hid _ := hEb
       have HEc : Hid _ := hEc
       have HEd : Hid _ := hEd
       have HEk : Hid _ := hEk
       have hb : Eb = 0 ∨ Eb = 51 := by rw [hEb]; exact HTwo.out.b
       have hc : Ec = 0 ∨ Ec = 51 := by rw [hEc]; exact HTwo.out.c
       have hd : Ed = 0 ∨ Ed = 51 := by rw [hEd]; exact HTwo.out.d
       have hk : Ek = 0 ∨ Ek = 51 := by rw [hEk]; exact HTwo.out.k
       clear hEb hEc hEd hEk
       by_cases hz : Eb = 0 ∧ Ec = 0 ∧ Ed = 0 ∧ Ek = 0
       rotate_left
       · have hL : 1900 < s.length := HTwo.out.no (by rw [← HEb.out, ← HEc.out, ← HEd.out, ← HEk.out]; omega)
         have hL2 : (s.length : Int) > 1900 := by omega
         obtain ⟨F1, hF1⟩ : ∃ z, z = Eb + Ec := ⟨_, rfl⟩
         obtain ⟨F2, hF2⟩ : ∃ z, z = F1 + Ed := ⟨_, rfl⟩
         obtain ⟨F3, hF3⟩ : ∃ z, z = F2 + Ek := ⟨_, rfl⟩
         have eF1 : IntKind.i64.wrap (Eb + Ec) = F1 := by rw [IntKind.wrap_i64]; omega
         have eF2 : IntKind.i64.wrap (F1 + Ed) = F2 := by rw [IntKind.wrap_i64]; omega
         have eF3 : IntKind.i64.wrap (F2 + Ek) = F3 := by rw [IntKind.wrap_i64]; omega
         have eFn : (F3 != 0) = true := bne_iff_ne.2 (by omega)
         clear hb hc hd hk hz hL hF1 hF2 hF3
         have qs0 := Rs_12.out.cell (j := 0) rfl
         go_wp2_with (go_at_call 10; refine (q7x _ _).mono ?_; rintro e w99 ⟨rfl, rfl⟩)
         go_ret
         exact ⟨rfl, B_12.out⟩
       · obtain ⟨rfl, rfl, rfl, rfl⟩ := hz
         have hyes := HTwo.out.yes HEb.out.symm HEc.out.symm HEd.out.symm HEk.out.symm
         obtain ⟨k1, k2, k3, k4, k5, k6⟩ := hyes
         have HK1 : Hid _ := k1
         have HK2 : Hid _ := k2
         have HK3 : Hid _ := k3
         have HK5 : Hid _ := k5
         have HK6 : Hid _ := k6
         rw [k4]
         clear k1 k2 k3 k4 k5 k6 hb hc hd hk
         have qb0 := Rb_12.out.cell (j := 0) rfl
         have HLb : Hid ((Tr.putS y PS PQ).length = nb) := (q0x Sb_12.out).1
         go_wp2_with (go_at_call 10; refine (q7x _ _).mono ?_; rintro e w99 ⟨rfl, rfl⟩)
         go_at_call 19
         refine Calls.mono (ref8_u _ _ _ _ _ _ Sb_12.out) ?_
         rintro e w13 ⟨aul, cul, rfl, h13, b13⟩
         have Su_13 : Hid _ := h13
         have Rs_13 : Hid _ := Rs_12.out.below (b13)
         have Rx_13 : Hid _ := Rx_12.out.below (b13)
         have Ry_13 : Hid _ := Ry_12.out.below (b13)
         have Ss_13 : Hid _ := Rep.below Ss_12.out (b13)
         have Sb_13 : Hid _ := Rep.below Sb_12.out (b13)
         have Rb_13 : Hid _ := Rb_12.out.below (b13)
         have Sd_13 : Hid _ := Rep.below Sd_12.out (b13)
         have Rd_13 : Hid _ := Rd_12.out.below (b13)
         have Sk_13 : Hid _ := Rep.below Sk_12.out (b13)
         have Rk_13 : Hid _ := Rk_12.out.below (b13)
         have B_13 : Hid _ := on B_12.out (b13)
         clear qb0
         clear Rs_12 Rx_12 Ry_12 Ss_12 Sb_12 Rb_12 Sd_12 Rd_12 Sk_12 Rk_12
         clear h13 b13
         rw [← HLb.out]
         have Su9 : Hid (rSectors.rd w13 (fun b => w12.heap.size ≤ b) [.slice aul (Tr.putS y PS PQ).length cul] (Tr.putS y PS PQ)) := by unfold Hid; rw [HLb.out]; exact Su_13.out
         clear Su_13
         have Su_13 : Hid _ := Su9
         clear Su9
         go_wp2_with (go_at_call 10; refine (q7x _ _).mono ?_; rintro e w99 ⟨rfl, rfl⟩)
         go_at_call 18
         refine Calls.mono (qMz _ _ (Tr.putS y PS PQ) (Tr.putQ y PS PQ) _ _ Su_13.out HB0.out HB1.out) ?_
         rintro e w14 ⟨al, nl, cl, rfl, h14, b14⟩
         have Pl_14 : Hid _ := h14
         have Rs_14 : Hid _ := Rs_13.out.below (b14)
         have Rx_14 : Hid _ := Rx_13.out.below (b14)
         have Ry_14 : Hid _ := Ry_13.out.below (b14)
         have Ss_14 : Hid _ := Rep.below Ss_13.out (b14)
         have Sb_14 : Hid _ := Rep.below Sb_13.out (b14)
         have Rb_14 : Hid _ := Rb_13.out.below (b14)
         have Sd_14 : Hid _ := Rep.below Sd_13.out (b14)
         have Rd_14 : Hid _ := Rd_13.out.below (b14)
         have Sk_14 : Hid _ := Rep.below Sk_13.out (b14)
         have Rk_14 : Hid _ := Rk_13.out.below (b14)
         have Su_14 : Hid _ := Rep.below Su_13.out (b14)
         have B_14 : Hid _ := on B_13.out (b14)
         clear Rs_13 Rx_13 Ry_13 Ss_13 Sb_13 Rb_13 Sd_13 Rd_13 Sk_13 Rk_13 Su_13
         clear h14 b14
         rw [HK1.out]
         clear Su_14 Sb_14
         have qd0 := Rd_14.out.cell (j := 0) rfl
         have HLd : Hid ((Tr.putS x (Tr.putS y s root) (Tr.putQ y s root)).length = nd) := (q0x Sd_14.out).1
         go_wp2_with (go_at_call 10; refine (q7x _ _).mono ?_; rintro e w99 ⟨rfl, rfl⟩)
         go_at_call 19
         refine Calls.mono (ref8_u _ _ _ _ _ _ Sd_14.out) ?_
         rintro e w15 ⟨aum, cum, rfl, h15, b15⟩
         have Su_15 : Hid _ := h15
         have Rs_15 : Hid _ := Rs_14.out.below (b15)
         have Rx_15 : Hid _ := Rx_14.out.below (b15)
         have Ry_15 : Hid _ := Ry_14.out.below (b15)
         have Ss_15 : Hid _ := Rep.below Ss_14.out (b15)
         have Rb_15 : Hid _ := Rb_14.out.below (b15)
         have Sd_15 : Hid _ := Rep.below Sd_14.out (b15)
         have Rd_15 : Hid _ := Rd_14.out.below (b15)
         have Sk_15 : Hid _ := Rep.below Sk_14.out (b15)
         have Rk_15 : Hid _ := Rk_14.out.below (b15)
         have Pl_15 : Hid _ := Pl_14.out.below (b15)
         have B_15 : Hid _ := on B_14.out (b15)
         clear qd0
         clear Rs_14 Rx_14 Ry_14 Ss_14 Rb_14 Sd_14 Rd_14 Sk_14 Rk_14 Pl_14
         clear h15 b15
         rw [← HLd.out]
         have Su9 : Hid (rSectors.rd w15 (fun b => w14.heap.size ≤ b) [.slice aum (Tr.putS x (Tr.putS y s root) (Tr.putQ y s root)).length cum] (Tr.putS x (Tr.putS y s root) (Tr.putQ y s root))) := by unfold Hid; rw [HLd.out]; exact Su_15.out
         clear Su_15
         have Su_15 : Hid _ := Su9
         clear Su9
         go_wp2_with (go_at_call 10; refine (q7x _ _).mono ?_; rintro e w99 ⟨rfl, rfl⟩)
         go_at_call 18
         refine Calls.mono (qMz _ _ (Tr.putS x (Tr.putS y s root) (Tr.putQ y s root)) (Tr.putQ x (Tr.putS y s root) (Tr.putQ y s root)) _ _ Su_15.out HD0.out HD1.out) ?_
         rintro e w16 ⟨am, nm, cm, rfl, h16, b16⟩
         have Pm_16 : Hid _ := h16
         have Rs_16 : Hid _ := Rs_15.out.below (b16)
         have Rx_16 : Hid _ := Rx_15.out.below (b16)
         have Ry_16 : Hid _ := Ry_15.out.below (b16)
         have Ss_16 : Hid _ := Rep.below Ss_15.out (b16)
         have Rb_16 : Hid _ := Rb_15.out.below (b16)
         have Sd_16 : Hid _ := Rep.below Sd_15.out (b16)
         have Rd_16 : Hid _ := Rd_15.out.below (b16)
         have Sk_16 : Hid _ := Rep.below Sk_15.out (b16)
         have Rk_16 : Hid _ := Rk_15.out.below (b16)
         have Pl_16 : Hid _ := Pl_15.out.below (b16)
         have Su_16 : Hid _ := Rep.below Su_15.out (b16)
         have B_16 : Hid _ := on B_15.out (b16)
         clear Rs_15 Rx_15 Ry_15 Ss_15 Rb_15 Sd_15 Rd_15 Sk_15 Rk_15 Pl_15 Su_15
         clear h16 b16
         rw [HK2.out]
         clear Su_16 Sd_16
         have qk0 := Rk_16.out.cell (j := 0) rfl
         have HLk : Hid (((Tr.delA (Tr.putS y PS PQ) (Tr.putQ y PS PQ) y.1).1).length = nk) := (q0x Sk_16.out).1
         go_wp2_with (go_at_call 10; refine (q7x _ _).mono ?_; rintro e w99 ⟨rfl, rfl⟩)
         go_at_call 19
         refine Calls.mono (ref8_u _ _ _ _ _ _ Sk_16.out) ?_
         rintro e w17 ⟨aug, cug, rfl, h17, b17⟩
         have Su_17 : Hid _ := h17
         have Rs_17 : Hid _ := Rs_16.out.below (b17)
         have Rx_17 : Hid _ := Rx_16.out.below (b17)
         have Ry_17 : Hid _ := Ry_16.out.below (b17)
         have Ss_17 : Hid _ := Rep.below Ss_16.out (b17)
         have Rb_17 : Hid _ := Rb_16.out.below (b17)
         have Rd_17 : Hid _ := Rd_16.out.below (b17)
         have Sk_17 : Hid _ := Rep.below Sk_16.out (b17)
         have Rk_17 : Hid _ := Rk_16.out.below (b17)
         have Pl_17 : Hid _ := Pl_16.out.below (b17)
         have Pm_17 : Hid _ := Pm_16.out.below (b17)
         have B_17 : Hid _ := on B_16.out (b17)
         clear qk0
         clear Rs_16 Rx_16 Ry_16 Ss_16 Rb_16 Rd_16 Sk_16 Rk_16 Pl_16 Pm_16
         clear h17 b17
         rw [← HLk.out]
         have Su9 : Hid (rSectors.rd w17 (fun b => w16.heap.size ≤ b) [.slice aug ((Tr.delA (Tr.putS y PS PQ) (Tr.putQ y PS PQ) y.1).1).length cug] ((Tr.delA (Tr.putS y PS PQ) (Tr.putQ y PS PQ) y.1).1)) := by unfold Hid; rw [HLk.out]; exact Su_17.out
         clear Su_17
         have Su_17 : Hid _ := Su9
         clear Su9
         go_wp2_with (go_at_call 10; refine (q7x _ _).mono ?_; rintro e w99 ⟨rfl, rfl⟩)
         go_at_call 18
         refine Calls.mono (qMz _ _ ((Tr.delA (Tr.putS y PS PQ) (Tr.putQ y PS PQ) y.1).1) ((Tr.delA (Tr.putS y PS PQ) (Tr.putQ y PS PQ) y.1).2.1) _ _ Su_17.out HZ0.out HZ1.out) ?_
         rintro e w18 ⟨ag, ng, cg, rfl, h18, b18⟩
         have Pg_18 : Hid _ := h18
         have Rs_18 : Hid _ := Rs_17.out.below (b18)
         have Rx_18 : Hid _ := Rx_17.out.below (b18)
         have Ry_18 : Hid _ := Ry_17.out.below (b18)
         have Ss_18 : Hid _ := Rep.below Ss_17.out (b18)
         have Rb_18 : Hid _ := Rb_17.out.below (b18)
         have Rd_18 : Hid _ := Rd_17.out.below (b18)
         have Sk_18 : Hid _ := Rep.below Sk_17.out (b18)
         have Rk_18 : Hid _ := Rk_17.out.below (b18)
         have Pl_18 : Hid _ := Pl_17.out.below (b18)
         have Pm_18 : Hid _ := Pm_17.out.below (b18)
         have Su_18 : Hid _ := Rep.below Su_17.out (b18)
         have B_18 : Hid _ := on B_17.out (b18)
         clear Rs_17 Rx_17 Ry_17 Ss_17 Rb_17 Rd_17 Sk_17 Rk_17 Pl_17 Pm_17 Su_17
         clear h18 b18
         rw [HK3.out]
         clear Su_18 Sk_18
         have qs0 := Rs_18.out.cell (j := 0) rfl
         go_wp2_with (go_at_call 10; refine (q7x _ _).mono ?_; rintro e w99 ⟨rfl, rfl⟩)
         go_at_call 18
         refine Calls.mono (qMz _ _ s root _ _ Ss_18.out HR0.out HR1.out) ?_
         rintro e w19 ⟨ao, no, co, rfl, h19, b19⟩
         have Po_19 : Hid _ := h19
         have Rs_19 : Hid _ := Rs_18.out.below (b19)
         have Rx_19 : Hid _ := Rx_18.out.below (b19)
         have Ry_19 : Hid _ := Ry_18.out.below (b19)
         have Ss_19 : Hid _ := Rep.below Ss_18.out (b19)
         have Rb_19 : Hid _ := Rb_18.out.below (b19)
         have Rd_19 : Hid _ := Rd_18.out.below (b19)
         have Rk_19 : Hid _ := Rk_18.out.below (b19)
         have Pl_19 : Hid _ := Pl_18.out.below (b19)
         have Pm_19 : Hid _ := Pm_18.out.below (b19)
         have Pg_19 : Hid _ := Pg_18.out.below (b19)
         have B_19 : Hid _ := on B_18.out (b19)
         clear qs0
         clear Rs_18 Rx_18 Ry_18 Ss_18 Rb_18 Rd_18 Rk_18 Pl_18 Pm_18 Pg_18
         clear h19 b19
         rw [HE.out]
         have HF1 : Hid ((Tr.readI (Tr.putS y PS PQ) (Tr.putQ y PS PQ)).length ≤ 8796093021952) := by have h := Tr.readI_few (Tr.putS y PS PQ) (Tr.putQ y PS PQ); unfold Hid; omega
         have HF2 : Hid ((Tr.readI (Tr.putS x (Tr.putS y s root) (Tr.putQ y s root)) (Tr.putQ x (Tr.putS y s root) (Tr.putQ y s root))).length ≤ 8796093021952) := by have h := Tr.readI_few (Tr.putS x (Tr.putS y s root) (Tr.putQ y s root)) (Tr.putQ x (Tr.putS y s root) (Tr.putQ y s root)); unfold Hid; omega
         have HF3 : Hid ((Tr.readI (Tr.delA (Tr.putS y PS PQ) (Tr.putQ y PS PQ) y.1).1 (Tr.delA (Tr.putS y PS PQ) (Tr.putQ y PS PQ) y.1).2.1).length ≤ 8796093021952) := by have h := Tr.readI_few (Tr.delA (Tr.putS y PS PQ) (Tr.putQ y PS PQ) y.1).1 (Tr.delA (Tr.putS y PS PQ) (Tr.putQ y PS PQ) y.1).2.1; unfold Hid; omega
         have HFo : Hid ((Tr.readI s root).length ≤ 6144) := Tr.readI_few s root
         have HFa : Hid ((Tr.after (Tr.readI s root) x false).length ≤ 100000) := by have h := HFo.out; have h2 := Tr.after_few s root x; unfold Hid; omega
         have HFb : Hid ((Tr.after (Tr.after (Tr.readI s root) x false) y true).length ≤ 8796093021952) := by have h := HF3.out; rw [HK6.out] at h; exact h
         have HSee : Hid (∀ w', Below w19.heap.size w19 w' → w'.cell? ⟨w0.heap.size, 0, none⟩ = some (.int .u64 (x.1.toNat : Int)) ∧ w'.cell? ⟨w0.heap.size, 1, none⟩ = some (.int .u64 (x.2.toNat : Int)) ∧ w'.cell? ⟨v1.heap.size, 0, none⟩ = some (.int .u64 (y.1.toNat : Int)) ∧ w'.cell? ⟨v1.heap.size, 1, none⟩ = some (.int .u64 (y.2.toNat : Int))) := fun w' hb => ⟨(Rx_19.out.below hb).cell (j := 0) rfl, (Rx_19.out.below hb).cell (j := 1) rfl, (Ry_19.out.below hb).cell (j := 0) rfl, (Ry_19.out.below hb).cell (j := 1) rfl⟩
         have S0 := HSee.out _ (Below.refl _ w19).drew
         go_wp2_with fail
         refine wp_region_held_drew (S := (fun w' : World => w'.cell? ⟨w0.heap.size, 0, none⟩ = some (.int .u64 (x.1.toNat : Int)) ∧ w'.cell? ⟨w0.heap.size, 1, none⟩ = some (.int .u64 (x.2.toNat : Int)) ∧ w'.cell? ⟨v1.heap.size, 0, none⟩ = some (.int .u64 (y.1.toNat : Int)) ∧ w'.cell? ⟨v1.heap.size, 1, none⟩ = some (.int .u64 (y.2.toNat : Int)))) (by kernel_rfl) (S0) (fun hH => ?_)
         refine tkM 0 _ rfl rfl ?_; simp only [sz, ss]
         refine tkM 1 _ rfl rfl ?_; simp only [sz, ss]
         refine tkM 2 _ rfl rfl ?_; simp only [sz, ss]
         refine tkM 3 _ rfl rfl ?_; simp only [sz, ss]
         refine r1L 4 rfl fun K hK => ?_
         · go_simp
           go_at_call 13
           refine Calls.mono (qTJ _ _ _ _ _ _ _ _ _ _ _ (rItms.keep (Pl_19.out.rd HF1.out) (fun _ _ _ => rfl)) (rItms.keep (Pm_19.out.rd HF2.out) (fun _ _ _ => rfl))) ?_
           rintro e v4 ⟨rfl, bq⟩
           have BT4 : Hid (Below w19.heap.size w19 v4) := (Below.refl _ w19).drew.trans bq
           rw [show decide (Tr.readI (Tr.putS y PS PQ) (Tr.putQ y PS PQ) = Tr.readI (Tr.putS x (Tr.putS y s root) (Tr.putQ y s root)) (Tr.putQ x (Tr.putS y s root) (Tr.putQ y s root))) = true from decide_eq_true HK5.out]
           have S4 := HSee.out _ BT4.out
           clear bq
           go_simp
           refine hK.out _ _ (by exact S4) fun hH => ?_; clear hK K
           refine tkM 5 _ rfl rfl ?_; simp only [sz, ss]
           refine tkM 6 _ rfl rfl ?_; simp only [sz, ss]
           refine tkM 7 _ rfl rfl ?_; simp only [sz, ss]
           refine tkM 8 _ rfl rfl ?_; simp only [sz, ss]
           refine tkM 9 _ rfl rfl ?_; simp only [sz, ss]
           refine tkM 11 _ rfl rfl ?_; simp only [sz, ss]
           refine r1L 10 rfl fun K hK => ?_
           · go_simp
             go_at_call 16
             refine Calls.mono (after_u _ _ _ _ _ _ (Rep.below (Po_19.out.rd (by have := HFo.out; omega)) BT4.out) (by have := HFo.out; omega) x false) ?_
             rintro e v10 ⟨a10, n10, c10, rfl, h10, bq⟩
             have BT10 : Hid _ := on BT4.out bq
             have P10 : Hid _ := h10
             have S10 := HSee.out _ BT10.out
             clear bq h10
             go_simp
             refine hK.out _ _ (by exact S10) fun hH => ?_; clear hK K
             refine r1L 12 rfl fun K hK => ?_
             · go_simp
               go_at_call 16
               refine Calls.mono (after_u _ _ _ _ _ _ (P10.out.rd (by have := HFa.out; omega)) HFa.out y true) ?_
               rintro e v12 ⟨a12, n12, c12, rfl, h12, bq⟩
               have BT12 : Hid _ := on BT10.out bq
               have P12 : Hid _ := h12
               have S12 := HSee.out _ BT12.out
               clear bq h12
               go_simp
               refine hK.out _ _ (by exact S12) fun hH => ?_; clear hK K
               refine r1L 13 rfl fun K hK => ?_
               · go_simp
                 go_at_call 13
                 refine Calls.mono (qTJ _ _ _ _ _ _ _ _ _ _ _ (Rep.below (Pg_19.out.rd HF3.out) BT12.out) (P12.out.rd HFb.out)) ?_
                 rintro e v13 ⟨rfl, bq⟩
                 have BT13 : Hid _ := on BT12.out bq
                 rw [show decide (Tr.readI (Tr.delA (Tr.putS y PS PQ) (Tr.putQ y PS PQ) y.1).1 (Tr.delA (Tr.putS y PS PQ) (Tr.putQ y PS PQ) y.1).2.1 = Tr.after (Tr.after (Tr.readI s root) x false) y true) = true from decide_eq_true HK6.out]
                 have S13 := HSee.out _ BT13.out
                 clear bq
                 go_simp
                 refine hK.out _ _ (by exact S13) fun hH => ?_; clear hK K
                 refine tkM 14 _ rfl rfl ?_; simp only [sz, ss]
                 refine tkM 15 _ rfl rfl ?_; simp only [sz, ss]
                 refine wpAnyH_done (by kernel_rfl) ?_ _
                 clear hH S13 S12 S10 S4 S0
                 go_wp2
                 go_ret
                 exact ⟨rfl, B_19.out.trans (BT13.out.mono B_19.out.size)⟩
set_option maxRecDepth 100000 in
theorem qWz (os : Os) (started : os.Started) (H : Type) (enc : TypeId × Value → H) :
 ReturnsInHanded {} Tryz.checked os 5 .any (Rows.treeTurnsSpec.pre6 enc Tryz.prog Tryz.f5 Rows.treeTurnsRow.domain false) (Rows.treeTurnsSpec.post enc Tryz.prog Tryz.f5 false true false false) := by
 refine returnsInHanded_of_change_sized (C := Tryz.checked) own started (by kernel_rfl) Tryz.func5
  (ChangeSpec.witness6 (enc := enc) (C := Tryz.checked) false ⟨#[], #[.agg #[.slice none 0 0], .int .i64 0, .agg #[.int .u64 0, .int .u64 0], .agg #[.int .u64 0, .int .u64 0]], []⟩ 8 (by kernel_rfl) (by kernel_rfl) (by kernel_rfl) (by kernel_rfl)) ?_
 intro W base args ds gs before hval0 hW _ hsz0 _
 have hsz : (DataW.weightsEach Tryz.prog (Tryz.f5.params.toList ++ Rows.treeTurnsSpec.plain.varTypes Tryz.prog) (ds ++ gs)).all (· ≤ reachBytes) = true := hsz0
 clear hsz0
 have hval : ∀ (j : Nat) t v, Tryz.f5.params[j]? = some t → args[j]? = some v → Value.okWide Tryz.prog W .any base t v := hval0
 have hW' := hW
 obtain ⟨p, q, hA0, hV, rfl, hfz, hnd⟩ := hW
 have hA : DataW.TrodAll enc Tryz.prog W 0 (fun _ => true) true Tryz.f5.params.toList args.toList ds p := hA0
 rw [Tryz.params5] at hA hval hsz
 obtain ⟨v0, vs0, d0, ds0, p0, q0, hargs, rfl, rfl, h0, r0⟩ := trodAll_cons hA
 obtain ⟨v1, vs1, d1, ds1, p1, q1, rfl, rfl, rfl, h1, r1⟩ := trodAll_cons r0
 obtain ⟨v2, vs2, d2, ds2, p2, q2, rfl, rfl, rfl, h2, r2⟩ := trodAll_cons r1
 obtain ⟨v3, vs3, d3, ds3, p3, q3, rfl, rfl, rfl, h3, r3⟩ := trodAll_cons r2
 obtain ⟨rfl, rfl, rfl⟩ := trodAll_nil r3
 obtain rfl : args = #[v0, v1, v2, v3] := by cases args; simp_all
 obtain ⟨rfl, rfl⟩ := trodVars_none hV
 obtain ⟨c0, rfl, -⟩ := okWide_struct Tryz.underlying24 (hval 0 24 v0 rfl rfl)
 have k0 := h0
 have lt0 : ∀ x ∈ p0, x.block < W.heap.size := by obtain ⟨m, hm⟩ := k0; exact DataW.trod_lt m _ _ _ hm
 obtain ⟨x0, hx0⟩ := opens_pages.arg h0 hsz (j := 0) rfl rfl
 obtain ⟨a1, rfl, rfl, rfl, w1⟩ := open_int Tryz.underlying3 (hval 1 3 v1 rfl rfl) h1
 have i1 := bounds_i64 w1
 obtain ⟨c2, rfl, -⟩ := okWide_struct Tryz.underlying45 (hval 2 45 v2 rfl rfl)
 have k2 := h2
 have lt2 : ∀ x ∈ p2, x.block < W.heap.size := by obtain ⟨m, hm⟩ := k2; exact DataW.trod_lt m _ _ _ hm
 obtain ⟨x2, hx2⟩ := opens_item.arg h2 hsz (j := 2) rfl rfl
 obtain ⟨c3, rfl, -⟩ := okWide_struct Tryz.underlying45 (hval 3 45 v3 rfl rfl)
 have k3 := h3
 have lt3 : ∀ x ∈ p3, x.block < W.heap.size := by obtain ⟨m, hm⟩ := k3; exact DataW.trod_lt m _ _ _ hm
 obtain ⟨x3, hx3⟩ := opens_item.arg h3 hsz (j := 3) rfl rfl
 clear hA0 hval0
 refine (tturns_walk c0.toList x0 a1 c2.toList x2 c3.toList x3 W hx0 (by omega) (by omega) hx2 hx3).mono fun e W' ⟨he, bel⟩ => ?_
 subst he
 exact ⟨_, rfl, _, _, _, [], _, [], hW', trodAll_mk1 (shut_bool Tryz.underlying4 _), (trodAll_cons_mk (Below.trod laidOut (by kernel_rfl) (of_decide_eq_true (by kernel_rfl)) k0 bel lt0) (trodAll_cons_mk (shut_int Tryz.underlying3 w1) (trodAll_cons_mk (Below.trod laidOut (by kernel_rfl) (of_decide_eq_true (by kernel_rfl)) k2 bel lt2) (trodAll_cons_mk (Below.trod laidOut (by kernel_rfl) (of_decide_eq_true (by kernel_rfl)) k3 bel lt3) trodAll_mk0)))), rfl, bel.frame _, fun h => by cases h⟩
theorem treeTurns_holds : Rows.TreeTurnsSaid :=
 OpenClaim.holds_of_wide 5 Tryz.f5 rfl rfl rfl rfl rfl rfl rfl ⟨rfl, rfl, rfl, rfl, rfl⟩ rfl rfl rfl rfl rfl (by kernel_rfl) Tryz.func5 (by kernel_rfl)
  (of_decide_eq_true (by kernel_rfl)) (by unfold Func.isWrapper; first | (rw [if_pos (by decide +kernel)]; kernel_rfl) | (rw [if_neg (by decide +kernel)]; exact ⟨rfl, rfl⟩))
  (fun os started H enc _ => qWz os started H enc)
end Go.Proofs.YtkbmadoaomoojaaGreat
