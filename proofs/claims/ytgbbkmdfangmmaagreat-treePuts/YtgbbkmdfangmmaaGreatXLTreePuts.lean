/-
  Behind a put a tree is one that may be, with the item more, or with another value; all pages that were not free are as they were, and the elder root has what it had. Conditions: none.
-/
import Derived.Test.YtgbbkmdfangmmaaGreatB08
import Derived.Test.YtgbbkmdfangmmaaGreatB17
import Derived.Test.YtgbbkmdfangmmaaGreatB20
import Derived.Test.YtgbbkmdfangmmaaGreatB21
namespace Go.Proofs.YtgbbkmdfangmmaaGreat
set_option maxRecDepth 20000
open Go.ChangeShapes Go.WideShapes Go.ChangeAt Go.RowKit
set_option linter.unusedVariables false
namespace Tr
theorem after_putT (s : Pgs) (root : Int) (x : Itm) : after (readI s root) x false = putT x (readI s root) := after_put readI_up x
end Tr
set_option maxRecDepth 20000 in
set_option maxHeartbeats 8000000 in
theorem tputs_walk (cs : List Value) (s : Pgs) (root : Int) (ds : List Value) (x : Itm) (W : World) (h0 : rSectors.rd W (fun b => b < W.heap.size) cs s) (hr0 : -9223372036854775808 ≤ root) (hr1 : root ≤ 9223372036854775807) (h2 : rItm.rd W (fun b => b < W.heap.size) ds x) :
 Calls Tryz.prog 4 #[.agg cs.toArray, .int .i64 root, .agg ds.toArray] W fun e W' => e = .returned (.bool true) ∧ Below W.heap.size W W' := by
 obtain ⟨a, n, c, rfl, hn, hn5⟩ := rPages_rd h0
 have HN : Hid (s.length = n) := hn
 have HN5 : Hid (n ≤ 5864062014634) := hn5
 have HR0 : Hid (-9223372036854775808 ≤ root) := hr0
 have HR1 : Hid (root ≤ 9223372036854775807) := hr1
 rw [show ([.slice a n c] : List Value).toArray = #[.slice a n c] from rfl]
 obtain rfl := rItm_rd.1 h2
 rw [show (itm2 x).toArray = #[.int .u64 (x.1.toNat : Int), .int .u64 (x.2.toNat : Int)] from rfl]
 obtain ⟨w0, hw0, V0, b0, z0⟩ := boxedRow W 24 [.slice a n c]
 obtain ⟨w1, hw1, V1, b1, z1⟩ := boxedRow w0 29 [.int .u64 (x.1.toNat : Int), .int .u64 (x.2.toNat : Int)]
 rw [z0] at V1
 have Rs_1 : Hid (Row w1 (W.heap.size) 24 [.slice a n c]) := V0.below b1
 have Rx_1 : Hid _ := V1
 have B_1 : Hid (Below W.heap.size W w1) := on b0 b1
 have Ss_1 : Hid (rSectors.rd w1 (fun b => b < W.heap.size) [.slice a n c] (s)) := Rep.below h0 B_1.out
 clear V0 V1 b0 b1 z1 h0 h2 hn hn5 hr0 hr1
 go_enter Tryz.func4, Tryz.ntmps4
 have qs0 := Rs_1.out.cell (j := 0) rfl
 go_wp2_with fail
 go_at_call 9
 refine Calls.mono (of8_u _ _ s a n c Ss_1.out) ?_
 rintro e w2 ⟨ao, co, rfl, h2, b2⟩
 have So_2 : Hid (rSectors.rd w2 (fun b => w1.heap.size ≤ b) [.slice ao n co] (s)) := h2
 have Rs_2 : Hid _ := Rs_1.out.below (b2)
 have Rx_2 : Hid _ := Rx_1.out.below (b2)
 have Ss_2 : Hid _ := Rep.below Ss_1.out (b2)
 have B_2 : Hid _ := on B_1.out (b2)
 clear qs0
 clear Rs_1 Rx_1 Ss_1
 clear h2 b2
 have hns : n = s.length := HN.out.symm
 subst hns
 obtain ⟨w3, hw3, V3, b3, z3⟩ := boxedRow w2 26 [.slice ao s.length co]
 have Ro_3 : Hid _ := V3
 have Rs_3 : Hid _ := Rs_2.out.below (b3)
 have Rx_3 : Hid _ := Rx_2.out.below (b3)
 have Ss_3 : Hid _ := Rep.below Ss_2.out (b3)
 have So_3 : Hid _ := Rep.below So_2.out (b3)
 have B_3 : Hid _ := on B_2.out (b3)
 clear Rs_2 Rx_2 Ss_2 So_2
 clear V3 b3 z3
 have qo0 := Ro_3.out.cell (j := 0) rfl
 obtain ⟨qx0, qx1⟩ := Rx_3.out.two
 go_wp2_with (go_at_call 17; refine (num8_u _ _).mono ?_; rintro e w99 ⟨rfl, rfl⟩)
 go_at_call 24
 refine Calls.mono (put8_u _ _ s root x _ _ _ So_3.out HR0.out HR1.out) ?_
 rintro e w4 ⟨ap, np, cp, rfl, h4, b4⟩
 have Sp_4 : Hid (rSectors.rd w4 (fun b => w3.heap.size ≤ b) [.slice ap np cp] (Tr.putS x s root)) := h4
 have Rs_4 : Hid _ := Rs_3.out.below (b4)
 have Rx_4 : Hid _ := Rx_3.out.below (b4)
 have Ss_4 : Hid _ := Rep.below Ss_3.out (b4)
 have So_4 : Hid _ := Rep.below So_3.out (b4)
 have Ro_4 : Hid _ := Ro_3.out.below (b4)
 have B_4 : Hid _ := on B_3.out (b4)
 clear qo0 qx0 qx1
 clear Rs_3 Rx_3 Ss_3 So_3 Ro_3
 clear h4 b4
 have HPn : Hid ((Tr.putS x s root).length = np) := (rList_len Sp_4.out).1
 have hcase := Tr.put_cases x s root
 obtain ⟨PE, hPE⟩ : ∃ PE, PE = Tr.putE x s root := ⟨_, rfl⟩
 obtain ⟨PQ, hPQ⟩ : ∃ PQ, PQ = Tr.putQ x s root := ⟨_, rfl⟩
 obtain ⟨PS, hPS⟩ : ∃ PS, PS = Tr.putS x s root := ⟨_, rfl⟩
 have HPQI := Tr.putQ_in x s root
 rw [← hPE, ← hPQ, ← hPS] at hcase
 rw [← hPQ] at HPQI
 rw [← hPS] at HPn
 rw [← hPE, ← hPQ]
 have Sp_4' : Hid (rSectors.rd w4 (fun b => w3.heap.size ≤ b) [.slice ap np cp] (PS)) := by unfold Hid; rw [hPS]; exact Sp_4.out
 have HCase : Hid _ := hcase
 have HPQ2 : Hid _ := HPQI
 clear hPE hPQ hPS hcase HPQI Sp_4
 have Sp_4 : Hid (rSectors.rd w4 (fun b => w3.heap.size ≤ b) [.slice ap np cp] (PS)) := Sp_4'
 clear Sp_4'
 obtain ⟨w5, hw5, V5, b5, z5⟩ := boxedRow w4 26 [.slice ap np cp]
 have Rp_5 : Hid _ := V5
 have Rs_5 : Hid _ := Rs_4.out.below (b5)
 have Rx_5 : Hid _ := Rx_4.out.below (b5)
 have Ss_5 : Hid _ := Rep.below Ss_4.out (b5)
 have So_5 : Hid _ := Rep.below So_4.out (b5)
 have Ro_5 : Hid _ := Ro_4.out.below (b5)
 have Sp_5 : Hid _ := Rep.below Sp_4.out (b5)
 have B_5 : Hid _ := on B_4.out (b5)
 clear Rs_4 Rx_4 Ss_4 So_4 Ro_4 Sp_4
 clear V5 b5 z5
 have qs0 := Rs_5.out.cell (j := 0) rfl
 go_wp2_with (go_at_call 17; refine (num8_u _ _).mono ?_; rintro e w99 ⟨rfl, rfl⟩)
 go_at_call 25
 refine Calls.mono (ritems_u _ _ s root _ _ Ss_5.out HR0.out HR1.out) ?_
 rintro e w6 ⟨al, nl, cl, rfl, h6, b6⟩
 have Pl_6 : Hid _ := h6
 have Rs_6 : Hid _ := Rs_5.out.below (b6)
 have Rx_6 : Hid _ := Rx_5.out.below (b6)
 have Ss_6 : Hid _ := Rep.below Ss_5.out (b6)
 have So_6 : Hid _ := Rep.below So_5.out (b6)
 have Ro_6 : Hid _ := Ro_5.out.below (b6)
 have Sp_6 : Hid _ := Rep.below Sp_5.out (b6)
 have Rp_6 : Hid _ := Rp_5.out.below (b6)
 have B_6 : Hid _ := on B_5.out (b6)
 clear qs0
 clear Rs_5 Rx_5 Ss_5 So_5 Ro_5 Sp_5 Rp_5
 clear h6 b6
 go_wp2_with (go_at_call 17; refine (num8_u _ _).mono ?_; rintro e w99 ⟨rfl, rfl⟩)
 go_at_call 23
 refine Calls.mono (alive8_u _) ?_
 rintro e w7 ⟨rfl, b7⟩
 have Rs_7 : Hid _ := Rs_6.out.below (b7)
 have Rx_7 : Hid _ := Rx_6.out.below (b7)
 have Ss_7 : Hid _ := Rep.below Ss_6.out (b7)
 have So_7 : Hid _ := Rep.below So_6.out (b7)
 have Ro_7 : Hid _ := Ro_6.out.below (b7)
 have Sp_7 : Hid _ := Rep.below Sp_6.out (b7)
 have Rp_7 : Hid _ := Rp_6.out.below (b7)
 have Pl_7 : Hid _ := Pl_6.out.below (b7)
 have B_7 : Hid _ := on B_6.out (b7)
 clear Rs_6 Rx_6 Ss_6 So_6 Ro_6 Sp_6 Rp_6 Pl_6
 clear b7
 have qo0 := Ro_7.out.cell (j := 0) rfl
 have qs0 := Rs_7.out.cell (j := 0) rfl
 go_wp2_with (go_at_call 17; refine (num8_u _ _).mono ?_; rintro e w99 ⟨rfl, rfl⟩)
 go_at_call 22
 refine Calls.mono (sameList_r _ _ _ _ _ _ _ _ _ _ _ So_7.out Ss_7.out) ?_
 rintro e w8 ⟨rfl, b8⟩
 have Rs_8 : Hid _ := Rs_7.out.below (b8)
 have Rx_8 : Hid _ := Rx_7.out.below (b8)
 have Ss_8 : Hid _ := Rep.below Ss_7.out (b8)
 have So_8 : Hid _ := Rep.below So_7.out (b8)
 have Ro_8 : Hid _ := Ro_7.out.below (b8)
 have Sp_8 : Hid _ := Rep.below Sp_7.out (b8)
 have Rp_8 : Hid _ := Rp_7.out.below (b8)
 have Pl_8 : Hid _ := Pl_7.out.below (b8)
 have B_8 : Hid _ := on B_7.out (b8)
 clear qo0 qs0
 clear Rs_7 Rx_7 Ss_7 So_7 Ro_7 Sp_7 Rp_7 Pl_7
 clear b8
 rw [show (s == s) = true from beq_self_eq_true _]
 clear So_8 Ro_8
 rcases HCase.out with ⟨hE, hP, hS, hQ⟩ | ⟨hE, hP, hL, hS, hQ⟩ | ⟨hE, hP, hAf⟩
 · subst hP hS hQ
   obtain rfl : np = 0 := HPn.out.symm
   have hEb : (Tr.readE s root == 0) = false := beq_eq_false_iff_ne.2 hE
   have eE : (Tr.readE s root == Tr.readE s root) = true := beq_self_eq_true _
   clear HCase
   have qp0 := Rp_8.out.cell (j := 0) rfl
   go_wp2_with (go_at_call 17; refine (num8_u _ _).mono ?_; rintro e w99 ⟨rfl, rfl⟩)
   go_ret
   exact ⟨rfl, B_8.out⟩
 · subst hP hS hQ
   rw [hE]
   have hL2 : (s.length : Int) > 2000 := by omega
   clear HCase hE hL
   have qs0 := Rs_8.out.cell (j := 0) rfl
   go_wp2_with (go_at_call 17; refine (num8_u _ _).mono ?_; rintro e w99 ⟨rfl, rfl⟩)
   go_ret
   exact ⟨rfl, B_8.out⟩
 · subst hP
   rw [hE]
   have HEs : Hid _ := hE
   have HAf : Hid _ := hAf
   have HQ0 : Hid (-9223372036854775808 ≤ PQ) := by have := HPQ2.out; unfold Hid; omega
   have HQ1 : Hid (PQ ≤ 9223372036854775807) := by have := HPQ2.out; unfold Hid; omega
   have HLl : Hid ((Tr.readI s root).length ≤ 100000) := Nat.le_trans (Tr.readI_few s root) (by decide)
   clear HCase hE hAf
   have qp0 := Rp_8.out.cell (j := 0) rfl
   go_wp2_with (go_at_call 17; refine (num8_u _ _).mono ?_; rintro e w99 ⟨rfl, rfl⟩)
   go_at_call 26
   refine Calls.mono (ref8_u _ _ _ _ _ _ Sp_8.out) ?_
   rintro e w9 ⟨au, cu, rfl, h9, b9⟩
   have Su_9 : Hid (rSectors.rd w9 (fun b => w8.heap.size ≤ b) [.slice au np cu] (PS)) := h9
   have Rs_9 : Hid _ := Rs_8.out.below (b9)
   have Rx_9 : Hid _ := Rx_8.out.below (b9)
   have Ss_9 : Hid _ := Rep.below Ss_8.out (b9)
   have Sp_9 : Hid _ := Rep.below Sp_8.out (b9)
   have Rp_9 : Hid _ := Rp_8.out.below (b9)
   have Pl_9 : Hid _ := Pl_8.out.below (b9)
   have B_9 : Hid _ := on B_8.out (b9)
   clear qp0
   clear Rs_8 Rx_8 Ss_8 Sp_8 Rp_8 Pl_8
   clear h9 b9
   have hnp : np = PS.length := HPn.out.symm
   subst hnp
   go_wp2_with (go_at_call 17; refine (num8_u _ _).mono ?_; rintro e w99 ⟨rfl, rfl⟩)
   go_at_call 25
   refine Calls.mono (ritems_u _ _ PS PQ _ _ Su_9.out HQ0.out HQ1.out) ?_
   rintro e w10 ⟨ag, ng, cg, rfl, h10, b10⟩
   have Pg_10 : Hid _ := h10
   have Rs_10 : Hid _ := Rs_9.out.below (b10)
   have Rx_10 : Hid _ := Rx_9.out.below (b10)
   have Ss_10 : Hid _ := Rep.below Ss_9.out (b10)
   have Sp_10 : Hid _ := Rep.below Sp_9.out (b10)
   have Rp_10 : Hid _ := Rp_9.out.below (b10)
   have Pl_10 : Hid _ := Pl_9.out.below (b10)
   have Su_10 : Hid _ := Rep.below Su_9.out (b10)
   have B_10 : Hid _ := on B_9.out (b10)
   clear Rs_9 Rx_9 Ss_9 Sp_9 Rp_9 Pl_9 Su_9
   clear h10 b10
   rw [HAf.out.ok_]
   clear Su_10
   have qp0 := Rp_10.out.cell (j := 0) rfl
   go_wp2_with (go_at_call 17; refine (num8_u _ _).mono ?_; rintro e w99 ⟨rfl, rfl⟩)
   go_at_call 26
   refine Calls.mono (ref8_u _ _ _ _ _ _ Sp_10.out) ?_
   rintro e w11 ⟨av, cv, rfl, h11, b11⟩
   have Sv_11 : Hid (rSectors.rd w11 (fun b => w10.heap.size ≤ b) [.slice av PS.length cv] (PS)) := h11
   have Rs_11 : Hid _ := Rs_10.out.below (b11)
   have Rx_11 : Hid _ := Rx_10.out.below (b11)
   have Ss_11 : Hid _ := Rep.below Ss_10.out (b11)
   have Sp_11 : Hid _ := Rep.below Sp_10.out (b11)
   have Rp_11 : Hid _ := Rp_10.out.below (b11)
   have Pl_11 : Hid _ := Pl_10.out.below (b11)
   have Pg_11 : Hid _ := Pg_10.out.below (b11)
   have B_11 : Hid _ := on B_10.out (b11)
   clear qp0
   clear Rs_10 Rx_10 Ss_10 Sp_10 Rp_10 Pl_10 Pg_10
   clear h11 b11
   go_wp2_with (go_at_call 17; refine (num8_u _ _).mono ?_; rintro e w99 ⟨rfl, rfl⟩)
   go_at_call 25
   refine Calls.mono (ritems_u _ _ PS root _ _ Sv_11.out HR0.out HR1.out) ?_
   rintro e w12 ⟨ah, nh, ch, rfl, h12, b12⟩
   have Ph_12 : Hid _ := h12
   have Rs_12 : Hid _ := Rs_11.out.below (b12)
   have Rx_12 : Hid _ := Rx_11.out.below (b12)
   have Ss_12 : Hid _ := Rep.below Ss_11.out (b12)
   have Sp_12 : Hid _ := Rep.below Sp_11.out (b12)
   have Rp_12 : Hid _ := Rp_11.out.below (b12)
   have Pl_12 : Hid _ := Pl_11.out.below (b12)
   have Pg_12 : Hid _ := Pg_11.out.below (b12)
   have Sv_12 : Hid _ := Rep.below Sv_11.out (b12)
   have B_12 : Hid _ := on B_11.out (b12)
   clear Rs_11 Rx_11 Ss_11 Sp_11 Rp_11 Pl_11 Pg_11 Sv_11
   clear h12 b12
   clear Sv_12
   have HEl := Tr.elder HAf.out.ext HAf.out.few HEs.out
   rw [HEl.1]
   have HEI : Hid _ := HEl.2
   clear HEl
   obtain ⟨qx0, qx1⟩ := Rx_12.out.two
   go_wp2_with (go_at_call 17; refine (num8_u _ _).mono ?_; rintro e w99 ⟨rfl, rfl⟩)
   go_at_call 27
   refine Calls.mono (after_u _ _ _ _ _ _ (Pl_12.out.rd (by have := HLl.out; omega)) HLl.out x false) ?_
   rintro e w13 ⟨af, nf, cf, rfl, h13, b13⟩
   have Pf_13 : Hid _ := h13
   have Rs_13 : Hid _ := Rs_12.out.below (b13)
   have Rx_13 : Hid _ := Rx_12.out.below (b13)
   have Ss_13 : Hid _ := Rep.below Ss_12.out (b13)
   have Sp_13 : Hid _ := Rep.below Sp_12.out (b13)
   have Rp_13 : Hid _ := Rp_12.out.below (b13)
   have Pl_13 : Hid _ := Pl_12.out.below (b13)
   have Pg_13 : Hid _ := Pg_12.out.below (b13)
   have Ph_13 : Hid _ := Ph_12.out.below (b13)
   have B_13 : Hid _ := on B_12.out (b13)
   clear qx0 qx1
   clear Rs_12 Rx_12 Ss_12 Sp_12 Rp_12 Pl_12 Pg_12 Ph_12
   clear h13 b13
   have HLf : Hid ((Tr.after (Tr.readI s root) x false).length ≤ 8796093021952) := by
    have h := Tr.readI_few PS PQ
    rw [HAf.out.items, ← Tr.after_putT] at h
    unfold Hid
    omega
   have HLg : Hid ((Tr.readI PS PQ).length ≤ 8796093021952) := by have h := Tr.readI_few PS PQ; unfold Hid; omega
   have HLh : Hid ((Tr.readI PS root).length ≤ 8796093021952) := by have h := Tr.readI_few PS root; unfold Hid; omega
   go_wp2_with (go_at_call 17; refine (num8_u _ _).mono ?_; rintro e w99 ⟨rfl, rfl⟩)
   go_at_call 18
   refine Calls.mono (sameItms_u _ _ _ _ _ _ _ _ _ _ _ (Pg_13.out.rd HLg.out) (Pf_13.out.rd HLf.out)) ?_
   rintro e w14 ⟨rfl, b14⟩
   have Rs_14 : Hid _ := Rs_13.out.below (b14)
   have Rx_14 : Hid _ := Rx_13.out.below (b14)
   have Ss_14 : Hid _ := Rep.below Ss_13.out (b14)
   have Sp_14 : Hid _ := Rep.below Sp_13.out (b14)
   have Rp_14 : Hid _ := Rp_13.out.below (b14)
   have Pl_14 : Hid _ := Pl_13.out.below (b14)
   have Pg_14 : Hid _ := Pg_13.out.below (b14)
   have Ph_14 : Hid _ := Ph_13.out.below (b14)
   have Pf_14 : Hid _ := Pf_13.out.below (b14)
   have B_14 : Hid _ := on B_13.out (b14)
   clear Rs_13 Rx_13 Ss_13 Sp_13 Rp_13 Pl_13 Pg_13 Ph_13 Pf_13
   clear b14
   rw [show decide (Tr.readI PS PQ = Tr.after (Tr.readI s root) x false) = true from decide_eq_true (by rw [HAf.out.items, ← Tr.after_putT])]
   go_wp2_with (go_at_call 17; refine (num8_u _ _).mono ?_; rintro e w99 ⟨rfl, rfl⟩)
   go_at_call 18
   refine Calls.mono (sameItms_u _ _ _ _ _ _ _ _ _ _ _ (Ph_14.out.rd HLh.out) (Pl_14.out.rd (by have := HLl.out; omega))) ?_
   rintro e w15 ⟨rfl, b15⟩
   have Rs_15 : Hid _ := Rs_14.out.below (b15)
   have Rx_15 : Hid _ := Rx_14.out.below (b15)
   have Ss_15 : Hid _ := Rep.below Ss_14.out (b15)
   have Sp_15 : Hid _ := Rep.below Sp_14.out (b15)
   have Rp_15 : Hid _ := Rp_14.out.below (b15)
   have Pl_15 : Hid _ := Pl_14.out.below (b15)
   have Pg_15 : Hid _ := Pg_14.out.below (b15)
   have Ph_15 : Hid _ := Ph_14.out.below (b15)
   have Pf_15 : Hid _ := Pf_14.out.below (b15)
   have B_15 : Hid _ := on B_14.out (b15)
   clear Rs_14 Rx_14 Ss_14 Sp_14 Rp_14 Pl_14 Pg_14 Ph_14 Pf_14
   clear b15
   rw [show decide (Tr.readI PS root = Tr.readI s root) = true from decide_eq_true HEI.out]
   have qs0 := Rs_15.out.cell (j := 0) rfl
   have qp0 := Rp_15.out.cell (j := 0) rfl
   go_wp2_with (go_at_call 17; refine (num8_u _ _).mono ?_; rintro e w99 ⟨rfl, rfl⟩)
   go_at_call 28
   refine Calls.mono (kept_u _ _ _ _ _ _ _ _ _ _ _ Ss_15.out Sp_15.out HAf.out.ext) ?_
   rintro e w16 ⟨rfl, b16⟩
   have Rs_16 : Hid _ := Rs_15.out.below (b16)
   have Rx_16 : Hid _ := Rx_15.out.below (b16)
   have Ss_16 : Hid _ := Rep.below Ss_15.out (b16)
   have Sp_16 : Hid _ := Rep.below Sp_15.out (b16)
   have Rp_16 : Hid _ := Rp_15.out.below (b16)
   have Pl_16 : Hid _ := Pl_15.out.below (b16)
   have Pg_16 : Hid _ := Pg_15.out.below (b16)
   have Ph_16 : Hid _ := Ph_15.out.below (b16)
   have Pf_16 : Hid _ := Pf_15.out.below (b16)
   have B_16 : Hid _ := on B_15.out (b16)
   clear qs0 qp0
   clear Rs_15 Rx_15 Ss_15 Sp_15 Rp_15 Pl_15 Pg_15 Ph_15 Pf_15
   clear b16
   go_wp2_with (go_at_call 17; refine (num8_u _ _).mono ?_; rintro e w99 ⟨rfl, rfl⟩)
   go_ret
   exact ⟨rfl, B_16.out⟩
set_option maxRecDepth 100000 in
theorem tputs_lifted (os : Os) (started : os.Started) (H : Type) (enc : TypeId × Value → H) :
 ReturnsInHanded {} Tryz.checked os 4 .any (Rows.treePutsSpec.pre6 enc Tryz.prog Tryz.f4 Rows.treePutsRow.domain false) (Rows.treePutsSpec.post enc Tryz.prog Tryz.f4 false true false false) := by
 refine returnsInHanded_of_change_sized (C := Tryz.checked) own started (by kernel_rfl) Tryz.func4
  (ChangeSpec.witness6 (enc := enc) (C := Tryz.checked) false ⟨#[], #[.agg #[.slice none 0 0], .int .i64 0, .agg #[.int .u64 0, .int .u64 0]], []⟩ 8 (by kernel_rfl) (by kernel_rfl) (by kernel_rfl) (by kernel_rfl)) ?_
 intro W base args ds gs before hval0 hW _ hsz0 _
 have hsz : (DataW.weightsEach Tryz.prog (Tryz.f4.params.toList ++ Rows.treePutsSpec.plain.varTypes Tryz.prog) (ds ++ gs)).all (· ≤ reachBytes) = true := hsz0
 clear hsz0
 have hval : ∀ (j : Nat) t v, Tryz.f4.params[j]? = some t → args[j]? = some v → Value.okWide Tryz.prog W .any base t v := hval0
 have hW' := hW
 obtain ⟨p, q, hA0, hV, rfl, hfz, hnd⟩ := hW
 have hA : DataW.TrodAll enc Tryz.prog W 0 (fun _ => true) true Tryz.f4.params.toList args.toList ds p := hA0
 rw [Tryz.params4] at hA hval hsz
 obtain ⟨v0, vs0, d0, ds0, p0, q0, hargs, rfl, rfl, h0, r0⟩ := trodAll_cons hA
 obtain ⟨v1, vs1, d1, ds1, p1, q1, rfl, rfl, rfl, h1, r1⟩ := trodAll_cons r0
 obtain ⟨v2, vs2, d2, ds2, p2, q2, rfl, rfl, rfl, h2, r2⟩ := trodAll_cons r1
 obtain ⟨rfl, rfl, rfl⟩ := trodAll_nil r2
 obtain rfl : args = #[v0, v1, v2] := by cases args; simp_all
 obtain ⟨rfl, rfl⟩ := trodVars_none hV
 obtain ⟨c0, rfl, -⟩ := okWide_struct Tryz.underlying24 (hval 0 24 v0 rfl rfl)
 have k0 := h0
 have lt0 : ∀ x ∈ p0, x.block < W.heap.size := by obtain ⟨m, hm⟩ := k0; exact DataW.trod_lt m _ _ _ hm
 obtain ⟨x0, hx0⟩ := opens_pages.arg h0 hsz (j := 0) rfl rfl
 obtain ⟨a1, rfl, rfl, rfl, w1⟩ := open_int Tryz.underlying3 (hval 1 3 v1 rfl rfl) h1
 have i1 := bounds_i64 w1
 obtain ⟨c2, rfl, -⟩ := okWide_struct Tryz.underlying29 (hval 2 29 v2 rfl rfl)
 have k2 := h2
 have lt2 : ∀ x ∈ p2, x.block < W.heap.size := by obtain ⟨m, hm⟩ := k2; exact DataW.trod_lt m _ _ _ hm
 obtain ⟨x2, hx2⟩ := opens_item.arg h2 hsz (j := 2) rfl rfl
 clear hA0 hval0
 refine (tputs_walk c0.toList x0 a1 c2.toList x2 W hx0 (by omega) (by omega) hx2).mono fun e W' ⟨he, bel⟩ => ?_
 subst he
 exact ⟨_, rfl, _, _, _, [], _, [], hW', trodAll_mk1 (shut_bool Tryz.underlying4 _), (trodAll_cons_mk (Below.trod laidOut (by kernel_rfl) (of_decide_eq_true (by kernel_rfl)) k0 bel lt0) (trodAll_cons_mk (shut_int Tryz.underlying3 w1) (trodAll_cons_mk (Below.trod laidOut (by kernel_rfl) (of_decide_eq_true (by kernel_rfl)) k2 bel lt2) trodAll_mk0))), rfl, bel.frame _, fun h => by cases h⟩
theorem treePuts_holds : Rows.TreePutsSaid :=
 OpenClaim.holds_of_wide 4 Tryz.f4 rfl rfl rfl rfl rfl rfl rfl ⟨rfl, rfl, rfl, rfl, rfl⟩ rfl rfl rfl rfl rfl (by kernel_rfl) Tryz.func4 (by kernel_rfl)
  (of_decide_eq_true (by kernel_rfl)) (by unfold Func.isWrapper; first | (rw [if_pos (by decide +kernel)]; kernel_rfl) | (rw [if_neg (by decide +kernel)]; exact ⟨rfl, rfl⟩))
  (fun os started H enc _ => tputs_lifted os started H enc)
end Go.Proofs.YtgbbkmdfangmmaaGreat
