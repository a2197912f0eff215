/-
  Behind a taking away a tree is one that may be, without the key; all pages that were not free are as they were. Conditions: none.
-/
import Derived.Test.YtifandmjiblhjaaGreatB08
import Derived.Test.YtifandmjiblhjaaGreatB17
import Derived.Test.YtifandmjiblhjaaGreatB19
import Derived.Test.YtifandmjiblhjaaGreatB20
namespace Go.Proofs.YtifandmjiblhjaaGreat
set_option maxHeartbeats 16000000
set_option maxRecDepth 20000
open Go.ChangeShapes Go.WideShapes Go.ChangeAt Go.RowKit
set_option linter.unusedVariables false
namespace Tr
theorem filter_less {l : List Itm} {p : Itm → Bool} {y : Itm} (hy : y ∈ l) (hp : p y = false) : (l.filter p).length < l.length := by
 induction l with
 | nil => cases hy
 | cons z l ih =>
   rcases List.mem_cons.1 hy with rfl | hy
   · rw [List.filter_cons_of_neg (by rw [hp]; decide), List.length_cons]
     have := List.length_filter_le p l
     omega
   · have := ih hy
     rw [List.filter_cons]
     split
     · rw [List.length_cons, List.length_cons]; omega
     · rw [List.length_cons]; omega
end Tr
set_option maxRecDepth 20000 in
theorem tdels_walk (cs : List Value) (s : Pgs) (root : Int) (kk : Int) (W : World) (h0 : rSectors.rd W (fun b => b < W.heap.size) cs s) (hr0 : -9223372036854775808 ≤ root) (hr1 : root ≤ 9223372036854775807) (hk0 : 0 ≤ kk) (hk1 : kk ≤ 18446744073709551615) :
 Calls Tryz.prog 5 #[.agg cs.toArray, .int .i64 root, .int .u64 kk] W fun e W' => e = .returned (.bool true) ∧ Below W.heap.size W W' := by
 obtain ⟨key, hkey⟩ : ∃ key : UInt64, kk = (key.toNat : Int) := ⟨UInt64.ofNat kk.toNat, by rw [UInt64.toNat_ofNat']; omega⟩
 subst hkey
 clear hk0 hk1
 obtain ⟨a, n, c, rfl, hn, hn5⟩ := rPages_rd h0
 have HN : Hid (s.length = n) := hn
 have HN5 : Hid (n ≤ 5864062014634) := hn5
 have HR0 : Hid (-9223372036854775808 ≤ root) := hr0
 have HR1 : Hid (root ≤ 9223372036854775807) := hr1
 rw [show ([.slice a n c] : List Value).toArray = #[.slice a n c] from rfl]
 obtain ⟨w1, hw1, V1, b1, z1⟩ := q0q W 24 [.slice a n c]
 have Rs_1 : Hid _ := V1
 have B_1 : Hid _ := b1
 have Ss_1 : Hid (rSectors.rd w1 (fun b => b < W.heap.size) [.slice a n c] (s)) := Rep.below h0 B_1.out
 clear V1 b1 z1 h0 hn hn5 hr0 hr1
 go_enter Tryz.func5, Tryz.ntmps5
 have qs0 := Rs_1.out.cell (j := 0) rfl
 go_wp2_with fail
 go_at_call 9
 refine Calls.mono (of8_u _ _ s a n c Ss_1.out) ?_
 rintro e w2 ⟨ao, co, rfl, h2, b2⟩
 have So_2 : Hid (rSectors.rd w2 (fun b => w1.heap.size ≤ b) [.slice ao n co] (s)) := h2
 have Rs_2 : Hid _ := Rs_1.out.below (b2)
 have Ss_2 : Hid (rSectors.rd w2 (fun b => b < W.heap.size) [.slice a n c] (s)) := Rep.below Ss_1.out (b2)
 have B_2 : Hid _ := on B_1.out (b2)
 clear qs0
 clear Rs_1 Ss_1
 clear h2 b2
 have hns : n = s.length := HN.out.symm
 subst hns
 obtain ⟨w3, hw3, V3, b3, z3⟩ := q0q w2 26 [.slice ao s.length co]
 have Ro_3 : Hid _ := V3
 have Rs_3 : Hid _ := Rs_2.out.below (b3)
 have Ss_3 : Hid (rSectors.rd w3 (fun b => b < W.heap.size) [.slice a s.length c] (s)) := Rep.below Ss_2.out (b3)
 have So_3 : Hid (rSectors.rd w3 (fun b => w1.heap.size ≤ b) [.slice ao s.length co] (s)) := Rep.below So_2.out (b3)
 have B_3 : Hid _ := on B_2.out (b3)
 clear Rs_2 Ss_2 So_2
 clear V3 b3 z3
 have qo0 := Ro_3.out.cell (j := 0) rfl
 go_wp2_with (go_at_call 17; refine (q5J _ _).mono ?_; rintro e w99 ⟨rfl, rfl⟩)
 go_at_call 29
 refine Calls.mono (del8_u _ _ s root key _ _ _ So_3.out HR0.out HR1.out) ?_
 rintro e w4 ⟨ap, np, cp, rfl, h4, b4⟩
 have Sp_4 : Hid (rSectors.rd w4 (fun b => w3.heap.size ≤ b) [.slice ap np cp] ((Tr.delA s root key).1)) := h4
 have Rs_4 : Hid _ := Rs_3.out.below (b4)
 have Ss_4 : Hid (rSectors.rd w4 (fun b => b < W.heap.size) [.slice a s.length c] (s)) := Rep.below Ss_3.out (b4)
 have So_4 : Hid (rSectors.rd w4 (fun b => w1.heap.size ≤ b) [.slice ao s.length co] (s)) := Rep.below So_3.out (b4)
 have Ro_4 : Hid _ := Ro_3.out.below (b4)
 have B_4 : Hid _ := on B_3.out (b4)
 clear qo0
 clear Rs_3 Ss_3 So_3 Ro_3
 clear h4 b4
 have hcase := Tr.del_cases s root key
 obtain ⟨PP, hPP⟩ : ∃ PP, PP = Tr.delA s root key := ⟨_, rfl⟩
 rw [← hPP] at hcase
 rw [← hPP]
 have SP' : Hid (rSectors.rd w4 (fun b => w3.heap.size ≤ b) [.slice ap np cp] (PP.1)) := by unfold Hid; rw [hPP]; exact Sp_4.out
 obtain ⟨PS, PQ, PW, PE⟩ := PP
 simp only at hcase SP' ⊢
 have HPn : Hid (PS.length = np) := (q0x SP'.out).1
 have HCase : Hid _ := hcase
 clear hPP hcase Sp_4
 have Sp_4 : Hid (rSectors.rd w4 (fun b => w3.heap.size ≤ b) [.slice ap np cp] (PS)) := SP'
 clear SP'
 obtain ⟨w5, hw5, V5, b5, z5⟩ := q0q w4 26 [.slice ap np cp]
 have Rp_5 : Hid _ := V5
 have Rs_5 : Hid _ := Rs_4.out.below (b5)
 have Ss_5 : Hid (rSectors.rd w5 (fun b => b < W.heap.size) [.slice a s.length c] (s)) := Rep.below Ss_4.out (b5)
 have So_5 : Hid (rSectors.rd w5 (fun b => w1.heap.size ≤ b) [.slice ao s.length co] (s)) := Rep.below So_4.out (b5)
 have Ro_5 : Hid _ := Ro_4.out.below (b5)
 have Sp_5 : Hid (rSectors.rd w5 (fun b => w3.heap.size ≤ b) [.slice ap np cp] (PS)) := Rep.below Sp_4.out (b5)
 have B_5 : Hid _ := on B_4.out (b5)
 clear Rs_4 Ss_4 So_4 Ro_4 Sp_4
 clear V5 b5 z5
 have qs0 := Rs_5.out.cell (j := 0) rfl
 go_wp2_with (go_at_call 17; refine (q5J _ _).mono ?_; rintro e w99 ⟨rfl, rfl⟩)
 go_at_call 25
 refine Calls.mono (ritems_u _ _ s root _ _ Ss_5.out HR0.out HR1.out) ?_
 rintro e w6 ⟨al, nl, cl, rfl, h6, b6⟩
 have Pl_6 : Hid _ := h6
 have Rs_6 : Hid _ := Rs_5.out.below (b6)
 have Ss_6 : Hid (rSectors.rd w6 (fun b => b < W.heap.size) [.slice a s.length c] (s)) := Rep.below Ss_5.out (b6)
 have So_6 : Hid (rSectors.rd w6 (fun b => w1.heap.size ≤ b) [.slice ao s.length co] (s)) := Rep.below So_5.out (b6)
 have Ro_6 : Hid _ := Ro_5.out.below (b6)
 have Sp_6 : Hid (rSectors.rd w6 (fun b => w3.heap.size ≤ b) [.slice ap np cp] (PS)) := Rep.below Sp_5.out (b6)
 have Rp_6 : Hid _ := Rp_5.out.below (b6)
 have B_6 : Hid _ := on B_5.out (b6)
 clear qs0
 clear Rs_5 Ss_5 So_5 Ro_5 Sp_5 Rp_5
 clear h6 b6
 go_wp2_with (go_at_call 17; refine (q5J _ _).mono ?_; rintro e w99 ⟨rfl, rfl⟩)
 go_at_call 23
 refine Calls.mono (alive8_u _) ?_
 rintro e w7 ⟨rfl, b7⟩
 have Rs_7 : Hid _ := Rs_6.out.below (b7)
 have Ss_7 : Hid (rSectors.rd w7 (fun b => b < W.heap.size) [.slice a s.length c] (s)) := Rep.below Ss_6.out (b7)
 have So_7 : Hid (rSectors.rd w7 (fun b => w1.heap.size ≤ b) [.slice ao s.length co] (s)) := Rep.below So_6.out (b7)
 have Ro_7 : Hid _ := Ro_6.out.below (b7)
 have Sp_7 : Hid (rSectors.rd w7 (fun b => w3.heap.size ≤ b) [.slice ap np cp] (PS)) := Rep.below Sp_6.out (b7)
 have Rp_7 : Hid _ := Rp_6.out.below (b7)
 have Pl_7 : Hid _ := Pl_6.out.below (b7)
 have B_7 : Hid _ := on B_6.out (b7)
 clear Rs_6 Ss_6 So_6 Ro_6 Sp_6 Rp_6 Pl_6
 clear b7
 have qo0 := Ro_7.out.cell (j := 0) rfl
 have qs0 := Rs_7.out.cell (j := 0) rfl
 go_wp2_with (go_at_call 17; refine (q5J _ _).mono ?_; rintro e w99 ⟨rfl, rfl⟩)
 go_at_call 22
 refine Calls.mono (sameList_r _ _ _ _ _ _ _ _ _ _ _ So_7.out Ss_7.out) ?_
 rintro e w8 ⟨rfl, b8⟩
 have Rs_8 : Hid _ := Rs_7.out.below (b8)
 have Ss_8 : Hid (rSectors.rd w8 (fun b => b < W.heap.size) [.slice a s.length c] (s)) := Rep.below Ss_7.out (b8)
 have So_8 : Hid (rSectors.rd w8 (fun b => w1.heap.size ≤ b) [.slice ao s.length co] (s)) := Rep.below So_7.out (b8)
 have Ro_8 : Hid _ := Ro_7.out.below (b8)
 have Sp_8 : Hid (rSectors.rd w8 (fun b => w3.heap.size ≤ b) [.slice ap np cp] (PS)) := Rep.below Sp_7.out (b8)
 have Rp_8 : Hid _ := Rp_7.out.below (b8)
 have Pl_8 : Hid _ := Pl_7.out.below (b8)
 have B_8 : Hid _ := on B_7.out (b8)
 clear qo0 qs0
 clear Rs_7 Ss_7 So_7 Ro_7 Sp_7 Rp_7 Pl_7
 clear b8
 rw [show (s == s) = true from beq_self_eq_true _]
 clear So_8 Ro_8
 have HNl : Hid ((Tr.readI s root).length = nl) := by obtain ⟨p, q, e, -⟩ := Pl_8.out.slice; simp only [Value.slice.injEq] at e; exact e.2.1.symm
 rcases HCase.out with ⟨hE, hP⟩ | ⟨hE, hP, hL⟩ | ⟨hE, hP, hno⟩ | ⟨PSx, PQx, hE, hP, hyes, hAf⟩
 · cases hP
   obtain rfl : np = 0 := HPn.out.symm
   have hEb : (Tr.readE s root == 0) = false := beq_eq_false_iff_ne.2 hE
   have eE : (Tr.readE s root == Tr.readE s root) = true := beq_self_eq_true _
   clear HCase
   have qp0 := Rp_8.out.cell (j := 0) rfl
   go_wp2_with (go_at_call 17; refine (q5J _ _).mono ?_; rintro e w99 ⟨rfl, rfl⟩)
   go_ret
   exact ⟨rfl, B_8.out⟩
 · cases hP
   rw [hE]
   have hL2 : (s.length : Int) > 2000 := by omega
   clear HCase hE hL
   have qs0 := Rs_8.out.cell (j := 0) rfl
   go_wp2_with (go_at_call 17; refine (q5J _ _).mono ?_; rintro e w99 ⟨rfl, rfl⟩)
   go_ret
   exact ⟨rfl, B_8.out⟩
 · cases hP
   rw [hE]
   have HEs : Hid _ := hE
   have HOk : Hid (Tr.readE s root = 0) := hE
   have HIt : Hid (Tr.readI s root = Tr.after (Tr.readI s root) (key, 0) true) := by unfold Hid; rw [Tr.after_gone]; exact (Tr.filter_all fun y hy => decide_eq_true (hno y hy)).symm
   have HEx : Hid (Tr.Ext s s) := Tr.Ext.refl s
   have HQ0 : Hid _ := HR0
   have HQ1 : Hid _ := HR1
   clear hno
   have HLl : Hid ((Tr.readI s root).length ≤ 100000) := Nat.le_trans (Tr.readI_few s root) (by decide)
   obtain rfl : np = s.length := HPn.out.symm
   clear HCase hE
   go_wp2_with (go_at_call 17; refine (q5J _ _).mono ?_; rintro e w99 ⟨rfl, rfl⟩)
   go_at_call 27
   refine Calls.mono (after_u _ _ _ _ _ _ (Pl_8.out.rd (by have := HLl.out; omega)) HLl.out (key, 0) true) ?_
   rintro e w9 ⟨af, nf, cf, rfl, h9, b9⟩
   have Pf_9 : Hid _ := h9
   have Rs_9 : Hid _ := Rs_8.out.below (b9)
   have Ss_9 : Hid (rSectors.rd w9 (fun b => b < W.heap.size) [.slice a s.length c] (s)) := Rep.below Ss_8.out (b9)
   have Sp_9 : Hid (rSectors.rd w9 (fun b => w3.heap.size ≤ b) [.slice ap s.length cp] (s)) := Rep.below Sp_8.out (b9)
   have Rp_9 : Hid _ := Rp_8.out.below (b9)
   have Pl_9 : Hid _ := Pl_8.out.below (b9)
   have B_9 : Hid _ := on B_8.out (b9)
   clear Rs_8 Ss_8 Sp_8 Rp_8 Pl_8
   clear h9 b9
   have HNf : Hid ((Tr.after (Tr.readI s root) (key, 0) true).length = nf) := by obtain ⟨p, q, e, -⟩ := Pf_9.out.slice; simp only [Value.slice.injEq] at e; exact e.2.1.symm
   have hnfl : ¬ (nf < nl) := by have h := congrArg List.length HIt.out; rw [HNl.out, HNf.out] at h; omega
   have hnfI : ¬ (((nf : Int) < (nl : Int))) := by omega
   have hnfb : decide ((nf : Int) < (nl : Int)) = false := decide_eq_false hnfI
   have qp0 := Rp_9.out.cell (j := 0) rfl
   go_wp2_with (go_at_call 17; refine (q5J _ _).mono ?_; rintro e w99 ⟨rfl, rfl⟩)
   go_at_call 26
   refine Calls.mono (ref8_u _ _ _ _ _ _ Sp_9.out) ?_
   rintro e w10 ⟨au, cu, rfl, h10, b10⟩
   have Su_10 : Hid (rSectors.rd w10 (fun b => w9.heap.size ≤ b) [.slice au s.length cu] (s)) := h10
   have Rs_10 : Hid _ := Rs_9.out.below (b10)
   have Ss_10 : Hid (rSectors.rd w10 (fun b => b < W.heap.size) [.slice a s.length c] (s)) := Rep.below Ss_9.out (b10)
   have Sp_10 : Hid (rSectors.rd w10 (fun b => w3.heap.size ≤ b) [.slice ap s.length cp] (s)) := Rep.below Sp_9.out (b10)
   have Rp_10 : Hid _ := Rp_9.out.below (b10)
   have Pl_10 : Hid _ := Pl_9.out.below (b10)
   have Pf_10 : Hid _ := Pf_9.out.below (b10)
   have B_10 : Hid _ := on B_9.out (b10)
   clear qp0
   clear Rs_9 Ss_9 Sp_9 Rp_9 Pl_9 Pf_9
   clear h10 b10
   go_wp2_with (go_at_call 17; refine (q5J _ _).mono ?_; rintro e w99 ⟨rfl, rfl⟩)
   go_at_call 25
   refine Calls.mono (ritems_u _ _ s root _ _ Su_10.out HQ0.out HQ1.out) ?_
   rintro e w11 ⟨ag, ng, cg, rfl, h11, b11⟩
   have Pg_11 : Hid _ := h11
   have Rs_11 : Hid _ := Rs_10.out.below (b11)
   have Ss_11 : Hid (rSectors.rd w11 (fun b => b < W.heap.size) [.slice a s.length c] (s)) := Rep.below Ss_10.out (b11)
   have Sp_11 : Hid (rSectors.rd w11 (fun b => w3.heap.size ≤ b) [.slice ap s.length cp] (s)) := Rep.below Sp_10.out (b11)
   have Rp_11 : Hid _ := Rp_10.out.below (b11)
   have Pl_11 : Hid _ := Pl_10.out.below (b11)
   have Pf_11 : Hid _ := Pf_10.out.below (b11)
   have Su_11 : Hid (rSectors.rd w11 (fun b => w9.heap.size ≤ b) [.slice au s.length cu] (s)) := Rep.below Su_10.out (b11)
   have B_11 : Hid _ := on B_10.out (b11)
   clear Rs_10 Ss_10 Sp_10 Rp_10 Pl_10 Pf_10 Su_10
   clear h11 b11
   rw [HOk.out]
   clear Su_11
   have HLg : Hid ((Tr.readI s root).length ≤ 8796093021952) := by have h := Tr.readI_few s root; unfold Hid; omega
   have HLf : Hid ((Tr.after (Tr.readI s root) (key, 0) true).length ≤ 8796093021952) := by unfold Hid; rw [← HIt.out]; exact HLg.out
   go_wp2_with (go_at_call 17; refine (q5J _ _).mono ?_; rintro e w99 ⟨rfl, rfl⟩)
   go_at_call 18
   refine Calls.mono (sameItms_u _ _ _ _ _ _ _ _ _ _ _ (Pg_11.out.rd HLg.out) (Pf_11.out.rd HLf.out)) ?_
   rintro e w12 ⟨rfl, b12⟩
   have Rs_12 : Hid _ := Rs_11.out.below (b12)
   have Ss_12 : Hid (rSectors.rd w12 (fun b => b < W.heap.size) [.slice a s.length c] (s)) := Rep.below Ss_11.out (b12)
   have Sp_12 : Hid (rSectors.rd w12 (fun b => w3.heap.size ≤ b) [.slice ap s.length cp] (s)) := Rep.below Sp_11.out (b12)
   have Rp_12 : Hid _ := Rp_11.out.below (b12)
   have Pl_12 : Hid _ := Pl_11.out.below (b12)
   have Pf_12 : Hid _ := Pf_11.out.below (b12)
   have Pg_12 : Hid _ := Pg_11.out.below (b12)
   have B_12 : Hid _ := on B_11.out (b12)
   clear Rs_11 Ss_11 Sp_11 Rp_11 Pl_11 Pf_11 Pg_11
   clear b12
   rw [show decide (Tr.readI s root = Tr.after (Tr.readI s root) (key, 0) true) = true from decide_eq_true HIt.out]
   have qs0 := Rs_12.out.cell (j := 0) rfl
   have qp0 := Rp_12.out.cell (j := 0) rfl
   go_wp2_with (go_at_call 17; refine (q5J _ _).mono ?_; rintro e w99 ⟨rfl, rfl⟩)
   go_at_call 28
   refine Calls.mono (kept_u _ _ _ _ _ _ _ _ _ _ _ Ss_12.out Sp_12.out HEx.out) ?_
   rintro e w13 ⟨rfl, b13⟩
   have Rs_13 : Hid _ := Rs_12.out.below (b13)
   have Ss_13 : Hid (rSectors.rd w13 (fun b => b < W.heap.size) [.slice a s.length c] (s)) := Rep.below Ss_12.out (b13)
   have Sp_13 : Hid (rSectors.rd w13 (fun b => w3.heap.size ≤ b) [.slice ap s.length cp] (s)) := Rep.below Sp_12.out (b13)
   have Rp_13 : Hid _ := Rp_12.out.below (b13)
   have Pl_13 : Hid _ := Pl_12.out.below (b13)
   have Pf_13 : Hid _ := Pf_12.out.below (b13)
   have Pg_13 : Hid _ := Pg_12.out.below (b13)
   have B_13 : Hid _ := on B_12.out (b13)
   clear qs0 qp0
   clear Rs_12 Ss_12 Sp_12 Rp_12 Pl_12 Pf_12 Pg_12
   clear b13
   have qs0 := Rs_13.out.cell (j := 0) rfl
   have qp0 := Rp_13.out.cell (j := 0) rfl
   have eR : (root == root) = true := beq_self_eq_true _
   have eL : ((s.length : Int) == (s.length : Int)) = true := beq_self_eq_true _
   go_wp2_with (go_at_call 17; refine (q5J _ _).mono ?_; rintro e w99 ⟨rfl, rfl⟩)
   go_ret
   exact ⟨rfl, B_13.out⟩
 · cases hP
   rw [hE]
   have HEs : Hid _ := hE
   have HAf : Hid _ := hAf
   have HOk : Hid (Tr.readE PS PQ = 0) := hAf.ok_
   have HIt : Hid (Tr.readI PS PQ = Tr.after (Tr.readI s root) (key, 0) true) := by unfold Hid; rw [hAf.items, Tr.after_gone]; rfl
   have HEx : Hid (Tr.Ext s PS) := hAf.ext
   have HQ0 : Hid (-9223372036854775808 ≤ PQ) := by have := Tr.root_in hAf.ok_; unfold Hid; omega
   have HQ1 : Hid (PQ ≤ 9223372036854775807) := by have := Tr.root_in hAf.ok_; unfold Hid; omega
   have HLt : Hid ((Tr.after (Tr.readI s root) (key, 0) true).length < (Tr.readI s root).length) := by
    unfold Hid
    rw [Tr.after_gone]
    obtain ⟨y, hy, e⟩ := hyes
    exact Tr.filter_less hy (by simp [e])
   clear hAf hyes
   have HLl : Hid ((Tr.readI s root).length ≤ 100000) := Nat.le_trans (Tr.readI_few s root) (by decide)
   obtain rfl : np = PS.length := HPn.out.symm
   clear HCase hE
   go_wp2_with (go_at_call 17; refine (q5J _ _).mono ?_; rintro e w99 ⟨rfl, rfl⟩)
   go_at_call 27
   refine Calls.mono (after_u _ _ _ _ _ _ (Pl_8.out.rd (by have := HLl.out; omega)) HLl.out (key, 0) true) ?_
   rintro e w14 ⟨af, nf, cf, rfl, h14, b14⟩
   have Pf_14 : Hid _ := h14
   have Rs_14 : Hid _ := Rs_8.out.below (b14)
   have Ss_14 : Hid (rSectors.rd w14 (fun b => b < W.heap.size) [.slice a s.length c] (s)) := Rep.below Ss_8.out (b14)
   have Sp_14 : Hid (rSectors.rd w14 (fun b => w3.heap.size ≤ b) [.slice ap PS.length cp] (PS)) := Rep.below Sp_8.out (b14)
   have Rp_14 : Hid _ := Rp_8.out.below (b14)
   have Pl_14 : Hid _ := Pl_8.out.below (b14)
   have B_14 : Hid _ := on B_8.out (b14)
   clear Rs_8 Ss_8 Sp_8 Rp_8 Pl_8
   clear h14 b14
   have HNf : Hid ((Tr.after (Tr.readI s root) (key, 0) true).length = nf) := by obtain ⟨p, q, e, -⟩ := Pf_14.out.slice; simp only [Value.slice.injEq] at e; exact e.2.1.symm
   have hnfl : nf < nl := by rw [← HNf.out, ← HNl.out]; exact HLt.out
   have hnfI : ((nf : Int) < (nl : Int)) := by omega
   have hnfb : decide ((nf : Int) < (nl : Int)) = true := decide_eq_true hnfI
   have qp0 := Rp_14.out.cell (j := 0) rfl
   go_wp2_with (go_at_call 17; refine (q5J _ _).mono ?_; rintro e w99 ⟨rfl, rfl⟩)
   go_at_call 26
   refine Calls.mono (ref8_u _ _ _ _ _ _ Sp_14.out) ?_
   rintro e w15 ⟨au, cu, rfl, h15, b15⟩
   have Su_15 : Hid (rSectors.rd w15 (fun b => w14.heap.size ≤ b) [.slice au PS.length cu] (PS)) := h15
   have Rs_15 : Hid _ := Rs_14.out.below (b15)
   have Ss_15 : Hid (rSectors.rd w15 (fun b => b < W.heap.size) [.slice a s.length c] (s)) := Rep.below Ss_14.out (b15)
   have Sp_15 : Hid (rSectors.rd w15 (fun b => w3.heap.size ≤ b) [.slice ap PS.length cp] (PS)) := Rep.below Sp_14.out (b15)
   have Rp_15 : Hid _ := Rp_14.out.below (b15)
   have Pl_15 : Hid _ := Pl_14.out.below (b15)
   have Pf_15 : Hid _ := Pf_14.out.below (b15)
   have B_15 : Hid _ := on B_14.out (b15)
   clear qp0
   clear Rs_14 Ss_14 Sp_14 Rp_14 Pl_14 Pf_14
   clear h15 b15
   go_wp2_with (go_at_call 17; refine (q5J _ _).mono ?_; rintro e w99 ⟨rfl, rfl⟩)
   go_at_call 25
   refine Calls.mono (ritems_u _ _ PS PQ _ _ Su_15.out HQ0.out HQ1.out) ?_
   rintro e w16 ⟨ag, ng, cg, rfl, h16, b16⟩
   have Pg_16 : Hid _ := h16
   have Rs_16 : Hid _ := Rs_15.out.below (b16)
   have Ss_16 : Hid (rSectors.rd w16 (fun b => b < W.heap.size) [.slice a s.length c] (s)) := Rep.below Ss_15.out (b16)
   have Sp_16 : Hid (rSectors.rd w16 (fun b => w3.heap.size ≤ b) [.slice ap PS.length cp] (PS)) := Rep.below Sp_15.out (b16)
   have Rp_16 : Hid _ := Rp_15.out.below (b16)
   have Pl_16 : Hid _ := Pl_15.out.below (b16)
   have Pf_16 : Hid _ := Pf_15.out.below (b16)
   have Su_16 : Hid (rSectors.rd w16 (fun b => w14.heap.size ≤ b) [.slice au PS.length cu] (PS)) := Rep.below Su_15.out (b16)
   have B_16 : Hid _ := on B_15.out (b16)
   clear Rs_15 Ss_15 Sp_15 Rp_15 Pl_15 Pf_15 Su_15
   clear h16 b16
   rw [HOk.out]
   clear Su_16
   have HLg : Hid ((Tr.readI PS PQ).length ≤ 8796093021952) := by have h := Tr.readI_few PS PQ; unfold Hid; omega
   have HLf : Hid ((Tr.after (Tr.readI s root) (key, 0) true).length ≤ 8796093021952) := by unfold Hid; rw [← HIt.out]; exact HLg.out
   go_wp2_with (go_at_call 17; refine (q5J _ _).mono ?_; rintro e w99 ⟨rfl, rfl⟩)
   go_at_call 18
   refine Calls.mono (sameItms_u _ _ _ _ _ _ _ _ _ _ _ (Pg_16.out.rd HLg.out) (Pf_16.out.rd HLf.out)) ?_
   rintro e w17 ⟨rfl, b17⟩
   have Rs_17 : Hid _ := Rs_16.out.below (b17)
   have Ss_17 : Hid (rSectors.rd w17 (fun b => b < W.heap.size) [.slice a s.length c] (s)) := Rep.below Ss_16.out (b17)
   have Sp_17 : Hid (rSectors.rd w17 (fun b => w3.heap.size ≤ b) [.slice ap PS.length cp] (PS)) := Rep.below Sp_16.out (b17)
   have Rp_17 : Hid _ := Rp_16.out.below (b17)
   have Pl_17 : Hid _ := Pl_16.out.below (b17)
   have Pf_17 : Hid _ := Pf_16.out.below (b17)
   have Pg_17 : Hid _ := Pg_16.out.below (b17)
   have B_17 : Hid _ := on B_16.out (b17)
   clear Rs_16 Ss_16 Sp_16 Rp_16 Pl_16 Pf_16 Pg_16
   clear b17
   rw [show decide (Tr.readI PS PQ = Tr.after (Tr.readI s root) (key, 0) true) = true from decide_eq_true HIt.out]
   have qs0 := Rs_17.out.cell (j := 0) rfl
   have qp0 := Rp_17.out.cell (j := 0) rfl
   go_wp2_with (go_at_call 17; refine (q5J _ _).mono ?_; rintro e w99 ⟨rfl, rfl⟩)
   go_at_call 28
   refine Calls.mono (kept_u _ _ _ _ _ _ _ _ _ _ _ Ss_17.out Sp_17.out HEx.out) ?_
   rintro e w18 ⟨rfl, b18⟩
   have Rs_18 : Hid _ := Rs_17.out.below (b18)
   have Ss_18 : Hid (rSectors.rd w18 (fun b => b < W.heap.size) [.slice a s.length c] (s)) := Rep.below Ss_17.out (b18)
   have Sp_18 : Hid (rSectors.rd w18 (fun b => w3.heap.size ≤ b) [.slice ap PS.length cp] (PS)) := Rep.below Sp_17.out (b18)
   have Rp_18 : Hid _ := Rp_17.out.below (b18)
   have Pl_18 : Hid _ := Pl_17.out.below (b18)
   have Pf_18 : Hid _ := Pf_17.out.below (b18)
   have Pg_18 : Hid _ := Pg_17.out.below (b18)
   have B_18 : Hid _ := on B_17.out (b18)
   clear qs0 qp0
   clear Rs_17 Ss_17 Sp_17 Rp_17 Pl_17 Pf_17 Pg_17
   clear b18
   have qs0 := Rs_18.out.cell (j := 0) rfl
   have qp0 := Rp_18.out.cell (j := 0) rfl
   go_wp2_with (go_at_call 17; refine (q5J _ _).mono ?_; rintro e w99 ⟨rfl, rfl⟩)
   go_ret
   exact ⟨rfl, B_18.out⟩
set_option maxRecDepth 100000 in
theorem tdels_lifted (os : Os) (started : os.Started) (H : Type) (enc : TypeId × Value → H) :
 ReturnsInHanded {} Tryz.checked os 5 .any (Rows.treeDeletesSpec.pre6 enc Tryz.prog Tryz.f5 Rows.treeDeletesRow.domain false) (Rows.treeDeletesSpec.post enc Tryz.prog Tryz.f5 false true false false) := by
 refine returnsInHanded_of_change_sized (C := Tryz.checked) own started (by kernel_rfl) Tryz.func5
  (ChangeSpec.witness6 (enc := enc) (C := Tryz.checked) false ⟨#[], #[.agg #[.slice none 0 0], .int .i64 0, .int .u64 0], []⟩ 8 (by kernel_rfl) (by kernel_rfl) (by kernel_rfl) (by kernel_rfl)) ?_
 intro W base args ds gs before hval0 hW _ hsz0 _
 have hsz : (DataW.weightsEach Tryz.prog (Tryz.f5.params.toList ++ Rows.treeDeletesSpec.plain.varTypes Tryz.prog) (ds ++ gs)).all (· ≤ reachBytes) = true := hsz0
 clear hsz0
 have hval : ∀ (j : Nat) t v, Tryz.f5.params[j]? = some t → args[j]? = some v → Value.okWide Tryz.prog W .any base t v := hval0
 have hW' := hW
 obtain ⟨p, q, hA0, hV, rfl, hfz, hnd⟩ := hW
 have hA : DataW.TrodAll enc Tryz.prog W 0 (fun _ => true) true Tryz.f5.params.toList args.toList ds p := hA0
 rw [Tryz.params5] at hA hval hsz
 obtain ⟨v0, vs0, d0, ds0, p0, q0, hargs, rfl, rfl, h0, r0⟩ := trodAll_cons hA
 obtain ⟨v1, vs1, d1, ds1, p1, q1, rfl, rfl, rfl, h1, r1⟩ := trodAll_cons r0
 obtain ⟨v2, vs2, d2, ds2, p2, q2, rfl, rfl, rfl, h2, r2⟩ := trodAll_cons r1
 obtain ⟨rfl, rfl, rfl⟩ := trodAll_nil r2
 obtain rfl : args = #[v0, v1, v2] := by cases args; simp_all
 obtain ⟨rfl, rfl⟩ := trodVars_none hV
 obtain ⟨c0, rfl, -⟩ := okWide_struct Tryz.underlying24 (hval 0 24 v0 rfl rfl)
 have k0 := h0
 have lt0 : ∀ x ∈ p0, x.block < W.heap.size := by obtain ⟨m, hm⟩ := k0; exact DataW.trod_lt m _ _ _ hm
 obtain ⟨x0, hx0⟩ := opens_pages.arg h0 hsz (j := 0) rfl rfl
 obtain ⟨a1, rfl, rfl, rfl, w1⟩ := open_int Tryz.underlying3 (hval 1 3 v1 rfl rfl) h1
 have i1 := bounds_i64 w1
 obtain ⟨a2, rfl, rfl, rfl, w2⟩ := open_int Tryz.underlying25 (hval 2 25 v2 rfl rfl) h2
 have i2 := bounds_u64 w2
 clear hA0 hval0
 refine (tdels_walk c0.toList x0 a1 a2 W hx0 (by omega) (by omega) (by omega) (by omega)).mono fun e W' ⟨he, bel⟩ => ?_
 subst he
 exact ⟨_, rfl, _, _, _, [], _, [], hW', trodAll_mk1 (shut_bool Tryz.underlying4 _), (trodAll_cons_mk (Below.trod laidOut (by kernel_rfl) (of_decide_eq_true (by kernel_rfl)) k0 bel lt0) (trodAll_cons_mk (shut_int Tryz.underlying3 w1) (trodAll_cons_mk (shut_int Tryz.underlying25 w2) trodAll_mk0))), rfl, bel.frame _, fun h => by cases h⟩
theorem treeDeletes_holds : Rows.TreeDeletesSaid :=
 OpenClaim.holds_of_wide 5 Tryz.f5 rfl rfl rfl rfl rfl rfl rfl ⟨rfl, rfl, rfl, rfl, rfl⟩ rfl rfl rfl rfl rfl (by kernel_rfl) Tryz.func5 (by kernel_rfl)
  (of_decide_eq_true (by kernel_rfl)) (by unfold Func.isWrapper; first | (rw [if_pos (by decide +kernel)]; kernel_rfl) | (rw [if_neg (by decide +kernel)]; exact ⟨rfl, rfl⟩))
  (fun os started H enc _ => tdels_lifted os started H enc)
end Go.Proofs.YtifandmjiblhjaaGreat
