/-
  The landed refs: Used, at whatever maps. Conditions: those that each contract names.
-/
import Derived.Test.YtinlgoljaiolnaaNAsk
import Derived.Test.YtinlgoljaiolnaaNUse
import Derived.Test.YtinlgoljaiolnaaREB
import Derived.BigQuiet
namespace Go.Proofs.Ytinlgoljaiolnaa
open Go.RowKit
set_option linter.unusedVariables false

set_option maxRecDepth 20000 in
set_option maxHeartbeats 4000000 in
theorem used1_u (w : World) (P : Nat → Prop) (a : Option Addr) (n c : Nat) (l : List Rfr) (hL : rRfrs.rd w P [.slice a n c] l) (hlow : ∀ x ∈ l, Rf.Low x) (hfew : l.length ≤ 9216) :
    Calls Try.prog 40 #[.slice a n c] w fun e w' => ∃ b, e = .returned b ∧ OwnS 24 w' w.heap.size b (Rf.usedC (Rf.countsD l)) ∧ Below w.heap.size w w' := by
  have HR : Hid _ := hL
  have HLow : Hid (∀ x ∈ l, Rf.Low x) := hlow
  have HFw : Hid (l.length ≤ 9216) := hfew
  have HCin : Hid (∀ y ∈ Rf.countsD l, Rf.Cin y) := Rf.counts_in hlow hfew
  have hcf := Rf.counts_few hlow hfew
  clear hL hlow hfew
  go_enter Try.func40, Try.ntmps40
  go_wp2_with fail
  refine (counted_u _ _ _ _ _ l HR.out HLow.out HFw.out).mono ?_
  rintro e w3 ⟨b, rfl, ho2, b2⟩
  obtain ⟨a2, c2, hv2, -, -⟩ := ho2.slice
  subst hv2
  generalize hC : Rf.countsD l = C at *
  obtain ⟨n3, hn3⟩ : ∃ n3, n3 = C.length := ⟨_, rfl⟩
  have HDl : Hid (C.length = n3) := hn3.symm
  rw [← hn3] at ho2 hcf ⊢
  have HD3 : Hid (rExts.rd w3 (fun b => w.heap.size ≤ b) [.slice a2 n3 c2] C) := ho2.rd (by rw [HDl.out]; omega)
  have HMD : Hid (∀ q, ∀ y ∈ (C.take q).foldl Rf.glueC [], Rf.Sin y) := fun q => Rf.used_sin (fun y hy => HCin.out y (List.mem_of_mem_take hy)) (fun y hy => by cases hy)
  have HGl : Hid (∀ q, ((C.take q).foldl Rf.glueC []).length ≤ q) := fun q => Nat.le_trans (Rf.used_len _ _) (by rw [List.length_take]; simp only [List.length_nil]; omega)
  have HB03 : Hid (Below w.heap.size w w3) := b2
  have HZ3 : Hid (w.heap.size ≤ w3.heap.size) := HB03.out.size
  have HCC : Hid (Rf.countsD l = C) := hC
  clear ho2 b2 hn3 hC
  go_wp2
  go_loopw [3, 10] (fun o i wr => ∃ q : Nat, q ≤ n3 ∧ i = .int .i64 q ∧ Hid (OwnS 24 wr w3.heap.size o ((C.take q).foldl Rf.glueC [])) ∧ Below w3.heap.size w3 wr) (fun _ i _ => n3 - (intOf i).toNat)
  case atStart => exact ⟨0, Nat.zero_le _, rfl, OwnS.nil _ _ _, Below.refl _ _⟩
  case round =>
    obtain ⟨q, hq, rfl, HO, bel5⟩ := hrel
    have B5 : Hid (Below w3.heap.size w3 wr) := bel5
    by_cases hqj : q < n3
    · have hqs : q < C.length := by rw [HDl.out]; exact hqj
      obtain ⟨g3, o3, rfl, -, hg3, hat3⟩ := rExts_at (Rep.below HD3.out bel5) (by omega)
      obtain ⟨e0, e1, e2, hin⟩ := hat3 q hqs
      have HNg : Hid _ := Rf.used_next hqs
      have hYo := HCin.out C[q] (List.getElem_mem hqs)
      have hmg := HMD.out q
      have hgl := HGl.out q
      obtain ⟨Y, hY⟩ : ∃ Y, Y = C[q] := ⟨_, rfl⟩
      rw [← hY] at e0 e1 e2 HNg hYo hin
      have HY2 : Hid (In2 (Y.1, Y.2.1)) := ⟨hin.1, hin.2.1⟩
      generalize hGG : (C.take q).foldl Rf.glueC [] = G at *
      clear hY hat3 hin
      unfold Rf.Cin at hYo
      obtain ⟨y1, y2, y3, y4, y5⟩ := hYo
      have hqz : (q : Int) < (n3 : Int) := by omega
      obtain ⟨w6, hw6, V6, b6, z6⟩ := boxedRow wr 56 [.int .i64 Y.1, .int .i64 Y.2.1, .int .i64 Y.2.2]
      obtain ⟨d0, d1, d2⟩ := V6.three
      have B6 : Hid (Below w3.heap.size w3 w6) := on bel5 b6
      have HZ6 : Hid (w3.heap.size ≤ w6.heap.size) := B6.out.size
      have HO6 : Hid (OwnS 24 w6 w3.heap.size _ G) := HO.out.below b6
      clear V6 b6 z6 bel5 HO hg3
      rcases List.eq_nil_or_concat G with hG | ⟨m, y, hG⟩
      · rw [hG] at HO6 HNg
        obtain ⟨ao, co, hvo, -, -⟩ := HO6.out.slice
        subst hvo
        clear hG hmg hgl
        go_wp2_with fail
        go_quiet (fail)
        have hbz : w3.heap.size ≤ (w6.drewN nq).heap.size := HZ6.out
        have hoa : OwnS 24 ((w6.drewN nq).alloc (.cells #[.int .i64 Y.1, .int .i64 Y.2.1] 24)) w3.heap.size (.slice ao 0 co) ([]) := (HO6.out.keep (fun _ _ _ => rfl) : OwnS 24 (w6.drewN nq) w3.heap.size (.slice ao 0 co) ([])).below ((Below.refl _ _).alloc (Nat.le_refl _) _)
        have hsz : w3.heap.size ≤ ((w6.drewN nq).alloc (.cells #[.int .i64 Y.1, .int .i64 Y.2.1] 24)).heap.size := Nat.le_trans hbz (by simp)
        obtain ⟨v1, w8, hr1, ho1, g1⟩ := run_append_spns hoa ((OwnS.lit 24 (w6.drewN nq) w3.heap.size hbz (Y.1, Y.2.1) HY2.out).rd (show (1 : Nat) ≤ 8796093021952 by decide)) (by simp only [List.length_nil]; omega) hsz 42
        have HB1 : Hid (Below w3.heap.size w3 w8) := ((same_drewN B6.out nq).alloc hbz _).trans (hoa.base_below hsz g1)
        have HR8 : Hid _ := hr1
        have HO8 : Hid (OwnS 24 w8 w3.heap.size v1 ((C.take (q + 1)).foldl Rf.glueC [])) := by unfold Hid; rw [HNg.out, Rf.glueC_nil]; exact ho1
        clear hr1 ho1 g1 hoa hsz hbz
        go_wp2_with (at_builtin; refine Lib.wpList_append_run _ rfl _ _ _ _ rfl _ _ rfl rfl _ _ HR8.out ?_)
        go_roundw
        case rel => exact ⟨q + 1, by omega, by go_num, HO8, HB1.out⟩
        case measure => simp [intOf]; omega
      · rw [List.concat_eq_append] at hG
        subst hG
        have hym := hmg y (by simp)
        unfold Rf.Sin at hym
        obtain ⟨z1, z2, z3⟩ := hym
        rw [List.length_append, List.length_singleton] at hgl
        obtain ⟨ao, co, hvo, -, -⟩ := HO6.out.slice
        rw [show (m ++ [y]).length = m.length + 1 by simp] at hvo
        subst hvo
        obtain ⟨go, rfl, hgb, hgo, -, hato⟩ := HO6.out.at (by simp)
        obtain ⟨hml, hmy⟩ := Rf.spn_last9 m y
        obtain ⟨o0, o1, of⟩ := hato m.length hml
        rw [hmy] at o0 o1
        have of1 := of (m.length * 2 + 1)
        have hk1 : (m.length : Int) < ((m.length + 1 : Nat) : Int) := by omega
        have hk2 : (m.length : Int) < (m.length : Int) + 1 := by omega
        have HGB : Hid (w3.heap.size ≤ go) := hgb
        have hm0 : decide ((m.length : Int) < 0) = false := decide_eq_false (by omega)
        have hm1 : decide (0 ≤ (m.length : Int)) = true := decide_eq_true (by omega)
        have ew : IntKind.i64.wrap (y.1 + y.2) = y.1 + y.2 := by rw [IntKind.wrap_i64]; omega
        clear hato of hmg hml hmy
        by_cases hle : y.1 + y.2 = Y.1
        · have hle' : decide (y.1 + y.2 = Y.1) = true := decide_eq_true hle
          have hleb : (y.1 + y.2 == Y.1) = true := beq_iff_eq.2 hle
          have HIn : Hid _ := Rf.glueC_in (m := m) (c := Y) hle
          have hnew : y.2 + Y.2.1 ≤ 65536 := by omega
          clear hle
          go_wp2_with fail
          go_quiet (fail)
          go_wp2_with fail
          go_region
          go_wp2
          obtain ⟨hml, hmy⟩ := Rf.spn_last9 m y
          have ho1 : OwnS 24 (w6.drewN nq).drew w3.heap.size (.slice (some ⟨go, 0, none⟩) (m ++ [y]).length co) (m ++ [y]) := by rw [List.length_append]; exact HO6.out.keep (fun _ _ _ => rfl)
          have hs := ho1.setLen hml (m := y.2 + Y.2.1) (by unfold In64; omega)
          rw [hmy, List.length_append] at hs
          go_roundw
          case rel => exact ⟨q + 1, by omega, by go_num, by rw [HNg.out, HIn.out]; exact hs, (same_drewN B6.out nq).drew.setCell (p := ⟨go, m.length * 2 + 1, none⟩) HGB.out _⟩
          case measure => simp [intOf]; omega
        · have hle' : decide (y.1 + y.2 = Y.1) = false := decide_eq_false hle
          have hleb : (y.1 + y.2 == Y.1) = false := beq_eq_false_iff_ne.2 hle
          have HOu : Hid _ := Rf.glueC_out (m := m) (c := Y) hle
          go_wp2_with fail
          go_quiet (fail)
          have hbz : w3.heap.size ≤ (w6.drewN nq).heap.size := HZ6.out
          have hoa : OwnS 24 ((w6.drewN nq).alloc (.cells #[.int .i64 Y.1, .int .i64 Y.2.1] 24)) w3.heap.size (.slice (some ⟨go, 0, none⟩) (m.length + 1) co) (m ++ [y]) := (HO6.out.keep (fun _ _ _ => rfl) : OwnS 24 (w6.drewN nq) w3.heap.size (.slice (some ⟨go, 0, none⟩) (m.length + 1) co) (m ++ [y])).below ((Below.refl _ _).alloc (Nat.le_refl _) _)
          have hsz : w3.heap.size ≤ ((w6.drewN nq).alloc (.cells #[.int .i64 Y.1, .int .i64 Y.2.1] 24)).heap.size := Nat.le_trans hbz (by simp)
          obtain ⟨v1, w8, hr1, ho1, g1⟩ := run_append_spns hoa ((OwnS.lit 24 (w6.drewN nq) w3.heap.size hbz (Y.1, Y.2.1) HY2.out).rd (show (1 : Nat) ≤ 8796093021952 by decide)) (by rw [List.length_append]; simp only [List.length_singleton]; omega) hsz 42
          have HB1 : Hid (Below w3.heap.size w3 w8) := ((same_drewN B6.out nq).alloc hbz _).trans (hoa.base_below hsz g1)
          have HR8 : Hid _ := hr1
          have HO8 : Hid (OwnS 24 w8 w3.heap.size v1 ((C.take (q + 1)).foldl Rf.glueC [])) := by unfold Hid; rw [HNg.out, HOu.out]; exact ho1
          clear hr1 ho1 g1 hoa hsz hbz
          go_wp2_with (at_builtin; refine Lib.wpList_append_run _ rfl _ _ _ _ rfl _ _ rfl rfl _ _ HR8.out ?_)
          go_roundw
          case rel => exact ⟨q + 1, by omega, by go_num, HO8, HB1.out⟩
          case measure => simp [intOf]; omega
    · have hqe : q = n3 := by omega
      subst hqe
      have HFin : Hid ((C.take q).foldl Rf.glueC [] = Rf.usedC C) := by unfold Hid Rf.usedC; rw [List.take_of_length_le (by rw [HDl.out]; exact Nat.le_refl _)]
      have HOf : Hid _ := HO.out.mono HZ3.out
      clear HO
      go_wp2
      go_ret
      exact ⟨_, rfl, by rw [HCC.out, ← HFin.out]; exact HOf.out, on HB03.out B5.out⟩

namespace Rf
def useL (x : Spn) (M : List Mpr) : List Spn := if whoE x M = 0 then usedC (countsD (whoR x M)) else []
theorem useL_no {x : Spn} {M : List Mpr} (h : ¬ whoE x M = 0) : useL x M = [] := if_neg h
theorem useL_ok {x : Spn} {M : List Mpr} (h : whoE x M = 0) : useL x M = usedC (countsD (whoR x M)) := if_pos h
end Rf

set_option maxRecDepth 20000 in
set_option maxHeartbeats 4000000 in
theorem askedS_u (w : World) (P : Nat → Prop) (a : Option Addr) (n c : Nat) (M : List Mpr) (hM : rMps.rd w P [.slice a n c] M) (x : Spn) (hx : In2 x) :
    Calls Try.prog 39 #[.slice a n c, .agg #[.int .i64 x.1, .int .i64 x.2], .func (.func 40) #[] #[]] w fun e w' => ∃ b, e = .returned (.tuple #[b, .int .i64 (Rf.whoE x M)]) ∧ OwnS 24 w' w.heap.size b (Rf.useL x M) ∧ Below w.heap.size w w' := by
  obtain ⟨w1, hw1, V1, b1, z1⟩ := boxedRow w 24 [.int .i64 x.1, .int .i64 x.2]
  obtain ⟨s0, s1⟩ : w1.cell? ⟨w.heap.size, 0, none⟩ = some (.int .i64 x.1) ∧ w1.cell? ⟨w.heap.size, 1, none⟩ = some (.int .i64 x.2) := ⟨V1.cell (j := 0) rfl, V1.cell (j := 1) rfl⟩
  have HV1 : Hid (Row w1 w.heap.size 24 [.int .i64 x.1, .int .i64 x.2]) := V1
  have B1 : Hid (Below w.heap.size w w1) := b1
  have HM1 : Hid (rMps.rd w1 P [.slice a n c] M) := Rep.below hM b1
  have HX : Hid (In2 x) := hx
  clear V1 b1 z1 hM hx
  by_cases hC : Rf.checkM M = 0
  · have HC : Hid (Rf.checkM M = 0) := hC
    by_cases hxx : x.1 < 0 ∨ x.2 < 1
    · have E4 : Hid (Rf.whoE x M = 4) := Rf.whoE_four hC hxx
      clear hC
      go_enter Try.func39, Try.ntmps39
      go_wp2_with fail
      refine (refsCheck_u _ P _ _ _ M HM1.out).mono ?_
      rintro e w2 ⟨rfl, b2⟩
      rw [HC.out]
      obtain ⟨t0, t1⟩ : w2.cell? ⟨w.heap.size, 0, none⟩ = some (.int .i64 x.1) ∧ w2.cell? ⟨w.heap.size, 1, none⟩ = some (.int .i64 x.2) := ⟨(HV1.out.below b2).cell (j := 0) rfl, (HV1.out.below b2).cell (j := 1) rfl⟩
      have B2 : Hid (Below w.heap.size w w2) := on B1.out b2
      clear b2
      by_cases h0 : x.1 < 0
      · go_wp2
        go_ret2
        exact ⟨_, by rw [E4.out]; rfl, by rw [Rf.useL_no (by rw [E4.out]; decide)]; exact OwnS.nil _ _ _, B2.out⟩
      · have h1 : x.2 < 1 := by omega
        go_wp2
        go_ret2
        exact ⟨_, by rw [E4.out]; rfl, by rw [Rf.useL_no (by rw [E4.out]; decide)]; exact OwnS.nil _ _ _, B2.out⟩
    · have E0 : Hid (Rf.whoE x M = 0) := Rf.whoE_zero.2 ⟨hC, by omega, by omega⟩
      have h0 : 0 ≤ x.1 := by omega
      have h1 : 1 ≤ x.2 := by omega
      clear hC hxx
      go_enter Try.func39, Try.ntmps39
      go_wp2_with fail
      refine (refsCheck_u _ P _ _ _ M HM1.out).mono ?_
      rintro e w2 ⟨rfl, b2⟩
      rw [HC.out]
      obtain ⟨t0, t1⟩ : w2.cell? ⟨w.heap.size, 0, none⟩ = some (.int .i64 x.1) ∧ w2.cell? ⟨w.heap.size, 1, none⟩ = some (.int .i64 x.2) := ⟨(HV1.out.below b2).cell (j := 0) rfl, (HV1.out.below b2).cell (j := 1) rfl⟩
      have B2 : Hid (Below w.heap.size w w2) := on B1.out b2
      have HM2 : Hid (rMps.rd w2 P [.slice a n c] M) := Rep.below HM1.out b2
      clear b2
      go_wp2_with fail
      refine (into_u _ P _ _ _ M HM2.out HC.out x h0 h1 HX.out).mono ?_
      rintro e w3 ⟨b, rfl, ho, b3⟩
      obtain ⟨a3, c3, rfl, -, -⟩ := ho.slice
      have HO3 : Hid (OwnR 63 w3 w2.heap.size _ _) := ho
      have B3 : Hid (Below w.heap.size w w3) := on B2.out b3
      have HZ2 : Hid (w.heap.size ≤ w2.heap.size) := B2.out.size
      clear ho b3
      go_wp2_with fail
      refine (used1_u _ _ _ _ _ (Rf.whoR x M) (HO3.out.rd (by have := Rf.who_few (x := x) HC.out; omega)) (Rf.who_low HC.out) (Rf.who_few HC.out)).mono ?_
      rintro e w4 ⟨b, rfl, ho, b4⟩
      have HO4 : Hid (OwnS 24 w4 w3.heap.size _ _) := ho
      have B4 : Hid (Below w.heap.size w w4) := on B3.out b4
      clear ho b4
      go_wp2
      go_ret2
      exact ⟨_, by rw [E0.out]; rfl, by rw [Rf.useL_ok E0.out]; exact HO4.out.mono B3.out.size, B4.out⟩
  · have HC : Hid (Rf.checkM M = 9) := (Rf.checkM_or M).resolve_left hC
    have E9 : Hid (Rf.whoE x M = 9) := Rf.whoE_nine hC
    clear hC
    go_enter Try.func39, Try.ntmps39
    go_wp2_with fail
    refine (refsCheck_u _ P _ _ _ M HM1.out).mono ?_
    rintro e w2 ⟨rfl, b2⟩
    rw [HC.out]
    have B2 : Hid (Below w.heap.size w w2) := on B1.out b2
    clear b2
    go_wp2
    go_ret2
    exact ⟨_, by rw [E9.out]; rfl, by rw [Rf.useL_no (by rw [E9.out]; decide)]; exact OwnS.nil _ _ _, B2.out⟩

set_option maxHeartbeats 2000000 in
theorem refsUsed_u (w : World) (P : Nat → Prop) (a : Option Addr) (n c : Nat) (M : List Mpr) (hM : rMps.rd w P [.slice a n c] M) :
    Calls Try.prog 16 #[.slice a n c] w fun e w' => ∃ b, e = .returned (.tuple #[b, .int .i64 (Rf.whoE allS M)]) ∧ OwnS 24 w' w.heap.size b (Rf.useL allS M) ∧ Below w.heap.size w w' := by
  have HM : Hid (rMps.rd w P [.slice a n c] M) := hM
  clear hM
  go_enter Try.func16, Try.ntmps16
  go_wp2_with fail
  refine (allSectors_u _).mono ?_
  rintro e w1 ⟨rfl, b1⟩
  have B1 : Hid (Below w.heap.size w w1) := b1
  have HM1 : Hid (rMps.rd w1 P [.slice a n c] M) := Rep.below HM.out b1
  clear b1
  go_wp2_with fail
  refine (askedS_u _ P _ _ _ M HM1.out allS (by unfold In2 In64 allS; decide)).mono ?_
  rintro e w2 ⟨b, rfl, ho, b2⟩
  have HO : Hid (OwnS 24 w2 w.heap.size b (Rf.useL allS M)) := ho.mono B1.out.size
  have B2 : Hid (Below w.heap.size w w2) := on B1.out b2
  clear ho b2
  go_wp2
  go_ret2
  exact ⟨_, rfl, HO.out, B2.out⟩

end Go.Proofs.Ytinlgoljaiolnaa
