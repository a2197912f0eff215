/-
  Whether an op may be, and a new state, are as the document says. Conditions: none.
-/
import Derived.Test.YtflcojljpbojlaaM10
import Derived.Test.YtflcojljpbojlaaM18
import Derived.Test.YtflcojljpbojlaaM19
import Derived.Test.YtflcojljpbojlaaM20
import Derived.Test.YtflcojljpbojlaaM21
import Derived.Test.YtflcojljpbojlaaM22
namespace Go.Proofs.Ytflcojljpbojlaa
open Go.ChangeShapes Go.WideShapes Go.ChangeAt Go.RowKit
open Go.ChangeMaps (open_string shut_string)
set_option linter.unusedVariables false
set_option maxRecDepth 20000 in
set_option maxHeartbeats 8000000 in
theorem lmay_walk (size : Int) (la : Option Addr) (ln lc : Nat) (l : List Nmd) (next : Int) (xs : List Value) (x : Opn) (W : World) (h1 : -9223372036854775808 ≤ size) (h2 : size ≤ 9223372036854775807) (h0 : rNmds.rd W (fun b => b < W.heap.size) [.slice la ln lc] l) (h3 : -9223372036854775808 ≤ next) (h4 : next ≤ 9223372036854775807) (hx : rOpn.rd W (fun b => b < W.heap.size) xs x) :
    Calls Try.prog 4 #[.int .i64 size, .slice la ln lc, .int .i64 next, .agg xs.toArray] W fun e W' => e = .returned (.bool true) ∧ Below W.heap.size W W' := by
  obtain ⟨xa, xn, xc, rfl, hd, i0, i1, i2, i3, i4⟩ := rOpn_cells hx
  have HLl : Hid (l.length = ln) := (rL_len h0).1
  have HLb : Hid (ln * 24 ≤ 140737488351232) := (rL_len h0).2.2.2
  have HC : Hid (I64 size ∧ I64 next) := ⟨⟨h1, h2⟩, ⟨h3, h4⟩⟩
  rw [show ([.int .i64 x.1, .int .i64 x.2.1, .int .i64 x.2.2.1, .int .i64 x.2.2.2.1, .string x.2.2.2.2.1, .slice xa xn xc] : List Value).toArray = #[.int .i64 x.1, .int .i64 x.2.1, .int .i64 x.2.2.1, .int .i64 x.2.2.2.1, .string x.2.2.2.2.1, .slice xa xn xc] from rfl]
  obtain ⟨w1, hw1, V1, b1, z1⟩ := boxedRow W 28 [.int .i64 x.1, .int .i64 x.2.1, .int .i64 x.2.2.1, .int .i64 x.2.2.2.1, .string x.2.2.2.2.1, .slice xa xn xc]
  have Rx_1 : Hid (Row w1 (W.heap.size) 28 [.int .i64 x.1, .int .i64 x.2.1, .int .i64 x.2.2.1, .int .i64 x.2.2.2.1, .string x.2.2.2.2.1, .slice xa xn xc]) := V1
  have Xx_1 : Hid (rOpn.rd w1 (fun b => b < W.heap.size) [.int .i64 x.1, .int .i64 x.2.1, .int .i64 x.2.2.1, .int .i64 x.2.2.2.1, .string x.2.2.2.2.1, .slice xa xn xc] (x)) := Rep.below hx b1
  have Nl_1 : Hid (rNmds.rd w1 (fun b => b < W.heap.size) [.slice la ln lc] (l)) := Rep.below h0 b1
  have Yd_1 : Hid (rBytes.rd w1 (fun b => b < W.heap.size) [.slice xa xn xc] (x.2.2.2.2.2)) := Rep.below hd b1
  have HIx : Hid (I64 x.1 ∧ I64 x.2.1 ∧ I64 x.2.2.1 ∧ I64 x.2.2.2.1 ∧ x.2.2.2.2.1.size ≤ maxLen) := ⟨i0, i1, i2, i3, i4⟩
  have B_1 : Hid (Below W.heap.size W w1) := b1
  clear V1 b1 z1 hd i0 i1 i2 i3 i4 h0 hx h1 h2 h3 h4
  go_enter Try.func4, Try.ntmps4
  go_wp2_with fail
  have H0 : Hid (Owns rNmd 55 w1 w1.heap.size (.slice none 0 0) (l.take 0)) := by unfold Hid; rw [List.take_zero]; exact Owns.nil _ _ _ _
  go_loopw [9, 10] (fun v i wr => ∃ (k : Nat) (M : List Nmd), k ≤ ln ∧ i = .int .i64 k ∧ M.length = k ∧ Hid (M = l.take k) ∧ Hid (Owns rNmd 55 wr w1.heap.size v M) ∧ Below w1.heap.size w1 wr) (fun _ i _ => ln - (intOf i).toNat)
  case atStart => exact ⟨0, _, Nat.zero_le _, rfl, by simp, rfl, H0, Below.refl _ _⟩
  case round =>
    obtain ⟨j, M, hj, rfl, hml, HM, HO, belo⟩ := hrel
    clear H0
    by_cases hjn : j < ln
    · skip
      have hkl : j < l.length := by rw [HLl.out]; exact hjn
      obtain ⟨g, off, rfl, -, -, hat⟩ := rNmds_at (Rep.below (Rep.below Nl_1.out (Below.refl _ _)) belo) (by omega)
      obtain ⟨c0, c1, hi, hs⟩ := hat j hkl
      have HTk : Hid (l.take (j + 1) = M ++ [(l[j].1, l[j].2)]) := by unfold Hid; rw [HM.out, List.take_succ_eq_append_getElem hkl]
      have hjz : (j : Int) < (ln : Int) := by omega
      have hlb : ln * 24 ≤ 140737488351232 := HLb.out
      have hlc := HLb
      generalize l[j].1 = id at *
      generalize l[j].2 = nm at *
      obtain ⟨w5, hw5, V5, b5, z5⟩ := boxedRow wr 55 [.int .i64 id, .string nm]
      have hs5 : w1.heap.size ≤ w5.heap.size := Nat.le_trans belo.size b5.size
      obtain ⟨v6, w6, hr6, ho6, g6, b6, d6, hv6⟩ := run_append_rep (ty := 36) elem_nmd (HO.out.below b5) (ad := ⟨wr.heap.size, 0, none⟩) (c := [.int .i64 id, .string nm]) (x := (id, nm)) (fun j u hj => by rw [Addr.add_lit, Nat.zero_add]; exact V5.cell hj) ⟨[.int .i64 id], [.string nm], rfl, ⟨rfl, hi⟩, rfl, hs⟩ (by rw [hml]; show _ * 24 ≤ _; omega) (by rw [hml]; unfold maxLen; omega) hs5
      have HR6 : Hid _ := hr6
      have HO6 : Hid (Owns rNmd 55 w6 w1.heap.size v6 (l.take (j + 1))) := by unfold Hid; rw [HTk.out]; exact ho6
      have B6 : Hid (Below w1.heap.size w1 w6) := (on belo b5).grown g6 hs5 (fun j hj => (HO.out.row j hj).1)
      have HL6 : Hid ((l.take (j + 1)).length = j + 1) := by unfold Hid; rw [List.length_take]; omega
      clear hr6 ho6 g6 hv6 hs5 V5 z5 b5 hat hi hs belo hml HTk
      go_wp2_with (at_builtin; refine Lib.wpList_append_run _ rfl _ _ _ _ rfl _ _ rfl rfl _ _ HR6.out ?_)
      go_roundw
      case rel => exact ⟨j + 1, _, by omega, by go_num, HL6.out, rfl, HO6, B6.out⟩
      case measure => simp [intOf]; omega
    · obtain rfl : ln = j := by omega
      rw [List.take_of_length_le (by rw [HLl.out]; exact Nat.le_refl _)] at HM
      obtain rfl : M = l := HM.out
      obtain ⟨a9, c9, hv9, hr9⟩ := Owns.rd (hs := by decide) HO.out (by rw [HLl.out]; exact HLb.out)
      rw [HLl.out] at hv9 hr9
      subst hv9
      have HR9 : Hid _ := hr9
      clear hr9 HO hml HM
      obtain ⟨w2, hw2⟩ : ∃ v, v = wr := ⟨_, rfl⟩
      subst hw2
      have Rx_2 : Hid (Row w2 (W.heap.size) 28 [.int .i64 x.1, .int .i64 x.2.1, .int .i64 x.2.2.1, .int .i64 x.2.2.2.1, .string x.2.2.2.2.1, .slice xa xn xc]) := Rx_1.out.below (belo)
      have Xx_2 : Hid (rOpn.rd w2 (fun b => b < W.heap.size) [.int .i64 x.1, .int .i64 x.2.1, .int .i64 x.2.2.1, .int .i64 x.2.2.2.1, .string x.2.2.2.2.1, .slice xa xn xc] (x)) := Rep.below Xx_1.out (belo)
      have Yd_2 : Hid (rBytes.rd w2 (fun b => b < W.heap.size) [.slice xa xn xc] (x.2.2.2.2.2)) := Rep.below Yd_1.out (belo)
      have Nl_2 : Hid (rNmds.rd w2 (fun b => b < W.heap.size) [.slice la ln lc] (M)) := Rep.below Nl_1.out (belo)
      have B_2 : Hid (Below W.heap.size W w2) := on B_1.out (belo)
      clear Rx_1 Xx_1 Yd_1 Nl_1
      have Nm_2 : Hid (rNmds.rd w2 (fun b => w1.heap.size ≤ b) [.slice a9 ln c9] (M)) := HR9.out
      clear HR9 belo
      have hcs : size ≤ 3000 ∨ ¬ size ≤ 3000 := by omega
      rcases hcs with hcs | hcs
      · have HSz : Hid (I64 size) := by have h := HC.out.1; unfold I64 at h; unfold Hid I64; omega
        go_wp2_with fail
        go_at_call 20
        refine Calls.mono (new_u w2 size HSz.out) ?_
        rintro e w3 ⟨ca, rfl, ha, b3⟩
        obtain ⟨aa, na, cna, ba, ma, da, rfl, -, -, -⟩ := rSta_cells ha
        obtain ⟨ta, hta⟩ : ∃ t, t = (Mo.newS size).2.2 := ⟨_, rfl⟩
        obtain ⟨F, hF⟩ : ∃ F, F = Mo.newE size := ⟨_, rfl⟩
        rw [← hta] at ha ⊢
        rw [← hF]
        have HFF : Hid _ := hF
        clear hF hta
        have Da_3 : Hid (rSta.rd w3 (fun b => w2.heap.size ≤ b) [.slice aa na cna, .slice ba ma da, .int .i64 ta] (Mo.newS size)) := ha
        have Rx_3 : Hid (Row w3 (W.heap.size) 28 [.int .i64 x.1, .int .i64 x.2.1, .int .i64 x.2.2.1, .int .i64 x.2.2.2.1, .string x.2.2.2.2.1, .slice xa xn xc]) := Rx_2.out.below (b3)
        have Xx_3 : Hid (rOpn.rd w3 (fun b => b < W.heap.size) [.int .i64 x.1, .int .i64 x.2.1, .int .i64 x.2.2.1, .int .i64 x.2.2.2.1, .string x.2.2.2.2.1, .slice xa xn xc] (x)) := Rep.below Xx_2.out (b3)
        have Yd_3 : Hid (rBytes.rd w3 (fun b => b < W.heap.size) [.slice xa xn xc] (x.2.2.2.2.2)) := Rep.below Yd_2.out (b3)
        have Nl_3 : Hid (rNmds.rd w3 (fun b => b < W.heap.size) [.slice la ln lc] (M)) := Rep.below Nl_2.out (b3)
        have Nm_3 : Hid (rNmds.rd w3 (fun b => w1.heap.size ≤ b) [.slice a9 ln c9] (M)) := Rep.below Nm_2.out (b3)
        have B_3 : Hid (Below W.heap.size W w3) := on B_2.out (b3)
        clear Rx_2 Xx_2 Yd_2 Nl_2 Nm_2
        clear ha b3
        obtain ⟨w4, hw4, V4, b4, z4⟩ := boxedRow w3 31 [.slice aa na cna, .slice ba ma da, .int .i64 ta]
        have Ra_4 : Hid (Row w4 (w3.heap.size) 31 [.slice aa na cna, .slice ba ma da, .int .i64 ta]) := V4
        have Rx_4 : Hid (Row w4 (W.heap.size) 28 [.int .i64 x.1, .int .i64 x.2.1, .int .i64 x.2.2.1, .int .i64 x.2.2.2.1, .string x.2.2.2.2.1, .slice xa xn xc]) := Rx_3.out.below (b4)
        have Xx_4 : Hid (rOpn.rd w4 (fun b => b < W.heap.size) [.int .i64 x.1, .int .i64 x.2.1, .int .i64 x.2.2.1, .int .i64 x.2.2.2.1, .string x.2.2.2.2.1, .slice xa xn xc] (x)) := Rep.below Xx_3.out (b4)
        have Yd_4 : Hid (rBytes.rd w4 (fun b => b < W.heap.size) [.slice xa xn xc] (x.2.2.2.2.2)) := Rep.below Yd_3.out (b4)
        have Nl_4 : Hid (rNmds.rd w4 (fun b => b < W.heap.size) [.slice la ln lc] (M)) := Rep.below Nl_3.out (b4)
        have Nm_4 : Hid (rNmds.rd w4 (fun b => w1.heap.size ≤ b) [.slice a9 ln c9] (M)) := Rep.below Nm_3.out (b4)
        have Da_4 : Hid (rSta.rd w4 (fun b => w2.heap.size ≤ b) [.slice aa na cna, .slice ba ma da, .int .i64 ta] (Mo.newS size)) := Rep.below Da_3.out (b4)
        have B_4 : Hid (Below W.heap.size W w4) := on B_3.out (b4)
        clear Rx_3 Xx_3 Yd_3 Nl_3 Nm_3 Da_3
        clear V4 b4 z4
        go_wp2_with fail
        go_at_call 21
        refine Calls.mono (docNew_u w4 size HSz.out) ?_
        rintro e w5 ⟨cb, rfl, hb, b5⟩
        obtain ⟨ab, nb, cnb, bb, mb, db, rfl, -, -, -⟩ := rSta_cells hb
        obtain ⟨tb, htb⟩ : ∃ t, t = (Mo.newS size).2.2 := ⟨_, rfl⟩
        rw [← htb] at hb ⊢
        rw [← HFF.out]
        clear htb
        have Db_5 : Hid (rSta.rd w5 (fun b => w4.heap.size ≤ b) [.slice ab nb cnb, .slice bb mb db, .int .i64 tb] (Mo.newS size)) := hb
        have Rx_5 : Hid (Row w5 (W.heap.size) 28 [.int .i64 x.1, .int .i64 x.2.1, .int .i64 x.2.2.1, .int .i64 x.2.2.2.1, .string x.2.2.2.2.1, .slice xa xn xc]) := Rx_4.out.below (b5)
        have Xx_5 : Hid (rOpn.rd w5 (fun b => b < W.heap.size) [.int .i64 x.1, .int .i64 x.2.1, .int .i64 x.2.2.1, .int .i64 x.2.2.2.1, .string x.2.2.2.2.1, .slice xa xn xc] (x)) := Rep.below Xx_4.out (b5)
        have Yd_5 : Hid (rBytes.rd w5 (fun b => b < W.heap.size) [.slice xa xn xc] (x.2.2.2.2.2)) := Rep.below Yd_4.out (b5)
        have Nl_5 : Hid (rNmds.rd w5 (fun b => b < W.heap.size) [.slice la ln lc] (M)) := Rep.below Nl_4.out (b5)
        have Nm_5 : Hid (rNmds.rd w5 (fun b => w1.heap.size ≤ b) [.slice a9 ln c9] (M)) := Rep.below Nm_4.out (b5)
        have Da_5 : Hid (rSta.rd w5 (fun b => w2.heap.size ≤ b) [.slice aa na cna, .slice ba ma da, .int .i64 ta] (Mo.newS size)) := Rep.below Da_4.out (b5)
        have Ra_5 : Hid (Row w5 (w3.heap.size) 31 [.slice aa na cna, .slice ba ma da, .int .i64 ta]) := Ra_4.out.below (b5)
        have B_5 : Hid (Below W.heap.size W w5) := on B_4.out (b5)
        clear Rx_4 Xx_4 Yd_4 Nl_4 Nm_4 Da_4 Ra_4
        clear hb b5
        obtain ⟨w6, hw6, V6, b6, z6⟩ := boxedRow w5 25 [.slice ab nb cnb, .slice bb mb db, .int .i64 tb]
        have Rb_6 : Hid (Row w6 (w5.heap.size) 25 [.slice ab nb cnb, .slice bb mb db, .int .i64 tb]) := V6
        have Rx_6 : Hid (Row w6 (W.heap.size) 28 [.int .i64 x.1, .int .i64 x.2.1, .int .i64 x.2.2.1, .int .i64 x.2.2.2.1, .string x.2.2.2.2.1, .slice xa xn xc]) := Rx_5.out.below (b6)
        have Xx_6 : Hid (rOpn.rd w6 (fun b => b < W.heap.size) [.int .i64 x.1, .int .i64 x.2.1, .int .i64 x.2.2.1, .int .i64 x.2.2.2.1, .string x.2.2.2.2.1, .slice xa xn xc] (x)) := Rep.below Xx_5.out (b6)
        have Yd_6 : Hid (rBytes.rd w6 (fun b => b < W.heap.size) [.slice xa xn xc] (x.2.2.2.2.2)) := Rep.below Yd_5.out (b6)
        have Nl_6 : Hid (rNmds.rd w6 (fun b => b < W.heap.size) [.slice la ln lc] (M)) := Rep.below Nl_5.out (b6)
        have Nm_6 : Hid (rNmds.rd w6 (fun b => w1.heap.size ≤ b) [.slice a9 ln c9] (M)) := Rep.below Nm_5.out (b6)
        have Da_6 : Hid (rSta.rd w6 (fun b => w2.heap.size ≤ b) [.slice aa na cna, .slice ba ma da, .int .i64 ta] (Mo.newS size)) := Rep.below Da_5.out (b6)
        have Ra_6 : Hid (Row w6 (w3.heap.size) 31 [.slice aa na cna, .slice ba ma da, .int .i64 ta]) := Ra_5.out.below (b6)
        have Db_6 : Hid (rSta.rd w6 (fun b => w4.heap.size ≤ b) [.slice ab nb cnb, .slice bb mb db, .int .i64 tb] (Mo.newS size)) := Rep.below Db_5.out (b6)
        have B_6 : Hid (Below W.heap.size W w6) := on B_5.out (b6)
        clear Rx_5 Xx_5 Yd_5 Nl_5 Nm_5 Da_5 Ra_5 Db_5
        clear V6 b6 z6
        go_wp2_with fail
        have HSee : Hid (∀ w', Below w6.heap.size w6 w' → w'.cell? ⟨W.heap.size, 0, none⟩ = some (.int .i64 x.1) ∧ w'.cell? ⟨W.heap.size, 1, none⟩ = some (.int .i64 x.2.1) ∧ w'.cell? ⟨W.heap.size, 2, none⟩ = some (.int .i64 x.2.2.1) ∧ w'.cell? ⟨W.heap.size, 3, none⟩ = some (.int .i64 x.2.2.2.1) ∧ w'.cell? ⟨W.heap.size, 4, none⟩ = some (.string x.2.2.2.2.1) ∧ w'.cell? ⟨W.heap.size, 5, none⟩ = some (.slice xa xn xc) ∧ w'.cell? ⟨w3.heap.size, 0, none⟩ = some (.slice aa na cna) ∧ w'.cell? ⟨w3.heap.size, 1, none⟩ = some (.slice ba ma da) ∧ w'.cell? ⟨w3.heap.size, 2, none⟩ = some (.int .i64 ta) ∧ w'.cell? ⟨w5.heap.size, 0, none⟩ = some (.slice ab nb cnb) ∧ w'.cell? ⟨w5.heap.size, 1, none⟩ = some (.slice bb mb db) ∧ w'.cell? ⟨w5.heap.size, 2, none⟩ = some (.int .i64 tb)) := fun w' hb => ⟨(Rx_6.out.below hb).cell (j := 0) rfl, (Rx_6.out.below hb).cell (j := 1) rfl, (Rx_6.out.below hb).cell (j := 2) rfl, (Rx_6.out.below hb).cell (j := 3) rfl, (Rx_6.out.below hb).cell (j := 4) rfl, (Rx_6.out.below hb).cell (j := 5) rfl, (Ra_6.out.below hb).cell (j := 0) rfl, (Ra_6.out.below hb).cell (j := 1) rfl, (Ra_6.out.below hb).cell (j := 2) rfl, (Rb_6.out.below hb).cell (j := 0) rfl, (Rb_6.out.below hb).cell (j := 1) rfl, (Rb_6.out.below hb).cell (j := 2) rfl⟩
        have S0 := HSee.out _ (Below.refl _ w6).drew
        obtain ⟨E, hE⟩ : ∃ E, E = Mo.mayE size M next x := ⟨_, rfl⟩
        have HE : Hid _ := hE
        clear hE
        refine wp_region_held_drew (S := (fun w' : World => w'.cell? ⟨W.heap.size, 0, none⟩ = some (.int .i64 x.1) ∧ w'.cell? ⟨W.heap.size, 1, none⟩ = some (.int .i64 x.2.1) ∧ w'.cell? ⟨W.heap.size, 2, none⟩ = some (.int .i64 x.2.2.1) ∧ w'.cell? ⟨W.heap.size, 3, none⟩ = some (.int .i64 x.2.2.2.1) ∧ w'.cell? ⟨W.heap.size, 4, none⟩ = some (.string x.2.2.2.2.1) ∧ w'.cell? ⟨W.heap.size, 5, none⟩ = some (.slice xa xn xc) ∧ w'.cell? ⟨w3.heap.size, 0, none⟩ = some (.slice aa na cna) ∧ w'.cell? ⟨w3.heap.size, 1, none⟩ = some (.slice ba ma da) ∧ w'.cell? ⟨w3.heap.size, 2, none⟩ = some (.int .i64 ta) ∧ w'.cell? ⟨w5.heap.size, 0, none⟩ = some (.slice ab nb cnb) ∧ w'.cell? ⟨w5.heap.size, 1, none⟩ = some (.slice bb mb db) ∧ w'.cell? ⟨w5.heap.size, 2, none⟩ = some (.int .i64 tb))) (by kernel_rfl) (S0) (fun hHeld => ?_)
        refine wpAnyH_takeL (i := 0) (v := ?_) rfl rfl (by kernel_rfl) (by kernel_rfl) (by kernel_rfl) (fun _ _ _ h => h) (Or.inl ⟨by rfl, ?_⟩) (by assumption) ?_
        rotate_left
        · intro w hSw
          try dsimp only at hSw
          go_simp
          all_goals with_reducible rfl
        simp only [List.set_cons_zero, List.set_cons_succ]
        refine wpAnyH_takeL (i := 1) (v := ?_) rfl rfl (by kernel_rfl) (by kernel_rfl) (by kernel_rfl) (fun _ _ _ h => h) (Or.inl ⟨by rfl, ?_⟩) (by assumption) ?_
        rotate_left
        · intro w hSw
          try dsimp only at hSw
          go_simp
          all_goals with_reducible rfl
        simp only [List.set_cons_zero, List.set_cons_succ]
        refine wpAnyH_takeL (i := 2) (v := ?_) rfl rfl (by kernel_rfl) (by kernel_rfl) (by kernel_rfl) (fun _ _ _ h => h) (Or.inl ⟨by rfl, ?_⟩) (by assumption) ?_
        rotate_left
        · intro w hSw
          try dsimp only at hSw
          go_simp
          all_goals with_reducible rfl
        simp only [List.set_cons_zero, List.set_cons_succ]
        refine wpAnyH_takeL (i := 3) (v := ?_) rfl rfl (by kernel_rfl) (by kernel_rfl) (by kernel_rfl) (fun _ _ _ h => h) (Or.inl ⟨by rfl, ?_⟩) (by assumption) ?_
        rotate_left
        · intro w hSw
          try dsimp only at hSw
          go_simp
          all_goals with_reducible rfl
        simp only [List.set_cons_zero, List.set_cons_succ]
        refine wpAnyH_takeL (i := 7) (v := ?_) rfl rfl (by kernel_rfl) (by kernel_rfl) (by kernel_rfl) (fun _ _ _ h => h) (Or.inl ⟨by rfl, ?_⟩) (by assumption) ?_
        rotate_left
        · intro w hSw
          try dsimp only at hSw
          go_simp
          all_goals with_reducible rfl
        simp only [List.set_cons_zero, List.set_cons_succ]
        refine wpAnyH_takeL (i := 8) (v := ?_) rfl rfl (by kernel_rfl) (by kernel_rfl) (by kernel_rfl) (fun _ _ _ h => h) (Or.inl ⟨by rfl, ?_⟩) (by assumption) ?_
        rotate_left
        · intro w hSw
          try dsimp only at hSw
          go_simp
          all_goals with_reducible rfl
        simp only [List.set_cons_zero, List.set_cons_succ]
        refine wpAnyH_takeL (i := 9) (v := ?_) rfl rfl (by kernel_rfl) (by kernel_rfl) (by kernel_rfl) (fun _ _ _ h => h) (Or.inl ⟨by rfl, ?_⟩) (by assumption) ?_
        rotate_left
        · intro w hSw
          try dsimp only at hSw
          go_simp
          all_goals with_reducible rfl
        simp only [List.set_cons_zero, List.set_cons_succ]
        refine wpAnyH_takeL (i := 10) (v := ?_) rfl rfl (by kernel_rfl) (by kernel_rfl) (by kernel_rfl) (fun _ _ _ h => h) (Or.inl ⟨by rfl, ?_⟩) (by assumption) ?_
        rotate_left
        · intro w hSw
          try dsimp only at hSw
          go_simp
          all_goals with_reducible rfl
        simp only [List.set_cons_zero, List.set_cons_succ]
        refine wpAnyH_ready (rs := [4]) (by kernel_rfl) (by simp) ?_
        refine AllReadyH.cons rfl (fun K hK => ?_) ?_
        · go_simp
          go_at_call 10
          refine Calls.mono (ofOp_f w6.drew _ x.1 x.2.1 x.2.2.1 x.2.2.2.1 x.2.2.2.2.1 x.2.2.2.2.2 xa xn xc (rBytes.keep Yd_6.out (fun _ _ _ => rfl))) ?_
          rintro e wo ⟨og, od, rfl, hro, bo⟩
          have BO : Hid (Below w6.heap.size w6 wo) := (Below.refl _ w6).drew.trans bo
          have HRO : Hid (rOpn.rd wo (fun _ => True) [.int .i64 x.1, .int .i64 x.2.1, .int .i64 x.2.2.1, .int .i64 x.2.2.2.1, .string x.2.2.2.2.1, .slice og xn od] x) := rOpn.of HIx.out.1 HIx.out.2.1 HIx.out.2.2.1 HIx.out.2.2.2.1 HIx.out.2.2.2.2 (rBytes.weaken hro.1 (fun _ _ _ => trivial))
          have SO := HSee.out _ BO.out
          clear hro bo
          go_simp
          refine hK.out _ _ ?_ (fun hHeld => ?_)
          · try dsimp only
            first | exact SR | exact SQ | exact SP | exact SM | exact SO | exact S0
          clear hK K
          refine wpAnyH_ready (rs := [5]) (by kernel_rfl) (by simp) ?_
          refine AllReadyH.cons rfl (fun K hK => ?_) ?_
          · go_simp
            go_at_call 22
            refine Calls.mono (may_u wo _ a9 ln c9 M (Rep.below (rNmds.weaken Nm_6.out (P' := fun _ => True) (fun _ _ _ => trivial)) BO.out) size next HC.out.1 x og xn od HRO.out) ?_
            rw [← HE.out]
            rintro e wm ⟨rfl, bm⟩
            have BM : Hid (Below w6.heap.size w6 wm) := BO.out.trans (bm.mono BO.out.size)
            have SM := HSee.out _ BM.out
            clear bm
            go_simp
            refine hK.out _ _ ?_ (fun hHeld => ?_)
            · try dsimp only
              first | exact SR | exact SQ | exact SP | exact SM | exact SO | exact S0
            clear hK K
            refine wpAnyH_ready (rs := [6]) (by kernel_rfl) (by simp) ?_
            refine AllReadyH.cons rfl (fun K hK => ?_) ?_
            · go_simp
              go_at_call 15
              refine (num10_u _ _).mono ?_
              rintro e w99 ⟨rfl, rfl⟩
              go_simp
              refine hK.out _ _ ?_ (fun hHeld => ?_)
              · try dsimp only
                first | exact SR | exact SQ | exact SP | exact SM | exact SO | exact S0
              clear hK K
              refine wpAnyH_ready (rs := [11]) (by kernel_rfl) (by simp) ?_
              refine AllReadyH.cons rfl (fun K hK => ?_) ?_
              · go_simp
                go_at_call 23
                refine Calls.mono (docMay_u wm _ la ln lc M (Rep.below Nl_6.out BM.out) size next HC.out.1 x xa xn xc (Rep.below Xx_6.out BM.out)) ?_
                rw [← HE.out]
                rintro e wp ⟨rfl, bp⟩
                have BP : Hid (Below w6.heap.size w6 wp) := BM.out.trans (bp.mono BM.out.size)
                have SP := HSee.out _ BP.out
                clear bp
                go_simp
                refine hK.out _ _ ?_ (fun hHeld => ?_)
                · try dsimp only
                  first | exact SR | exact SQ | exact SP | exact SM | exact SO | exact S0
                clear hK K
                refine wpAnyH_takeL (i := 12) (v := ?_) rfl rfl (by kernel_rfl) (by kernel_rfl) (by kernel_rfl) (fun _ _ _ h => h) (Or.inl ⟨by rfl, ?_⟩) (by assumption) ?_
                rotate_left
                · intro w hSw
                  try dsimp only at hSw
                  go_simp
                  all_goals with_reducible rfl
                simp only [List.set_cons_zero, List.set_cons_succ]
                refine wpAnyH_takeL (i := 13) (v := ?_) rfl rfl (by kernel_rfl) (by kernel_rfl) (by kernel_rfl) (fun _ _ _ h => h) (Or.inl ⟨by rfl, ?_⟩) (by assumption) ?_
                rotate_left
                · intro w hSw
                  try dsimp only at hSw
                  go_simp
                  all_goals with_reducible rfl
                simp only [List.set_cons_zero, List.set_cons_succ]
                refine wpAnyH_takeL (i := 14) (v := ?_) rfl rfl (by kernel_rfl) (by kernel_rfl) (by kernel_rfl) (fun _ _ _ h => h) (Or.inl ⟨by rfl, ?_⟩) (by assumption) ?_
                rotate_left
                · intro w hSw
                  try dsimp only at hSw
                  go_simp
                  all_goals with_reducible rfl
                simp only [List.set_cons_zero, List.set_cons_succ]
                refine wpAnyH_takeL (i := 15) (v := ?_) rfl rfl (by kernel_rfl) (by kernel_rfl) (by kernel_rfl) (fun _ _ _ h => h) (Or.inl ⟨by rfl, ?_⟩) (by assumption) ?_
                rotate_left
                · intro w hSw
                  try dsimp only at hSw
                  go_simp
                  all_goals with_reducible rfl
                simp only [List.set_cons_zero, List.set_cons_succ]
                refine wpAnyH_ready (rs := [16]) (by kernel_rfl) (by simp) ?_
                refine AllReadyH.cons rfl (fun K hK => ?_) ?_
                · go_simp
                  go_at_call 13
                  refine Calls.mono (alike10_u wp _ _ [.slice aa na cna, .slice ba ma da, .int .i64 ta] [.slice ab nb cnb, .slice bb mb db, .int .i64 tb] (Mo.newS size) (Rep.below Da_6.out BP.out) (Rep.below Db_6.out BP.out)) ?_
                  rintro e wq ⟨rfl, bq⟩
                  have BQ : Hid (Below w6.heap.size w6 wq) := BP.out.trans (bq.mono BP.out.size)
                  have SQ := HSee.out _ BQ.out
                  clear bq
                  go_simp
                  refine hK.out _ _ ?_ (fun hHeld => ?_)
                  · try dsimp only
                    first | exact SR | exact SQ | exact SP | exact SM | exact SO | exact S0
                  clear hK K
                  refine wpAnyH_takeL (i := 17) (v := ?_) rfl rfl (by kernel_rfl) (by kernel_rfl) (by kernel_rfl) (fun _ _ _ h => h) (Or.inl ⟨by rfl, ?_⟩) (by assumption) ?_
                  rotate_left
                  · intro w hSw
                    try dsimp only at hSw
                    go_simp
                    all_goals with_reducible rfl
                  simp only [List.set_cons_zero, List.set_cons_succ]
                  refine wpAnyH_takeL (i := 18) (v := ?_) rfl rfl (by kernel_rfl) (by kernel_rfl) (by kernel_rfl) (fun _ _ _ h => h) (Or.inl ⟨by rfl, ?_⟩) (by assumption) ?_
                  rotate_left
                  · intro w hSw
                    try dsimp only at hSw
                    go_simp
                    all_goals with_reducible rfl
                  simp only [List.set_cons_zero, List.set_cons_succ]
                  refine wpAnyH_takeL (i := 19) (v := ?_) rfl rfl (by kernel_rfl) (by kernel_rfl) (by kernel_rfl) (fun _ _ _ h => h) (Or.inl ⟨by rfl, ?_⟩) (by assumption) ?_
                  rotate_left
                  · intro w hSw
                    try dsimp only at hSw
                    go_simp
                    all_goals with_reducible rfl
                  simp only [List.set_cons_zero, List.set_cons_succ]
                  refine wpAnyH_takeL (i := 20) (v := ?_) rfl rfl (by kernel_rfl) (by kernel_rfl) (by kernel_rfl) (fun _ _ _ h => h) (Or.inl ⟨by rfl, ?_⟩) (by assumption) ?_
                  rotate_left
                  · intro w hSw
                    try dsimp only at hSw
                    go_simp
                    all_goals with_reducible rfl
                  simp only [List.set_cons_zero, List.set_cons_succ]
                  refine wpAnyH_takeL (i := 22) (v := ?_) rfl rfl (by kernel_rfl) (by kernel_rfl) (by kernel_rfl) (fun _ _ _ h => h) (Or.inl ⟨by rfl, ?_⟩) (by assumption) ?_
                  rotate_left
                  · intro w hSw
                    try dsimp only at hSw
                    go_simp
                    all_goals with_reducible rfl
                  simp only [List.set_cons_zero, List.set_cons_succ]
                  refine wpAnyH_ready (rs := [21]) (by kernel_rfl) (by simp) ?_
                  refine AllReadyH.cons rfl (fun K hK => ?_) ?_
                  · go_simp
                    go_at_call 15
                    refine (num10_u _ _).mono ?_
                    rintro e w99 ⟨rfl, rfl⟩
                    go_simp
                    refine hK.out _ _ ?_ (fun hHeld => ?_)
                    · try dsimp only
                      first | exact SR | exact SQ | exact SP | exact SM | exact SO | exact S0
                    clear hK K
                    refine wpAnyH_takeL (i := 23) (v := ?_) rfl rfl (by kernel_rfl) (by kernel_rfl) (by kernel_rfl) (fun _ _ _ h => h) (Or.inl ⟨by rfl, ?_⟩) (by assumption) ?_
                    rotate_left
                    · intro w hSw
                      try dsimp only at hSw
                      go_simp
                      all_goals with_reducible rfl
                    simp only [List.set_cons_zero, List.set_cons_succ]
                    refine wpAnyH_takeL (i := 24) (v := ?_) rfl rfl (by kernel_rfl) (by kernel_rfl) (by kernel_rfl) (fun _ _ _ h => h) (Or.inl ⟨by rfl, ?_⟩) (by assumption) ?_
                    rotate_left
                    · intro w hSw
                      try dsimp only at hSw
                      go_simp
                      all_goals with_reducible rfl
                    simp only [List.set_cons_zero, List.set_cons_succ]
                    refine wpAnyH_takeL (i := 25) (v := ?_) rfl rfl (by kernel_rfl) (by kernel_rfl) (by kernel_rfl) (fun _ _ _ h => h) (Or.inl ⟨by rfl, ?_⟩) (by assumption) ?_
                    rotate_left
                    · intro w hSw
                      try dsimp only at hSw
                      go_simp
                      all_goals with_reducible rfl
                    simp only [List.set_cons_zero, List.set_cons_succ]
                    refine wpAnyH_ready (rs := [26]) (by kernel_rfl) (by simp) ?_
                    refine AllReadyH.cons rfl (fun K hK => ?_) ?_
                    · go_simp
                      go_at_call 19
                      refine Calls.mono (alive10_u wq) ?_
                      rintro e wr ⟨rfl, br⟩
                      have BR : Hid (Below w6.heap.size w6 wr) := BQ.out.trans (br.mono BQ.out.size)
                      have SR := HSee.out _ BR.out
                      clear br
                      go_simp
                      refine hK.out _ _ ?_ (fun hHeld => ?_)
                      · try dsimp only
                        first | exact SR | exact SQ | exact SP | exact SM | exact SO | exact S0
                      clear hK K
                      refine wpAnyH_takeL (i := 27) (v := ?_) rfl rfl (by kernel_rfl) (by kernel_rfl) (by kernel_rfl) (fun _ _ _ h => h) (Or.inl ⟨by rfl, ?_⟩) (by assumption) ?_
                      rotate_left
                      · intro w hSw
                        try dsimp only at hSw
                        go_simp
                        all_goals with_reducible rfl
                      simp only [List.set_cons_zero, List.set_cons_succ]
                      refine wpAnyH_takeL (i := 28) (v := ?_) rfl rfl (by kernel_rfl) (by kernel_rfl) (by kernel_rfl) (fun _ _ _ h => h) (Or.inl ⟨by rfl, ?_⟩) (by assumption) ?_
                      rotate_left
                      · intro w hSw
                        try dsimp only at hSw
                        go_simp
                        all_goals with_reducible rfl
                      simp only [List.set_cons_zero, List.set_cons_succ]
                      refine wpAnyH_done (by kernel_rfl) ?_ _
                      clear hHeld SR SQ SP SM SO S0
                      go_wp2
                      go_ret
                      exact ⟨rfl, B_6.out.trans (BR.out.mono B_6.out.size)⟩
                    exact AllReadyH.nil
                  exact AllReadyH.nil
                exact AllReadyH.nil
              exact AllReadyH.nil
            exact AllReadyH.nil
          exact AllReadyH.nil
        exact AllReadyH.nil
      · have HSz : Hid (I64 3000) := by have h := HC.out.1; unfold I64 at h; unfold Hid I64; omega
        have hcs2 : (3000 : Int) < size := by omega
        have hcs3 : 3000 ≤ size := by omega
        go_wp2_with fail
        go_at_call 20
        refine Calls.mono (new_u w2 3000 HSz.out) ?_
        rintro e w7 ⟨ca, rfl, ha, b7⟩
        obtain ⟨aa, na, cna, ba, ma, da, rfl, -, -, -⟩ := rSta_cells ha
        obtain ⟨ta, hta⟩ : ∃ t, t = (Mo.newS 3000).2.2 := ⟨_, rfl⟩
        obtain ⟨F, hF⟩ : ∃ F, F = Mo.newE 3000 := ⟨_, rfl⟩
        rw [← hta] at ha ⊢
        rw [← hF]
        have HFF : Hid _ := hF
        clear hF hta
        have Da_7 : Hid (rSta.rd w7 (fun b => w2.heap.size ≤ b) [.slice aa na cna, .slice ba ma da, .int .i64 ta] (Mo.newS 3000)) := ha
        have Rx_7 : Hid (Row w7 (W.heap.size) 28 [.int .i64 x.1, .int .i64 x.2.1, .int .i64 x.2.2.1, .int .i64 x.2.2.2.1, .string x.2.2.2.2.1, .slice xa xn xc]) := Rx_2.out.below (b7)
        have Xx_7 : Hid (rOpn.rd w7 (fun b => b < W.heap.size) [.int .i64 x.1, .int .i64 x.2.1, .int .i64 x.2.2.1, .int .i64 x.2.2.2.1, .string x.2.2.2.2.1, .slice xa xn xc] (x)) := Rep.below Xx_2.out (b7)
        have Yd_7 : Hid (rBytes.rd w7 (fun b => b < W.heap.size) [.slice xa xn xc] (x.2.2.2.2.2)) := Rep.below Yd_2.out (b7)
        have Nl_7 : Hid (rNmds.rd w7 (fun b => b < W.heap.size) [.slice la ln lc] (M)) := Rep.below Nl_2.out (b7)
        have Nm_7 : Hid (rNmds.rd w7 (fun b => w1.heap.size ≤ b) [.slice a9 ln c9] (M)) := Rep.below Nm_2.out (b7)
        have B_7 : Hid (Below W.heap.size W w7) := on B_2.out (b7)
        clear Rx_2 Xx_2 Yd_2 Nl_2 Nm_2
        clear ha b7
        obtain ⟨w8, hw8, V8, b8, z8⟩ := boxedRow w7 31 [.slice aa na cna, .slice ba ma da, .int .i64 ta]
        have Ra_8 : Hid (Row w8 (w7.heap.size) 31 [.slice aa na cna, .slice ba ma da, .int .i64 ta]) := V8
        have Rx_8 : Hid (Row w8 (W.heap.size) 28 [.int .i64 x.1, .int .i64 x.2.1, .int .i64 x.2.2.1, .int .i64 x.2.2.2.1, .string x.2.2.2.2.1, .slice xa xn xc]) := Rx_7.out.below (b8)
        have Xx_8 : Hid (rOpn.rd w8 (fun b => b < W.heap.size) [.int .i64 x.1, .int .i64 x.2.1, .int .i64 x.2.2.1, .int .i64 x.2.2.2.1, .string x.2.2.2.2.1, .slice xa xn xc] (x)) := Rep.below Xx_7.out (b8)
        have Yd_8 : Hid (rBytes.rd w8 (fun b => b < W.heap.size) [.slice xa xn xc] (x.2.2.2.2.2)) := Rep.below Yd_7.out (b8)
        have Nl_8 : Hid (rNmds.rd w8 (fun b => b < W.heap.size) [.slice la ln lc] (M)) := Rep.below Nl_7.out (b8)
        have Nm_8 : Hid (rNmds.rd w8 (fun b => w1.heap.size ≤ b) [.slice a9 ln c9] (M)) := Rep.below Nm_7.out (b8)
        have Da_8 : Hid (rSta.rd w8 (fun b => w2.heap.size ≤ b) [.slice aa na cna, .slice ba ma da, .int .i64 ta] (Mo.newS 3000)) := Rep.below Da_7.out (b8)
        have B_8 : Hid (Below W.heap.size W w8) := on B_7.out (b8)
        clear Rx_7 Xx_7 Yd_7 Nl_7 Nm_7 Da_7
        clear V8 b8 z8
        go_wp2_with fail
        go_at_call 21
        refine Calls.mono (docNew_u w8 3000 HSz.out) ?_
        rintro e w9 ⟨cb, rfl, hb, b9⟩
        obtain ⟨ab, nb, cnb, bb, mb, db, rfl, -, -, -⟩ := rSta_cells hb
        obtain ⟨tb, htb⟩ : ∃ t, t = (Mo.newS 3000).2.2 := ⟨_, rfl⟩
        rw [← htb] at hb ⊢
        rw [← HFF.out]
        clear htb
        have Db_9 : Hid (rSta.rd w9 (fun b => w8.heap.size ≤ b) [.slice ab nb cnb, .slice bb mb db, .int .i64 tb] (Mo.newS 3000)) := hb
        have Rx_9 : Hid (Row w9 (W.heap.size) 28 [.int .i64 x.1, .int .i64 x.2.1, .int .i64 x.2.2.1, .int .i64 x.2.2.2.1, .string x.2.2.2.2.1, .slice xa xn xc]) := Rx_8.out.below (b9)
        have Xx_9 : Hid (rOpn.rd w9 (fun b => b < W.heap.size) [.int .i64 x.1, .int .i64 x.2.1, .int .i64 x.2.2.1, .int .i64 x.2.2.2.1, .string x.2.2.2.2.1, .slice xa xn xc] (x)) := Rep.below Xx_8.out (b9)
        have Yd_9 : Hid (rBytes.rd w9 (fun b => b < W.heap.size) [.slice xa xn xc] (x.2.2.2.2.2)) := Rep.below Yd_8.out (b9)
        have Nl_9 : Hid (rNmds.rd w9 (fun b => b < W.heap.size) [.slice la ln lc] (M)) := Rep.below Nl_8.out (b9)
        have Nm_9 : Hid (rNmds.rd w9 (fun b => w1.heap.size ≤ b) [.slice a9 ln c9] (M)) := Rep.below Nm_8.out (b9)
        have Da_9 : Hid (rSta.rd w9 (fun b => w2.heap.size ≤ b) [.slice aa na cna, .slice ba ma da, .int .i64 ta] (Mo.newS 3000)) := Rep.below Da_8.out (b9)
        have Ra_9 : Hid (Row w9 (w7.heap.size) 31 [.slice aa na cna, .slice ba ma da, .int .i64 ta]) := Ra_8.out.below (b9)
        have B_9 : Hid (Below W.heap.size W w9) := on B_8.out (b9)
        clear Rx_8 Xx_8 Yd_8 Nl_8 Nm_8 Da_8 Ra_8
        clear hb b9
        obtain ⟨w10, hw10, V10, b10, z10⟩ := boxedRow w9 25 [.slice ab nb cnb, .slice bb mb db, .int .i64 tb]
        have Rb_10 : Hid (Row w10 (w9.heap.size) 25 [.slice ab nb cnb, .slice bb mb db, .int .i64 tb]) := V10
        have Rx_10 : Hid (Row w10 (W.heap.size) 28 [.int .i64 x.1, .int .i64 x.2.1, .int .i64 x.2.2.1, .int .i64 x.2.2.2.1, .string x.2.2.2.2.1, .slice xa xn xc]) := Rx_9.out.below (b10)
        have Xx_10 : Hid (rOpn.rd w10 (fun b => b < W.heap.size) [.int .i64 x.1, .int .i64 x.2.1, .int .i64 x.2.2.1, .int .i64 x.2.2.2.1, .string x.2.2.2.2.1, .slice xa xn xc] (x)) := Rep.below Xx_9.out (b10)
        have Yd_10 : Hid (rBytes.rd w10 (fun b => b < W.heap.size) [.slice xa xn xc] (x.2.2.2.2.2)) := Rep.below Yd_9.out (b10)
        have Nl_10 : Hid (rNmds.rd w10 (fun b => b < W.heap.size) [.slice la ln lc] (M)) := Rep.below Nl_9.out (b10)
        have Nm_10 : Hid (rNmds.rd w10 (fun b => w1.heap.size ≤ b) [.slice a9 ln c9] (M)) := Rep.below Nm_9.out (b10)
        have Da_10 : Hid (rSta.rd w10 (fun b => w2.heap.size ≤ b) [.slice aa na cna, .slice ba ma da, .int .i64 ta] (Mo.newS 3000)) := Rep.below Da_9.out (b10)
        have Ra_10 : Hid (Row w10 (w7.heap.size) 31 [.slice aa na cna, .slice ba ma da, .int .i64 ta]) := Ra_9.out.below (b10)
        have Db_10 : Hid (rSta.rd w10 (fun b => w8.heap.size ≤ b) [.slice ab nb cnb, .slice bb mb db, .int .i64 tb] (Mo.newS 3000)) := Rep.below Db_9.out (b10)
        have B_10 : Hid (Below W.heap.size W w10) := on B_9.out (b10)
        clear Rx_9 Xx_9 Yd_9 Nl_9 Nm_9 Da_9 Ra_9 Db_9
        clear V10 b10 z10
        go_wp2_with fail
        have HSee : Hid (∀ w', Below w10.heap.size w10 w' → w'.cell? ⟨W.heap.size, 0, none⟩ = some (.int .i64 x.1) ∧ w'.cell? ⟨W.heap.size, 1, none⟩ = some (.int .i64 x.2.1) ∧ w'.cell? ⟨W.heap.size, 2, none⟩ = some (.int .i64 x.2.2.1) ∧ w'.cell? ⟨W.heap.size, 3, none⟩ = some (.int .i64 x.2.2.2.1) ∧ w'.cell? ⟨W.heap.size, 4, none⟩ = some (.string x.2.2.2.2.1) ∧ w'.cell? ⟨W.heap.size, 5, none⟩ = some (.slice xa xn xc) ∧ w'.cell? ⟨w7.heap.size, 0, none⟩ = some (.slice aa na cna) ∧ w'.cell? ⟨w7.heap.size, 1, none⟩ = some (.slice ba ma da) ∧ w'.cell? ⟨w7.heap.size, 2, none⟩ = some (.int .i64 ta) ∧ w'.cell? ⟨w9.heap.size, 0, none⟩ = some (.slice ab nb cnb) ∧ w'.cell? ⟨w9.heap.size, 1, none⟩ = some (.slice bb mb db) ∧ w'.cell? ⟨w9.heap.size, 2, none⟩ = some (.int .i64 tb)) := fun w' hb => ⟨(Rx_10.out.below hb).cell (j := 0) rfl, (Rx_10.out.below hb).cell (j := 1) rfl, (Rx_10.out.below hb).cell (j := 2) rfl, (Rx_10.out.below hb).cell (j := 3) rfl, (Rx_10.out.below hb).cell (j := 4) rfl, (Rx_10.out.below hb).cell (j := 5) rfl, (Ra_10.out.below hb).cell (j := 0) rfl, (Ra_10.out.below hb).cell (j := 1) rfl, (Ra_10.out.below hb).cell (j := 2) rfl, (Rb_10.out.below hb).cell (j := 0) rfl, (Rb_10.out.below hb).cell (j := 1) rfl, (Rb_10.out.below hb).cell (j := 2) rfl⟩
        have S0 := HSee.out _ (Below.refl _ w10).drew
        obtain ⟨E, hE⟩ : ∃ E, E = Mo.mayE size M next x := ⟨_, rfl⟩
        have HE : Hid _ := hE
        clear hE
        refine wp_region_held_drew (S := (fun w' : World => w'.cell? ⟨W.heap.size, 0, none⟩ = some (.int .i64 x.1) ∧ w'.cell? ⟨W.heap.size, 1, none⟩ = some (.int .i64 x.2.1) ∧ w'.cell? ⟨W.heap.size, 2, none⟩ = some (.int .i64 x.2.2.1) ∧ w'.cell? ⟨W.heap.size, 3, none⟩ = some (.int .i64 x.2.2.2.1) ∧ w'.cell? ⟨W.heap.size, 4, none⟩ = some (.string x.2.2.2.2.1) ∧ w'.cell? ⟨W.heap.size, 5, none⟩ = some (.slice xa xn xc) ∧ w'.cell? ⟨w7.heap.size, 0, none⟩ = some (.slice aa na cna) ∧ w'.cell? ⟨w7.heap.size, 1, none⟩ = some (.slice ba ma da) ∧ w'.cell? ⟨w7.heap.size, 2, none⟩ = some (.int .i64 ta) ∧ w'.cell? ⟨w9.heap.size, 0, none⟩ = some (.slice ab nb cnb) ∧ w'.cell? ⟨w9.heap.size, 1, none⟩ = some (.slice bb mb db) ∧ w'.cell? ⟨w9.heap.size, 2, none⟩ = some (.int .i64 tb))) (by kernel_rfl) (S0) (fun hHeld => ?_)
        refine wpAnyH_takeL (i := 0) (v := ?_) rfl rfl (by kernel_rfl) (by kernel_rfl) (by kernel_rfl) (fun _ _ _ h => h) (Or.inl ⟨by rfl, ?_⟩) (by assumption) ?_
        rotate_left
        · intro w hSw
          try dsimp only at hSw
          go_simp
          all_goals with_reducible rfl
        simp only [List.set_cons_zero, List.set_cons_succ]
        refine wpAnyH_takeL (i := 1) (v := ?_) rfl rfl (by kernel_rfl) (by kernel_rfl) (by kernel_rfl) (fun _ _ _ h => h) (Or.inl ⟨by rfl, ?_⟩) (by assumption) ?_
        rotate_left
        · intro w hSw
          try dsimp only at hSw
          go_simp
          all_goals with_reducible rfl
        simp only [List.set_cons_zero, List.set_cons_succ]
        refine wpAnyH_takeL (i := 2) (v := ?_) rfl rfl (by kernel_rfl) (by kernel_rfl) (by kernel_rfl) (fun _ _ _ h => h) (Or.inl ⟨by rfl, ?_⟩) (by assumption) ?_
        rotate_left
        · intro w hSw
          try dsimp only at hSw
          go_simp
          all_goals with_reducible rfl
        simp only [List.set_cons_zero, List.set_cons_succ]
        refine wpAnyH_takeL (i := 3) (v := ?_) rfl rfl (by kernel_rfl) (by kernel_rfl) (by kernel_rfl) (fun _ _ _ h => h) (Or.inl ⟨by rfl, ?_⟩) (by assumption) ?_
        rotate_left
        · intro w hSw
          try dsimp only at hSw
          go_simp
          all_goals with_reducible rfl
        simp only [List.set_cons_zero, List.set_cons_succ]
        refine wpAnyH_takeL (i := 7) (v := ?_) rfl rfl (by kernel_rfl) (by kernel_rfl) (by kernel_rfl) (fun _ _ _ h => h) (Or.inl ⟨by rfl, ?_⟩) (by assumption) ?_
        rotate_left
        · intro w hSw
          try dsimp only at hSw
          go_simp
          all_goals with_reducible rfl
        simp only [List.set_cons_zero, List.set_cons_succ]
        refine wpAnyH_takeL (i := 8) (v := ?_) rfl rfl (by kernel_rfl) (by kernel_rfl) (by kernel_rfl) (fun _ _ _ h => h) (Or.inl ⟨by rfl, ?_⟩) (by assumption) ?_
        rotate_left
        · intro w hSw
          try dsimp only at hSw
          go_simp
          all_goals with_reducible rfl
        simp only [List.set_cons_zero, List.set_cons_succ]
        refine wpAnyH_takeL (i := 9) (v := ?_) rfl rfl (by kernel_rfl) (by kernel_rfl) (by kernel_rfl) (fun _ _ _ h => h) (Or.inl ⟨by rfl, ?_⟩) (by assumption) ?_
        rotate_left
        · intro w hSw
          try dsimp only at hSw
          go_simp
          all_goals with_reducible rfl
        simp only [List.set_cons_zero, List.set_cons_succ]
        refine wpAnyH_takeL (i := 10) (v := ?_) rfl rfl (by kernel_rfl) (by kernel_rfl) (by kernel_rfl) (fun _ _ _ h => h) (Or.inl ⟨by rfl, ?_⟩) (by assumption) ?_
        rotate_left
        · intro w hSw
          try dsimp only at hSw
          go_simp
          all_goals with_reducible rfl
        simp only [List.set_cons_zero, List.set_cons_succ]
        refine wpAnyH_ready (rs := [4]) (by kernel_rfl) (by simp) ?_
        refine AllReadyH.cons rfl (fun K hK => ?_) ?_
        · go_simp
          go_at_call 10
          refine Calls.mono (ofOp_f w10.drew _ x.1 x.2.1 x.2.2.1 x.2.2.2.1 x.2.2.2.2.1 x.2.2.2.2.2 xa xn xc (rBytes.keep Yd_10.out (fun _ _ _ => rfl))) ?_
          rintro e wo ⟨og, od, rfl, hro, bo⟩
          have BO : Hid (Below w10.heap.size w10 wo) := (Below.refl _ w10).drew.trans bo
          have HRO : Hid (rOpn.rd wo (fun _ => True) [.int .i64 x.1, .int .i64 x.2.1, .int .i64 x.2.2.1, .int .i64 x.2.2.2.1, .string x.2.2.2.2.1, .slice og xn od] x) := rOpn.of HIx.out.1 HIx.out.2.1 HIx.out.2.2.1 HIx.out.2.2.2.1 HIx.out.2.2.2.2 (rBytes.weaken hro.1 (fun _ _ _ => trivial))
          have SO := HSee.out _ BO.out
          clear hro bo
          go_simp
          refine hK.out _ _ ?_ (fun hHeld => ?_)
          · try dsimp only
            first | exact SR | exact SQ | exact SP | exact SM | exact SO | exact S0
          clear hK K
          refine wpAnyH_ready (rs := [5]) (by kernel_rfl) (by simp) ?_
          refine AllReadyH.cons rfl (fun K hK => ?_) ?_
          · go_simp
            go_at_call 22
            refine Calls.mono (may_u wo _ a9 ln c9 M (Rep.below (rNmds.weaken Nm_10.out (P' := fun _ => True) (fun _ _ _ => trivial)) BO.out) size next HC.out.1 x og xn od HRO.out) ?_
            rw [← HE.out]
            rintro e wm ⟨rfl, bm⟩
            have BM : Hid (Below w10.heap.size w10 wm) := BO.out.trans (bm.mono BO.out.size)
            have SM := HSee.out _ BM.out
            clear bm
            go_simp
            refine hK.out _ _ ?_ (fun hHeld => ?_)
            · try dsimp only
              first | exact SR | exact SQ | exact SP | exact SM | exact SO | exact S0
            clear hK K
            refine wpAnyH_ready (rs := [6]) (by kernel_rfl) (by simp) ?_
            refine AllReadyH.cons rfl (fun K hK => ?_) ?_
            · go_simp
              go_at_call 15
              refine (num10_u _ _).mono ?_
              rintro e w99 ⟨rfl, rfl⟩
              go_simp
              refine hK.out _ _ ?_ (fun hHeld => ?_)
              · try dsimp only
                first | exact SR | exact SQ | exact SP | exact SM | exact SO | exact S0
              clear hK K
              refine wpAnyH_ready (rs := [11]) (by kernel_rfl) (by simp) ?_
              refine AllReadyH.cons rfl (fun K hK => ?_) ?_
              · go_simp
                go_at_call 23
                refine Calls.mono (docMay_u wm _ la ln lc M (Rep.below Nl_10.out BM.out) size next HC.out.1 x xa xn xc (Rep.below Xx_10.out BM.out)) ?_
                rw [← HE.out]
                rintro e wp ⟨rfl, bp⟩
                have BP : Hid (Below w10.heap.size w10 wp) := BM.out.trans (bp.mono BM.out.size)
                have SP := HSee.out _ BP.out
                clear bp
                go_simp
                refine hK.out _ _ ?_ (fun hHeld => ?_)
                · try dsimp only
                  first | exact SR | exact SQ | exact SP | exact SM | exact SO | exact S0
                clear hK K
                refine wpAnyH_takeL (i := 12) (v := ?_) rfl rfl (by kernel_rfl) (by kernel_rfl) (by kernel_rfl) (fun _ _ _ h => h) (Or.inl ⟨by rfl, ?_⟩) (by assumption) ?_
                rotate_left
                · intro w hSw
                  try dsimp only at hSw
                  go_simp
                  all_goals with_reducible rfl
                simp only [List.set_cons_zero, List.set_cons_succ]
                refine wpAnyH_takeL (i := 13) (v := ?_) rfl rfl (by kernel_rfl) (by kernel_rfl) (by kernel_rfl) (fun _ _ _ h => h) (Or.inl ⟨by rfl, ?_⟩) (by assumption) ?_
                rotate_left
                · intro w hSw
                  try dsimp only at hSw
                  go_simp
                  all_goals with_reducible rfl
                simp only [List.set_cons_zero, List.set_cons_succ]
                refine wpAnyH_takeL (i := 14) (v := ?_) rfl rfl (by kernel_rfl) (by kernel_rfl) (by kernel_rfl) (fun _ _ _ h => h) (Or.inl ⟨by rfl, ?_⟩) (by assumption) ?_
                rotate_left
                · intro w hSw
                  try dsimp only at hSw
                  go_simp
                  all_goals with_reducible rfl
                simp only [List.set_cons_zero, List.set_cons_succ]
                refine wpAnyH_takeL (i := 15) (v := ?_) rfl rfl (by kernel_rfl) (by kernel_rfl) (by kernel_rfl) (fun _ _ _ h => h) (Or.inl ⟨by rfl, ?_⟩) (by assumption) ?_
                rotate_left
                · intro w hSw
                  try dsimp only at hSw
                  go_simp
                  all_goals with_reducible rfl
                simp only [List.set_cons_zero, List.set_cons_succ]
                refine wpAnyH_ready (rs := [16]) (by kernel_rfl) (by simp) ?_
                refine AllReadyH.cons rfl (fun K hK => ?_) ?_
                · go_simp
                  go_at_call 13
                  refine Calls.mono (alike10_u wp _ _ [.slice aa na cna, .slice ba ma da, .int .i64 ta] [.slice ab nb cnb, .slice bb mb db, .int .i64 tb] (Mo.newS 3000) (Rep.below Da_10.out BP.out) (Rep.below Db_10.out BP.out)) ?_
                  rintro e wq ⟨rfl, bq⟩
                  have BQ : Hid (Below w10.heap.size w10 wq) := BP.out.trans (bq.mono BP.out.size)
                  have SQ := HSee.out _ BQ.out
                  clear bq
                  go_simp
                  refine hK.out _ _ ?_ (fun hHeld => ?_)
                  · try dsimp only
                    first | exact SR | exact SQ | exact SP | exact SM | exact SO | exact S0
                  clear hK K
                  refine wpAnyH_takeL (i := 17) (v := ?_) rfl rfl (by kernel_rfl) (by kernel_rfl) (by kernel_rfl) (fun _ _ _ h => h) (Or.inl ⟨by rfl, ?_⟩) (by assumption) ?_
                  rotate_left
                  · intro w hSw
                    try dsimp only at hSw
                    go_simp
                    all_goals with_reducible rfl
                  simp only [List.set_cons_zero, List.set_cons_succ]
                  refine wpAnyH_takeL (i := 18) (v := ?_) rfl rfl (by kernel_rfl) (by kernel_rfl) (by kernel_rfl) (fun _ _ _ h => h) (Or.inl ⟨by rfl, ?_⟩) (by assumption) ?_
                  rotate_left
                  · intro w hSw
                    try dsimp only at hSw
                    go_simp
                    all_goals with_reducible rfl
                  simp only [List.set_cons_zero, List.set_cons_succ]
                  refine wpAnyH_takeL (i := 19) (v := ?_) rfl rfl (by kernel_rfl) (by kernel_rfl) (by kernel_rfl) (fun _ _ _ h => h) (Or.inl ⟨by rfl, ?_⟩) (by assumption) ?_
                  rotate_left
                  · intro w hSw
                    try dsimp only at hSw
                    go_simp
                    all_goals with_reducible rfl
                  simp only [List.set_cons_zero, List.set_cons_succ]
                  refine wpAnyH_takeL (i := 20) (v := ?_) rfl rfl (by kernel_rfl) (by kernel_rfl) (by kernel_rfl) (fun _ _ _ h => h) (Or.inl ⟨by rfl, ?_⟩) (by assumption) ?_
                  rotate_left
                  · intro w hSw
                    try dsimp only at hSw
                    go_simp
                    all_goals with_reducible rfl
                  simp only [List.set_cons_zero, List.set_cons_succ]
                  refine wpAnyH_takeL (i := 22) (v := ?_) rfl rfl (by kernel_rfl) (by kernel_rfl) (by kernel_rfl) (fun _ _ _ h => h) (Or.inl ⟨by rfl, ?_⟩) (by assumption) ?_
                  rotate_left
                  · intro w hSw
                    try dsimp only at hSw
                    go_simp
                    all_goals with_reducible rfl
                  simp only [List.set_cons_zero, List.set_cons_succ]
                  refine wpAnyH_ready (rs := [21]) (by kernel_rfl) (by simp) ?_
                  refine AllReadyH.cons rfl (fun K hK => ?_) ?_
                  · go_simp
                    go_at_call 15
                    refine (num10_u _ _).mono ?_
                    rintro e w99 ⟨rfl, rfl⟩
                    go_simp
                    refine hK.out _ _ ?_ (fun hHeld => ?_)
                    · try dsimp only
                      first | exact SR | exact SQ | exact SP | exact SM | exact SO | exact S0
                    clear hK K
                    refine wpAnyH_takeL (i := 23) (v := ?_) rfl rfl (by kernel_rfl) (by kernel_rfl) (by kernel_rfl) (fun _ _ _ h => h) (Or.inl ⟨by rfl, ?_⟩) (by assumption) ?_
                    rotate_left
                    · intro w hSw
                      try dsimp only at hSw
                      go_simp
                      all_goals with_reducible rfl
                    simp only [List.set_cons_zero, List.set_cons_succ]
                    refine wpAnyH_takeL (i := 24) (v := ?_) rfl rfl (by kernel_rfl) (by kernel_rfl) (by kernel_rfl) (fun _ _ _ h => h) (Or.inl ⟨by rfl, ?_⟩) (by assumption) ?_
                    rotate_left
                    · intro w hSw
                      try dsimp only at hSw
                      go_simp
                      all_goals with_reducible rfl
                    simp only [List.set_cons_zero, List.set_cons_succ]
                    refine wpAnyH_takeL (i := 25) (v := ?_) rfl rfl (by kernel_rfl) (by kernel_rfl) (by kernel_rfl) (fun _ _ _ h => h) (Or.inl ⟨by rfl, ?_⟩) (by assumption) ?_
                    rotate_left
                    · intro w hSw
                      try dsimp only at hSw
                      go_simp
                      all_goals with_reducible rfl
                    simp only [List.set_cons_zero, List.set_cons_succ]
                    refine wpAnyH_ready (rs := [26]) (by kernel_rfl) (by simp) ?_
                    refine AllReadyH.cons rfl (fun K hK => ?_) ?_
                    · go_simp
                      go_at_call 19
                      refine Calls.mono (alive10_u wq) ?_
                      rintro e wr ⟨rfl, br⟩
                      have BR : Hid (Below w10.heap.size w10 wr) := BQ.out.trans (br.mono BQ.out.size)
                      have SR := HSee.out _ BR.out
                      clear br
                      go_simp
                      refine hK.out _ _ ?_ (fun hHeld => ?_)
                      · try dsimp only
                        first | exact SR | exact SQ | exact SP | exact SM | exact SO | exact S0
                      clear hK K
                      refine wpAnyH_takeL (i := 27) (v := ?_) rfl rfl (by kernel_rfl) (by kernel_rfl) (by kernel_rfl) (fun _ _ _ h => h) (Or.inl ⟨by rfl, ?_⟩) (by assumption) ?_
                      rotate_left
                      · intro w hSw
                        try dsimp only at hSw
                        go_simp
                        all_goals with_reducible rfl
                      simp only [List.set_cons_zero, List.set_cons_succ]
                      refine wpAnyH_takeL (i := 28) (v := ?_) rfl rfl (by kernel_rfl) (by kernel_rfl) (by kernel_rfl) (fun _ _ _ h => h) (Or.inl ⟨by rfl, ?_⟩) (by assumption) ?_
                      rotate_left
                      · intro w hSw
                        try dsimp only at hSw
                        go_simp
                        all_goals with_reducible rfl
                      simp only [List.set_cons_zero, List.set_cons_succ]
                      refine wpAnyH_done (by kernel_rfl) ?_ _
                      clear hHeld SR SQ SP SM SO S0
                      go_wp2
                      go_ret
                      exact ⟨rfl, B_10.out.trans (BR.out.mono B_10.out.size)⟩
                    exact AllReadyH.nil
                  exact AllReadyH.nil
                exact AllReadyH.nil
              exact AllReadyH.nil
            exact AllReadyH.nil
          exact AllReadyH.nil
        exact AllReadyH.nil
set_option maxRecDepth 100000 in
theorem lmay_lifted (os : Os) (started : os.Started) (H : Type) (enc : TypeId × Value → H) :
    ReturnsInHanded {} Try.checked os 4 .any (Rows.modelMaySpec.pre6 enc Try.prog Try.f4 Rows.modelMayRow.domain false) (Rows.modelMaySpec.post enc Try.prog Try.f4 false true false false) := by
  refine returnsInHanded_of_change_sized (C := Try.checked) own started (by kernel_rfl) Try.func4
    (ChangeSpec.witness6 (enc := enc) (C := Try.checked) false ⟨#[], #[.int .i64 0, .slice none 0 0, .int .i64 0, .agg #[.int .i64 0, .int .i64 0, .int .i64 0, .int .i64 0, .string ByteArray.empty, .slice none 0 0]], []⟩ 8 (by kernel_rfl) (by kernel_rfl) (by kernel_rfl) (by kernel_rfl)) ?_
  intro W base args ds gs before hval0 hW _ hsz0 _
  have hsz : (DataW.weightsEach Try.prog (Try.f4.params.toList ++ Rows.modelMaySpec.plain.varTypes Try.prog) (ds ++ gs)).all (· ≤ reachBytes) = true := hsz0
  clear hsz0
  have hval : ∀ (j : Nat) t v, Try.f4.params[j]? = some t → args[j]? = some v → Value.okWide Try.prog W .any base t v := hval0
  have hW' := hW
  obtain ⟨p, q, hA0, hV, rfl, hfz, hnd⟩ := hW
  have hA : DataW.TrodAll enc Try.prog W 0 (fun _ => true) true Try.f4.params.toList args.toList ds p := hA0
  rw [Try.params4] at hA hval hsz
  obtain ⟨v0, vs0, d0, ds0, p0, q0, hargs, rfl, rfl, h0, r0⟩ := trodAll_cons hA
  obtain ⟨v1, vs1, d1, ds1, p1, q1, rfl, rfl, rfl, h1, r1⟩ := trodAll_cons r0
  obtain ⟨v2, vs2, d2, ds2, p2, q2, rfl, rfl, rfl, h2, r2⟩ := trodAll_cons r1
  obtain ⟨v3, vs3, d3, ds3, p3, q3, rfl, rfl, rfl, h3, r3⟩ := trodAll_cons r2
  obtain ⟨rfl, rfl, rfl⟩ := trodAll_nil r3
  obtain rfl : args = #[v0, v1, v2, v3] := by cases args; simp_all
  obtain ⟨rfl, rfl⟩ := trodVars_none hV
  obtain ⟨a0, rfl, rfl, rfl, w0⟩ := open_int Try.underlying3 (hval 0 3 v0 rfl rfl) h0
  have i0 := bounds_i64 w0
  obtain ⟨a1, len1, cap1, rfl⟩ := okWide_slice Try.underlying41 (hval 1 41 v1 rfl rfl)
  have k1 := h1
  have lt1 : ∀ x ∈ p1, x.block < W.heap.size := by obtain ⟨m, hm⟩ := k1; exact DataW.trod_lt m _ _ _ hm
  obtain ⟨x1, hx1⟩ := opens_nameds.arg h1 hsz (j := 1) rfl rfl
  obtain ⟨a2, rfl, rfl, rfl, w2⟩ := open_int Try.underlying3 (hval 2 3 v2 rfl rfl) h2
  have i2 := bounds_i64 w2
  obtain ⟨c3, rfl, -⟩ := okWide_struct Try.underlying28 (hval 3 28 v3 rfl rfl)
  have k3 := h3
  have lt3 : ∀ x ∈ p3, x.block < W.heap.size := by obtain ⟨m, hm⟩ := k3; exact DataW.trod_lt m _ _ _ hm
  obtain ⟨x3, hx3⟩ := opens_op10.arg h3 hsz (j := 3) rfl rfl
  clear hA0 hval0
  refine (lmay_walk a0 a1 len1 cap1 x1 a2 c3.toList x3 W (by omega) (by omega) hx1 (by omega) (by omega) hx3).mono fun e W' ⟨he, bel⟩ => ?_
  subst he
  exact ⟨_, rfl, _, _, _, [], _, [], hW', trodAll_mk1 (shut_bool Try.underlying4 _), (trodAll_cons_mk (shut_int Try.underlying3 w0) (trodAll_cons_mk (Below.trod laidOut (by kernel_rfl) (of_decide_eq_true (by kernel_rfl)) k1 bel lt1) (trodAll_cons_mk (shut_int Try.underlying3 w2) (trodAll_cons_mk (Below.trod laidOut (by kernel_rfl) (of_decide_eq_true (by kernel_rfl)) k3 bel lt3) trodAll_mk0)))), rfl, bel.frame _, fun h => by cases h⟩
theorem modelMay_holds : Rows.ModelMaySaid :=
  OpenClaim.holds_of_wide 4 Try.f4 rfl rfl rfl rfl rfl rfl rfl ⟨rfl, rfl, rfl, rfl, rfl⟩ rfl rfl rfl rfl rfl (by kernel_rfl) Try.func4 (by kernel_rfl)
    (of_decide_eq_true (by kernel_rfl)) (by unfold Func.isWrapper; first | (rw [if_pos (by decide +kernel)]; kernel_rfl) | (rw [if_neg (by decide +kernel)]; exact ⟨rfl, rfl⟩))
    (fun os started H enc _ => lmay_lifted os started H enc)
end Go.Proofs.Ytflcojljpbojlaa
