/-
  Facts that the proof rests on, part 17. Conditions: those that each of them names.
-/
import Derived.Test.YtinlgoljaiolnaaBK14
import Derived.Test.YtinlgoljaiolnaaBK15
namespace Go.Proofs.Ytinlgoljaiolnaa
open Go.RowKit
set_option linter.unusedVariables false
theorem OwnsQ.nil9E (w : World) (base : Nat) (Q : Nat → Prop) : OwnsQ rMp 72 w base Q (.slice none 0 0) [] := ⟨[], World.ownsRow_nil w base 72 rMp.size, rfl⟩
theorem look_few {l : List Ext} (h : Ex.Ok l) {v n : Int} : (Ex.look l v n).length ≤ 5000 := by
  have h1 := Ex.addAll_len (Ex.lookPs (v + n) v l) []
  have h2 := Ex.lookPs_len (en := v + n) l v
  have h3 := h.1
  unfold Ex.look
  simp only [List.length_nil] at h1
  omega
theorem around_head {O A B F : List Mpr} {c : Int} (h : O = A ++ B ++ F) (hA : ∀ x ∈ A, x.1 < c) (q : Nat) (hq : q < O.length) (hqa : q < A.length) : O[q].1 < c := by
  subst h
  simp only [List.append_assoc]
  rw [List.getElem_append_left hqa]
  exact hA _ (List.getElem_mem _)
theorem around_tail {O A B F : List Mpr} {c : Int} (h : O = A ++ B ++ F) (hA : ∀ x ∈ B ++ F, c ≤ x.1) (q : Nat) (hq : q < O.length) (hqa : ¬ q < A.length) : c ≤ O[q].1 := by
  subst h
  simp only [List.append_assoc]
  rw [List.getElem_append_right (by omega)]
  exact hA _ (List.getElem_mem _)
theorem set_around {α : Type} {A F : List α} {x y : α} {n : Nat} (hn : A.length = n) : (A ++ [x] ++ F).set n y = A ++ [y] ++ F := by
  subst hn
  rw [List.append_assoc, List.set_append_right _ _ (Nat.le_refl _), Nat.sub_self, List.append_assoc]
  rfl
theorem at_around {α : Type} {A F : List α} {x : α} {n : Nat} (hn : A.length = n) (h : n < (A ++ [x] ++ F).length) : (A ++ [x] ++ F)[n] = x := by
  subst hn
  simp
set_option maxRecDepth 20000 in
set_option maxHeartbeats 16000000 in
theorem docBack_u (w : World) (P : Nat → Prop) (a : Option Addr) (n c : Nat) (l : List Rfr) (hL : rRfrs.rd w P [.slice a n c] l) :
    Calls Try.prog 28 #[.slice a n c] w fun e w' => ∃ a' c', e = .returned (.tuple #[.slice a' (Rf.backL l).length c', .int .i64 (Rf.backE l)]) ∧ rMps.rd w' (fun b => w.heap.size ≤ b) [.slice a' (Rf.backL l).length c'] (Rf.backL l) ∧ Below w.heap.size w w' := by
  have hl : l.length = n := (rList_len hL).1
  have HL : Hid (l.length = n) := hl
  have HR : Hid (rRfrs.rd w P [.slice a n c] l) := hL
  clear hL
  by_cases hn : 4096 < n
  · obtain ⟨e1, e2⟩ := Rf.back_many (l := l) (by omega)
    rw [e1, e2]
    have hz : (4096 : Int) < (n : Int) := by omega
    clear e1 e2 hl
    go_enter Try.func28, Try.ntmps28
    go_wp2
    go_ret2
    exact ⟨none, 0, rfl, rMps_emptyAt _ _ _ _ (fun _ => rfl), Below.refl _ _⟩
  · have hz : ¬ (4096 : Int) < (n : Int) := by omega
    have HN : Hid (¬ 4096 < l.length) := by unfold Hid; omega
    have hn2 : n ≤ 4096 := by omega
    clear hl
    go_enter Try.func28, Try.ntmps28
    go_wp2
    go_loopw [4, 5, 6] (fun o tb i wr => ∃ (k : Nat) (O : List Mpr) (tw : Bool) (L : Nat → List Ext) (t : Int), k ≤ n ∧ i = .int .i64 k ∧ tb = .bool tw ∧ Hid (Rf.Beside l k O tw L t) ∧ Hid (OwnsQ rMp 72 wr w.heap.size (fun b => w.heap.size ≤ b) o O) ∧ Below w.heap.size w wr) (fun _ _ i _ => n - (intOf i).toNat)
    case atStart => exact ⟨0, [], false, _, 0, Nat.zero_le _, rfl, rfl, Rf.Beside.start l, OwnsQ.nil9E _ _ _, Below.refl _ _⟩
    case round =>
      obtain ⟨k, O, tw, L, t, hk, rfl, rfl, HB, HO, bel⟩ := hrel
      obtain ⟨wo, hwo⟩ : ∃ wo, wo = wr := ⟨_, rfl⟩
      rw [← hwo] at HO bel ⊢
      clear hwo
      have BO : Hid (Below w.heap.size w wo) := bel
      by_cases hkn : k < n
      · have hkl : k < l.length := by rw [HL.out]; exact hkn
        obtain ⟨g, off, rfl, -, hgl, hat⟩ := rRfrs_at (Rep.below HR.out bel) (by omega)
        obtain ⟨c0, c1, c2, c3, hin⟩ := hat k hkl
        have hkz : (k : Int) < (n : Int) := by omega
        obtain ⟨r, hr⟩ : ∃ r, r = l[k] := ⟨_, rfl⟩
        have HIn : Hid (In4 r) := by rw [hr]; exact hin
        rw [← hr] at c0 c1 c2 c3
        clear hat hin bel
        by_cases how : r.2.2.1 < 0 ∨ 255 < r.2.2.1
        · have hst := Rf.back_none HN.out (Rf.puts_stop hkl HB.out.puts (fun h => by have h1 := h.1; have h2 := h.2.1; rw [← hr] at h1 h2; omega))
          have E1 : Hid _ := hst.1
          have E2 : Hid _ := hst.2
          clear hst hr
          rcases how with how | how
          · go_wp2
            go_ret2
            exact ⟨none, 0, by rw [E1.out, E2.out]; rfl, by rw [E2.out]; exact rMps_emptyAt _ _ _ _ (fun _ => rfl), BO.out⟩
          · have hno : ¬ r.2.2.1 < 0 := by omega
            go_wp2
            go_ret2
            exact ⟨none, 0, by rw [E1.out, E2.out]; rfl, by rw [E2.out]; exact rMps_emptyAt _ _ _ _ (fun _ => rfl), BO.out⟩
        · have ho0 : ¬ r.2.2.1 < 0 := by omega
          have ho1 : ¬ 255 < r.2.2.1 := by omega
          have hoN : (Rf.ownN r : Int) = r.2.2.1 := by unfold Rf.ownN; omega
          have ho256 : Rf.ownN r < 256 := by unfold Rf.ownN; omega
          have hok : Ex.Ok (L (Rf.ownN r)) := (Rf.puts_ok k (by omega) HB.out.puts).ok _
          have HOut : Hid (O = Rf.outOf L (Rf.ownN r) ++ Rf.outOne L (Rf.ownN r) ++ Rf.outFrom L (Rf.ownN r + 1) (255 - Rf.ownN r)) := by unfold Hid; rw [HB.out.out]; exact Rf.out_around L ho256
          have hO256 : O.length ≤ 256 := by rw [HB.out.out]; exact Rf.out_len L 256
          have HLow : Hid _ := Rf.out_low L (Rf.ownN r)
          have HHigh : Hid _ := Rf.from_high L (Rf.ownN r + 1) (255 - Rf.ownN r)
          have HMayI : Hid (Ex.putE (L (Rf.ownN r)) (r.2.2.2, r.1, r.2.1) = 0 → Rf.MayR l[k] L) := fun h => by rw [← hr]; exact ⟨by omega, by omega, h⟩
          have HMayE : Hid (Rf.MayR l[k] L → Ex.putE (L (Rf.ownN r)) (r.2.2.2, r.1, r.2.1) = 0) := fun h => by rw [← hr] at h; exact h.2.2
          obtain ⟨Lo, hLo⟩ : ∃ Lo, Lo = L (Rf.ownN r) := ⟨_, rfl⟩
          have HLo : Hid (L (Rf.ownN r) = Lo) := hLo.symm
          have HOne : Hid (Rf.outOne L (Rf.ownN r) = if Lo = [] then [] else [((Rf.ownN r : Int), Lo)]) := by unfold Hid Rf.outOne; rw [hLo]
          rw [← hLo] at HMayI HMayE hok
          have HPf : Hid ((Ex.putL Lo (r.2.2.2, r.1, r.2.1)).length ≤ 1024) := by
            unfold Hid
            by_cases he : Ex.putE Lo (r.2.2.2, r.1, r.2.1) = 0
            · exact (Ex.putL_ok he).2.1.1
            · rw [show Ex.putL Lo (r.2.2.2, r.1, r.2.1) = [] from if_neg he]; decide
          obtain ⟨na, hna⟩ : ∃ na, na = (Rf.outOf L (Rf.ownN r)).length := ⟨_, rfl⟩
          have HNa : Hid ((Rf.outOf L (Rf.ownN r)).length = na) := hna.symm
          obtain ⟨nO, hnO⟩ : ∃ nO, nO = O.length := ⟨_, rfl⟩
          have HNO : Hid (O.length = nO) := hnO.symm
          have hnaO : na ≤ nO := by rw [hna, hnO, HOut.out]; simp only [List.length_append]; omega
          have hnO2 : nO ≤ 256 := by omega
          have HHd : Hid (∀ (q : Nat) (hq : q < O.length), q < na → O[q].1 < r.2.2.1) := fun q hq hqa => around_head HOut.out (fun x hx => by have := (HLow.out x hx).2.1; omega) q hq (by rw [HNa.out]; exact hqa)
          have HTl : Hid (∀ (q : Nat) (hq : q < O.length), ¬ q < na → r.2.2.1 ≤ O[q].1) := fun q hq hqa => around_tail HOut.out (fun x hx => by
            rcases List.mem_append.1 hx with e | e
            · have h1 := HOne.out
              unfold Hid at h1
              rw [h1] at e
              split at e
              · cases e
              · rw [List.mem_singleton] at e
                rw [e]
                show r.2.2.1 ≤ (Rf.ownN r : Int)
                omega
            · have := HHigh.out _ e
              omega) q hq (by rw [HNa.out]; exact hqa)
          obtain ⟨ao, co, hvo⟩ := HO.out.slice
          rw [HNO.out] at hvo
          subst hvo
          have HCo : Hid (nO ≤ co ∧ (ao = none → co = 0)) := by
            obtain ⟨a8, c8, h8, hr8⟩ := OwnsQ.rd (hs := by decide) HO.out (by show _ * 32 ≤ _; omega)
            simp only [Value.slice.injEq] at h8
            obtain ⟨rfl, -, rfl⟩ := h8
            obtain ⟨h1, h2, h3, -⟩ := rList_len hr8
            exact ⟨by omega, h3⟩
          have HG : Hid (g < wo.heap.size) := hgl
          have HCC : Hid (wo.cell? ⟨g, off + k * 4, none⟩ = some (.int .i64 r.1) ∧ wo.cell? ⟨g, off + k * 4 + 1, none⟩ = some (.int .i64 r.2.1) ∧ wo.cell? ⟨g, off + k * 4 + 2, none⟩ = some (.int .i64 r.2.2.1) ∧ wo.cell? ⟨g, off + k * 4 + 3, none⟩ = some (.int .i64 r.2.2.2)) := ⟨c0, c1, c2, c3⟩
          have HHr : Hid (r = l[k]) := hr
          have HoN : Hid _ := hoN
          clear hr hLo hna hnO hgl c0 c1 c3
          go_upto_block 2 with fail
          clear c2
          go_cut [7] from 18 to 155 (fun t wx => t = .int .i64 na ∧ Below wo.heap.size wo wx)
          case first =>
            go_wp2_with fail
            go_loopw [7] (fun t w4 => ∃ q : Nat, q ≤ na ∧ t = .int .i64 q ∧ Below wo.heap.size wo w4) (fun t _ => na - (intOf t).toNat)
            case atStart => exact ⟨0, Nat.zero_le _, rfl, Below.refl _ _⟩
            case round =>
              obtain ⟨q, hq, rfl, bel4⟩ := hrel
              obtain ⟨-, -, d2, -⟩ := four_cells HG.out HCC.out bel4
              have B4 : Hid (Below wo.heap.size wo wr) := bel4
              by_cases hqO : q < nO
              · obtain ⟨g9, rfl, -, -, -, -, hat9⟩ := (HO.out.below bel4).cells9 (by rw [HNO.out]; omega)
                have hqO' : q < O.length := by rw [HNO.out]; exact hqO
                obtain ⟨-, -, -, p0, -, -, -⟩ := hat9 q hqO'
                have HQ : Hid (q < na → O[q].1 < r.2.2.1) := HHd.out q hqO'
                have HQ2 : Hid (¬ q < na → ¬ O[q].1 < r.2.2.1) := fun hna => by
                  have h9 := HTl.out q hqO' hna
                  omega
                obtain ⟨X, hX⟩ : ∃ X, X = O[q].1 := ⟨_, rfl⟩
                rw [← hX] at p0 HQ HQ2
                have d1 : decide ((q : Int) < (nO : Int)) = true := decide_eq_true (by omega)
                have hqz : (q : Int) < (nO : Int) := by omega
                clear hX hat9 bel4
                by_cases hqa : q < na
                · have d3 : decide (X < r.2.2.1) = true := decide_eq_true (HQ.out hqa)
                  go_wp2_with fail
                  go_quiet (fail)
                  go_wp2
                  go_roundw
                  case rel => exact ⟨q + 1, by omega, by go_num, same_drewN B4.out _⟩
                  case measure => simp [intOf]; omega
                · have d3 : decide (X < r.2.2.1) = false := decide_eq_false (HQ2.out hqa)
                  obtain rfl : q = na := by omega
                  go_wp2_with fail
                  go_quiet (fail)
                  go_wp2
                  go_meet
                  exact ⟨rfl, same_drewN B4.out _⟩
              · obtain rfl : q = na := by omega
                have d1 : decide ((q : Int) < (nO : Int)) = false := decide_eq_false (by omega)
                have hqz : ¬ (q : Int) < (nO : Int) := by omega
                clear bel4
                go_wp2_with fail
                go_quiet (fail)
                go_wp2
                go_meet
                exact ⟨rfl, same_drewN B4.out _⟩
          case rest =>
            obtain ⟨rfl, bw⟩ := hcut
            obtain ⟨wb, hwb⟩ : ∃ wb, wb = wc := ⟨_, rfl⟩
            rw [← hwb] at bw ⊢
            clear hwb
            have BW : Hid (Below wo.heap.size wo wb) := bw
            have HOc : Hid (OwnsQ rMp 72 wb w.heap.size (fun b => w.heap.size ≤ b) (.slice ao nO co) O) := HO.out.below bw
            have hCc := four_cells HG.out HCC.out bw
            have HCc : Hid (wb.cell? ⟨g, off + k * 4, none⟩ = some (.int .i64 r.1) ∧ wb.cell? ⟨g, off + k * 4 + 1, none⟩ = some (.int .i64 r.2.1) ∧ wb.cell? ⟨g, off + k * 4 + 2, none⟩ = some (.int .i64 r.2.2.1) ∧ wb.cell? ⟨g, off + k * 4 + 3, none⟩ = some (.int .i64 r.2.2.2)) := hCc
            have c2 := hCc.2.2.1
            clear bw hCc
            by_cases hne : Lo = []
            · have HOne0 : Hid (Rf.outOne L (Rf.ownN r) = []) := by unfold Hid; rw [HOne.out, if_pos hne]
              have HO9e : Hid (O.take na ++ [((Rf.ownN r : Int), Lo)] ++ O.drop na = Rf.outOf L (Rf.ownN r) ++ [((Rf.ownN r : Int), Lo)] ++ Rf.outFrom L (Rf.ownN r + 1) (255 - Rf.ownN r)) := by
                unfold Hid
                rw [HOut.out, HOne0.out, List.append_nil, List.take_left' HNa.out, List.drop_left' HNa.out]
              have HQ3 : Hid (∀ (h9 : na < O.length), O[na].1 ≠ r.2.2.1) := fun h9 => by
                have := around_tail (c := r.2.2.1 + 1) (O := O) (A := Rf.outOf L (Rf.ownN r)) (B := []) (F := Rf.outFrom L (Rf.ownN r + 1) (255 - Rf.ownN r)) (by have h := HOut.out; unfold Hid at h; rw [HOne0.out] at h; exact h) (fun x hx => by have := HHigh.out x hx; omega) na h9 (by rw [HNa.out]; omega)
                omega
              have HNe : Hid (Lo = []) := hne
              clear hne hoN
              go_upto_region 13 with fail
              go_cut [73] from 18 to 155 (fun t wx => t = .bool true ∧ Below wb.heap.size wb wx)
              case first =>
                by_cases hqO : na < nO
                · obtain ⟨g9, rfl, -, -, -, -, hat9⟩ := HOc.out.cells9 (by rw [HNO.out]; omega)
                  have hqO' : na < O.length := by rw [HNO.out]; exact hqO
                  obtain ⟨-, -, -, p0, -, -, -⟩ := hat9 na hqO'
                  have hXX := HQ3.out hqO'
                  obtain ⟨X, hX⟩ : ∃ X, X = O[na].1 := ⟨_, rfl⟩
                  rw [← hX] at p0 hXX
                  have d1 : decide ((na : Int) = (nO : Int)) = false := decide_eq_false (by omega)
                  have d1' : ((na : Int) == (nO : Int)) = false := beq_eq_false_iff_ne.2 (by omega)
                  have hqz : (na : Int) < (nO : Int) := by omega
                  have d3 : decide (X = r.2.2.1) = false := decide_eq_false hXX
                  have d3' : (X == r.2.2.1) = false := beq_eq_false_iff_ne.2 hXX
                  have d4 : (X != r.2.2.1) = true := by simp [bne, d3']
                  clear hX hat9
                  go_quiet (fail)
                  go_wp2_with fail
                  go_meet
                  exact ⟨rfl, same_drewN (Below.refl _ _) _⟩
                · have d1 : decide ((na : Int) = (nO : Int)) = true := decide_eq_true (by omega)
                  have d1' : ((na : Int) == (nO : Int)) = true := beq_iff_eq.2 (by omega)
                  go_quiet (fail)
                  go_wp2_with fail
                  go_meet
                  exact ⟨rfl, same_drewN (Below.refl _ _) _⟩
              case rest =>
                obtain ⟨rfl, bv⟩ := hcut
                have HRd : Hid (rMps.rd wc (fun b => w.heap.size ≤ b ∧ b < wc.heap.size) [.slice ao nO co] O) := by
                  obtain ⟨a8, c8, h8, hr8⟩ := OwnsQ.rd (hs := by decide) (HOc.out.below bv) (by show _ * 32 ≤ _; rw [HNO.out]; omega)
                  rw [HNO.out] at h8 hr8
                  simp only [Value.slice.injEq] at h8
                  obtain ⟨rfl, -, rfl⟩ := h8
                  exact rMps.weaken hr8 (fun b hb hl => ⟨by rcases hb with hb | hb <;> exact hb, hl⟩)
                have hcoz : nO ≤ co := HCo.out.1
                by_cases hck : co = na
                · have e1 : na = nO := by have := HCo.out.1; omega
                  subst e1
                  have e2 : na = co := by omega
                  subst e2
                  clear hck
                  obtain ⟨v1, w1, hr1, ho1, g1, -⟩ := run_append_maps (OwnsQ.nil9E wc wc.heap.size (fun b => w.heap.size ≤ b)) (rMps_front HRd.out hnaO) (fun b hb hl => ⟨hb.1, fun e => by cases e⟩) (by simp only [List.length_nil]; omega) (Nat.le_refl _) 22
                  rw [List.nil_append] at ho1
                  have b1 : Below wc.heap.size wc w1 := (Below.refl _ _).grown g1 (Nat.le_refl _) (fun k hk => by cases hk)
                  have hl1 : (O.take na).length = na := by rw [List.length_take, HNO.out]; omega
                  obtain ⟨w2, hw2, V2, b2, z2⟩ := boxedRow w1 72 [.int .i64 r.2.2.1, .slice none 0 0]
                  have hc2 : rMp.rd w2 (fun b => w.heap.size ≤ b ∧ v1.ownBlock ≠ some b) [.int .i64 r.2.2.1, .slice none 0 0] (r.2.2.1, []) := map_rd HIn.out.2.2.1 ⟨none, 0, 0, rfl, rfl, Nat.le_refl _, (fun _ => rfl), by decide, fun x hx => by cases hx⟩
                  obtain ⟨q3, d3, w3, hr3, ho3, g3, -⟩ := run_append_q (ty := 22) elem_map9D (ho1.below b2) (ad := ⟨w1.heap.size, 0, none⟩) (fun j u hj => by rw [Addr.add_lit, Nat.zero_add]; exact V2.cell hj) hc2 (by show _ * 32 ≤ _; rw [hl1]; omega) (by rw [hl1]; unfold maxLen; omega) (Nat.le_trans b1.size b2.size)
                  have b3 : Below wc.heap.size wc w3 := (on b1 b2).grown g3 (Nat.le_trans b1.size b2.size) (fun j hj => (ho1.row j hj).1)
                  have hl3 : (O.take na ++ [(r.2.2.1, [])]).length = na + 1 := by rw [List.length_append, hl1]; rfl
                  rw [hl1] at hr3 ho3
                  obtain ⟨v4, w4, hr4, ho4, g4, -⟩ := run_append_maps (m := O.drop na) ho3 (show rMps.rd w3 (fun b => w.heap.size ≤ b ∧ b < wc.heap.size) [.slice ao 0 0] (O.drop na) from by rw [List.drop_of_length_le (by rw [HNO.out]; exact Nat.le_refl _)]; exact rMps_emptyAt _ _ _ _ (fun _ => rfl)) (fun b hb hl => ⟨hb.1, fun e => by have := (ho3.row b e).1; have := hb.2; omega⟩) (by rw [hl3]; omega) b3.size 22
                  have b4 : Below wc.heap.size wc w4 := b3.grown g4 b3.size (fun j hj => (ho3.row j hj).1)
                  have HR1 : Hid _ := hr1
                  have HR3 : Hid _ := hr3
                  have HR4 : Hid _ := hr4
                  have ho9 : OwnsQ rMp 72 w4 w.heap.size (fun b => w.heap.size ≤ b) v4 (Rf.outOf L (Rf.ownN r) ++ [((Rf.ownN r : Int), Lo)] ++ Rf.outFrom L (Rf.ownN r + 1) (255 - Rf.ownN r)) := by
                    have h := ho4.base_mono (on BO.out (on BW.out bv)).size
                    rw [show (r.2.2.1, ([] : List Ext)) = ((Rf.ownN r : Int), Lo) from by rw [HoN.out, HNe.out], HO9e.out] at h
                    exact h
                  have HO9l : Hid ((Rf.outOf L (Rf.ownN r) ++ [((Rf.ownN r : Int), Lo)] ++ Rf.outFrom L (Rf.ownN r + 1) (255 - Rf.ownN r)).length = na + 1) := by
                    unfold Hid
                    rw [← HO9e.out]
                    simp only [List.length_append, List.length_take, List.length_drop, List.length_singleton, HNO.out]
                    omega
                  obtain ⟨q9, c9, hv4⟩ := ho9.slice
                  rw [HO9l.out] at hv4
                  have ho9' := ho9
                  rw [hv4] at ho9'
                  obtain ⟨g9, rfl, -⟩ := ho9'.cells9 (by rw [HO9l.out]; omega)
                  subst hv4
                  have HO9 : Hid (OwnsQ rMp 72 w4 w.heap.size (fun b => w.heap.size ≤ b) (.slice (some ⟨g9, 0, none⟩) (na + 1) c9) (Rf.outOf L (Rf.ownN r) ++ [((Rf.ownN r : Int), Lo)] ++ Rf.outFrom L (Rf.ownN r + 1) (255 - Rf.ownN r))) := ho9
                  have HBt : Hid (Below w.heap.size w w4) := on BO.out (on BW.out (on bv b4))
                  have HGt : Hid (g < w4.heap.size) := Nat.lt_of_lt_of_le HG.out (on BW.out (on bv b4)).size
                  have HCt : Hid (w4.cell? ⟨g, off + k * 4, none⟩ = some (.int .i64 r.1) ∧ w4.cell? ⟨g, off + k * 4 + 1, none⟩ = some (.int .i64 r.2.1) ∧ w4.cell? ⟨g, off + k * 4 + 2, none⟩ = some (.int .i64 r.2.2.1) ∧ w4.cell? ⟨g, off + k * 4 + 3, none⟩ = some (.int .i64 r.2.2.2)) := four_cells (Nat.lt_of_lt_of_le HG.out BW.out.size) HCc.out (on bv b4)
                  have y2 := (four_cells (Nat.lt_of_lt_of_le HG.out BW.out.size) HCc.out (on bv b1)).2.2.1
                  have V2' : Hid _ := V2
                  clear hr1 hr3 hr4 ho1 ho3 ho4 ho9 ho9' g1 g3 g4 b1 b2 b3 b4 hl1 hl3 hc2 V2 z2 c2
                  have HAt9 : Hid (∀ h : na < (Rf.outOf L (Rf.ownN r) ++ [((Rf.ownN r : Int), Lo)] ++ Rf.outFrom L (Rf.ownN r + 1) (255 - Rf.ownN r)).length, (Rf.outOf L (Rf.ownN r) ++ [((Rf.ownN r : Int), Lo)] ++ Rf.outFrom L (Rf.ownN r + 1) (255 - Rf.ownN r))[na].2 = Lo) := fun h => by rw [at_around HNa.out h]
                  have HSet : Hid (∀ h : na < (Rf.outOf L (Rf.ownN r) ++ [((Rf.ownN r : Int), Lo)] ++ Rf.outFrom L (Rf.ownN r + 1) (255 - Rf.ownN r)).length, (Rf.outOf L (Rf.ownN r) ++ [((Rf.ownN r : Int), Lo)] ++ Rf.outFrom L (Rf.ownN r + 1) (255 - Rf.ownN r)).set na ((Rf.outOf L (Rf.ownN r) ++ [((Rf.ownN r : Int), Lo)] ++ Rf.outFrom L (Rf.ownN r + 1) (255 - Rf.ownN r))[na].1, Ex.putL Lo (r.2.2.2, r.1, r.2.1)) = Rf.outOf L (Rf.ownN r) ++ [((Rf.ownN r : Int), Ex.putL Lo (r.2.2.2, r.1, r.2.1))] ++ Rf.outFrom L (Rf.ownN r + 1) (255 - Rf.ownN r)) := fun h => by rw [at_around HNa.out h, set_around HNa.out]
                  obtain ⟨gx, hgx, hgb, hgl9, -, -, hat9⟩ := HO9.out.cells9 (by rw [HO9l.out]; omega)
                  simp only [Option.some.injEq, Addr.mk.injEq, and_true] at hgx
                  subst hgx
                  obtain ⟨ax, nx, cx, -, p9, hx9, -⟩ := hat9 na (by rw [HO9l.out]; omega)
                  rw [HAt9.out _] at hx9
                  have HOld : Hid (rExts.rd w4 (fun b => w.heap.size ≤ b ∧ g9 ≠ b) [.slice ax nx cx] Lo) := hx9
                  have HPut : Hid _ := refPut_u w4.drew (fun b => w.heap.size ≤ b ∧ g9 ≠ b) ax nx cx Lo (rExts.keep HOld.out (fun _ _ _ => rfl)) (r.2.2.2, r.1, r.2.1)
                  have HG9 : Hid (g9 < w4.heap.size) := hgl9
                  have HGb : Hid (w.heap.size ≤ g9) := hgb
                  have HP9 : Hid (w4.cell? ⟨g9, na * 2 + 1, none⟩ = some (.slice ax nx cx)) := p9
                  have hm9 : (na : Int) < ((na + 1) : Int) := by omega
                  have hCt := HCt.out
                  clear hat9 hx9 hgb hgl9
                  go_upto_region 16 with (at_builtin; refine Lib.wpList_append_run _ rfl _ _ _ _ rfl _ _ rfl rfl _ _ HR1.out ?_)
                  go_upto_region 17 with (at_builtin; refine Lib.wpList_append_run _ rfl _ _ _ _ rfl _ _ rfl rfl _ _ HR3.out ?_)
                  go_upto_region 18 with (at_builtin; refine Lib.wpList_append_run _ rfl _ _ _ _ rfl _ _ rfl rfl _ _ HR4.out ?_)
                  go_wp2_with fail
                  clear HR1 HR3 HR4 y2 V2' hw2 HRd HOc HQ3 HHd HTl HHigh HLow HOut HO HCc HCC
                  clear p9
                  refine wp_region_held_drew (S := (fun w' : World => w'.cell? ⟨g, off + k * 4, none⟩ = some (.int .i64 r.1) ∧ w'.cell? ⟨g, off + k * 4 + 1, none⟩ = some (.int .i64 r.2.1) ∧ w'.cell? ⟨g, off + k * 4 + 2, none⟩ = some (.int .i64 r.2.2.1) ∧ w'.cell? ⟨g, off + k * 4 + 3, none⟩ = some (.int .i64 r.2.2.2))) (by kernel_rfl) (hCt) (fun hHeld => ?_)
                  refine wpAnyH_takeL (i := 0) (v := ?_) rfl rfl (by kernel_rfl) (by kernel_rfl) (by kernel_rfl) (fun _ _ _ h => h) (Or.inl ⟨by rfl, ?_⟩) (by assumption) ?_
                  rotate_left
                  · intro w hSw
                    try dsimp only at hSw
                    go_simp
                    all_goals with_reducible rfl
                  simp only [List.set_cons_zero, List.set_cons_succ]
                  refine wpAnyH_takeL (i := 1) (v := ?_) rfl rfl (by kernel_rfl) (by kernel_rfl) (by kernel_rfl) (fun _ _ _ h => h) (Or.inl ⟨by rfl, ?_⟩) (by assumption) ?_
                  rotate_left
                  · intro w hSw
                    try dsimp only at hSw
                    go_simp
                    all_goals with_reducible rfl
                  simp only [List.set_cons_zero, List.set_cons_succ]
                  refine wpAnyH_takeL (i := 2) (v := ?_) rfl rfl (by kernel_rfl) (by kernel_rfl) (by kernel_rfl) (fun _ _ _ h => h) (Or.inl ⟨by rfl, ?_⟩) (by assumption) ?_
                  rotate_left
                  · intro w hSw
                    try dsimp only at hSw
                    go_simp
                    all_goals with_reducible rfl
                  simp only [List.set_cons_zero, List.set_cons_succ]
                  refine wpAnyH_takeL (i := 3) (v := ?_) rfl rfl (by kernel_rfl) (by kernel_rfl) (by kernel_rfl) (fun _ _ _ h => h) (Or.inl ⟨by rfl, ?_⟩) (by assumption) ?_
                  rotate_left
                  · intro w hSw
                    try dsimp only at hSw
                    go_simp
                    all_goals with_reducible rfl
                  simp only [List.set_cons_zero, List.set_cons_succ]
                  refine wpAnyH_takeL (i := 4) (v := ?_) rfl rfl (by kernel_rfl) (by kernel_rfl) (by kernel_rfl) (fun _ _ _ h => h) (Or.inl ⟨by rfl, ?_⟩) (by assumption) ?_
                  rotate_left
                  · intro w hSw
                    try dsimp only at hSw
                    go_simp
                    all_goals with_reducible rfl
                  simp only [List.set_cons_zero, List.set_cons_succ]
                  refine wpAnyH_takeL (i := 5) (v := ?_) rfl rfl (by kernel_rfl) (by kernel_rfl) (by kernel_rfl) (fun _ _ _ h => h) (Or.inl ⟨by rfl, ?_⟩) (by assumption) ?_
                  rotate_left
                  · intro w hSw
                    try dsimp only at hSw
                    go_simp
                    all_goals with_reducible rfl
                  simp only [List.set_cons_zero, List.set_cons_succ]
                  refine wpAnyH_takeL (i := 6) (v := ?_) rfl rfl (by kernel_rfl) (by kernel_rfl) (by kernel_rfl) (fun _ _ _ h => h) (Or.inl ⟨by rfl, ?_⟩) (by assumption) ?_
                  rotate_left
                  · intro w hSw
                    try dsimp only at hSw
                    go_simp
                    all_goals with_reducible rfl
                  simp only [List.set_cons_zero, List.set_cons_succ]
                  refine wpAnyH_takeL (i := 7) (v := ?_) rfl rfl (by kernel_rfl) (by kernel_rfl) (by kernel_rfl) (fun _ _ _ h => h) (Or.inl ⟨by rfl, ?_⟩) (by assumption) ?_
                  rotate_left
                  · intro w hSw
                    try dsimp only at hSw
                    go_simp
                    all_goals with_reducible rfl
                  simp only [List.set_cons_zero, List.set_cons_succ]
                  refine wpAnyH_takeL (i := 8) (v := ?_) rfl rfl (by kernel_rfl) (by kernel_rfl) (by kernel_rfl) (fun _ _ _ h => h) (Or.inl ⟨by rfl, ?_⟩) (by assumption) ?_
                  rotate_left
                  · intro w hSw
                    try dsimp only at hSw
                    go_simp
                    all_goals with_reducible rfl
                  simp only [List.set_cons_zero, List.set_cons_succ]
                  refine wpAnyH_takeL (i := 9) (v := ?_) rfl rfl (by kernel_rfl) (by kernel_rfl) (by kernel_rfl) (fun _ _ _ h => h) (Or.inl ⟨by rfl, ?_⟩) (by assumption) ?_
                  rotate_left
                  · intro w hSw
                    try dsimp only at hSw
                    go_simp
                    all_goals with_reducible rfl
                  simp only [List.set_cons_zero, List.set_cons_succ]
                  refine wpAnyH_takeL (i := 10) (v := ?_) rfl rfl (by kernel_rfl) (by kernel_rfl) (by kernel_rfl) (fun _ _ _ h => h) (Or.inl ⟨by rfl, ?_⟩) (by assumption) ?_
                  rotate_left
                  · intro w hSw
                    try dsimp only at hSw
                    go_simp
                    all_goals with_reducible rfl
                  simp only [List.set_cons_zero, List.set_cons_succ]
                  refine wpAnyH_takeL (i := 11) (v := ?_) rfl rfl (by kernel_rfl) (by kernel_rfl) (by kernel_rfl) (fun _ _ _ h => h) (Or.inl ⟨by rfl, ?_⟩) (by assumption) ?_
                  rotate_left
                  · intro w hSw
                    try dsimp only at hSw
                    go_simp
                    all_goals with_reducible rfl
                  simp only [List.set_cons_zero, List.set_cons_succ]
                  refine wpAnyH_takeL (i := 12) (v := ?_) rfl rfl (by kernel_rfl) (by kernel_rfl) (by kernel_rfl) (fun _ _ _ h => h) (Or.inl ⟨by rfl, ?_⟩) (by assumption) ?_
                  rotate_left
                  · intro w hSw
                    try dsimp only at hSw
                    go_simp
                    all_goals with_reducible rfl
                  simp only [List.set_cons_zero, List.set_cons_succ]
                  refine wpAnyH_takeL (i := 13) (v := ?_) rfl rfl (by kernel_rfl) (by kernel_rfl) (by kernel_rfl) (fun _ _ _ h => h) (Or.inl ⟨by rfl, ?_⟩) (by assumption) ?_
                  rotate_left
                  · intro w hSw
                    try dsimp only at hSw
                    go_simp
                    all_goals with_reducible rfl
                  simp only [List.set_cons_zero, List.set_cons_succ]
                  refine wpAnyH_takeL (i := 14) (v := ?_) rfl rfl (by kernel_rfl) (by kernel_rfl) (by kernel_rfl) (fun _ _ _ h => h) (Or.inl ⟨by rfl, ?_⟩) (by assumption) ?_
                  rotate_left
                  · intro w hSw
                    try dsimp only at hSw
                    go_simp
                    all_goals with_reducible rfl
                  simp only [List.set_cons_zero, List.set_cons_succ]
                  refine wpAnyH_takeL (i := 15) (v := ?_) rfl rfl (by kernel_rfl) (by kernel_rfl) (by kernel_rfl) (fun _ _ _ h => h) (Or.inl ⟨by rfl, ?_⟩) (by assumption) ?_
                  rotate_left
                  · intro w hSw
                    try dsimp only at hSw
                    go_simp
                    all_goals with_reducible rfl
                  simp only [List.set_cons_zero, List.set_cons_succ]
                  refine wpAnyH_takeL (i := 16) (v := ?_) rfl rfl (by kernel_rfl) (by kernel_rfl) (by kernel_rfl) (fun _ _ _ h => h) (Or.inl ⟨by rfl, ?_⟩) (by assumption) ?_
                  rotate_left
                  · intro w hSw
                    try dsimp only at hSw
                    go_simp
                    all_goals with_reducible rfl
                  simp only [List.set_cons_zero, List.set_cons_succ]
                  refine wpAnyH_ready (rs := [17]) (by kernel_rfl) (by simp) ?_
                  refine AllReadyH.cons rfl (fun K hK => ?_) ?_
                  · go_simp
                    go_at_call 50
                    refine Calls.mono HPut.out ?_
                    rintro e w5 ⟨v5, rfl, ho5, bd5⟩
                    have b5 : Below w4.heap.size w4 w5 := below_drew_pre bd5
                    have HO5 : Hid (OwnE 80 w5 w4.heap.size v5 (Ex.putL Lo (r.2.2.2, r.1, r.2.1))) := ho5
                    have B5 : Hid (Below w4.heap.size w4 w5) := b5
                    have S1 := four_cells HGt.out HCt.out b5
                    clear bd5 b5 ho5
                    go_simp
                    refine hK.out _ _ ?_ (fun hHeld => ?_)
                    · try dsimp only
                      exact S1
                    clear hK K
                    refine wpAnyH_takeL (i := 18) (v := ?_) rfl rfl (by kernel_rfl) (by kernel_rfl) (by kernel_rfl) (fun _ _ _ h => h) (Or.inl ⟨by rfl, ?_⟩) (by assumption) ?_
                    rotate_left
                    · intro w hSw
                      try dsimp only at hSw
                      go_simp
                      all_goals with_reducible rfl
                    simp only [List.set_cons_zero, List.set_cons_succ]
                    refine wpAnyH_takeL (i := 19) (v := ?_) rfl rfl (by kernel_rfl) (by kernel_rfl) (by kernel_rfl) (fun _ _ _ h => h) (Or.inl ⟨by rfl, ?_⟩) (by assumption) ?_
                    rotate_left
                    · intro w hSw
                      try dsimp only at hSw
                      go_simp
                      all_goals with_reducible rfl
                    simp only [List.set_cons_zero, List.set_cons_succ]
                    refine wpAnyH_takeL (i := 20) (v := ?_) rfl rfl (by kernel_rfl) (by kernel_rfl) (by kernel_rfl) (fun _ _ _ h => h) (Or.inl ⟨by rfl, ?_⟩) (by assumption) ?_
                    rotate_left
                    · intro w hSw
                      try dsimp only at hSw
                      go_simp
                      all_goals with_reducible rfl
                    simp only [List.set_cons_zero, List.set_cons_succ]
                    refine wpAnyH_takeL (i := 21) (v := ?_) rfl rfl (by kernel_rfl) (by kernel_rfl) (by kernel_rfl) (fun _ _ _ h => h) (Or.inl ⟨by rfl, ?_⟩) (by assumption) ?_
                    rotate_left
                    · intro w hSw
                      try dsimp only at hSw
                      go_simp
                      all_goals with_reducible rfl
                    simp only [List.set_cons_zero, List.set_cons_succ]
                    refine wpAnyH_takeL (i := 22) (v := ?_) rfl rfl (by kernel_rfl) (by kernel_rfl) (by kernel_rfl) (fun _ _ _ h => h) (Or.inl ⟨by rfl, ?_⟩) (by assumption) ?_
                    rotate_left
                    · intro w hSw
                      try dsimp only at hSw
                      go_simp
                      all_goals with_reducible rfl
                    simp only [List.set_cons_zero, List.set_cons_succ]
                    refine wpAnyH_done (by kernel_rfl) ?_ _
                    clear hHeld
                    obtain ⟨a5, c5, rfl, -, -⟩ := HO5.out.slice
                    have HX5 : Hid (rExts.rd w5 (fun b => w4.heap.size ≤ b) [.slice a5 (Ex.putL Lo (r.2.2.2, r.1, r.2.1)).length c5] (Ex.putL Lo (r.2.2.2, r.1, r.2.1))) := HO5.out.rd (by have := HPf.out; omega)
                    have HC5 : Hid (w5.cell? ⟨g, off + k * 4, none⟩ = some (.int .i64 r.1) ∧ w5.cell? ⟨g, off + k * 4 + 1, none⟩ = some (.int .i64 r.2.1) ∧ w5.cell? ⟨g, off + k * 4 + 2, none⟩ = some (.int .i64 r.2.2.1) ∧ w5.cell? ⟨g, off + k * 4 + 3, none⟩ = some (.int .i64 r.2.2.2)) := S1
                    by_cases hE : Ex.putE Lo (r.2.2.2, r.1, r.2.1) = 0
                    · have HMay : Hid (Rf.MayR l[k] L) := HMayI.out hE
                      have HNext : Hid _ := HB.out.next hkl HMay.out
                      have hr : r = l[k] := HHr.out
                      rw [← hr, show Rf.extOf r = (r.2.2.2, r.1, r.2.1) from rfl, HLo.out] at HNext
                      have hz := Ex.putE_zero.1 hE
                      have HLz : Hid (Ex.lookE Lo r.2.2.2 r.2.1 = 0) := Ex.lookE_zero.2 ⟨hz.1, hz.2.1.2.1⟩
                      have HZfew : Hid ((Ex.look Lo r.2.2.2 r.2.1).length ≤ 5000) := look_few hz.1
                      rw [hE]
                      clear hr hz hE S1
                      have hC5 := HC5.out
                      have HLook : Hid _ := refLook_u w5.drew (fun b => w.heap.size ≤ b ∧ g9 ≠ b) ax nx cx Lo (rExts.keep (Rep.below HOld.out B5.out) (fun _ _ _ => rfl)) r.2.2.2 r.2.1
                      clear HPut
                      go_wp2_with fail
                      refine wp_region_held_drew (S := (fun w' : World => w'.cell? ⟨g, off + k * 4, none⟩ = some (.int .i64 r.1) ∧ w'.cell? ⟨g, off + k * 4 + 1, none⟩ = some (.int .i64 r.2.1) ∧ w'.cell? ⟨g, off + k * 4 + 2, none⟩ = some (.int .i64 r.2.2.1) ∧ w'.cell? ⟨g, off + k * 4 + 3, none⟩ = some (.int .i64 r.2.2.2))) (by kernel_rfl) (hC5) (fun hHeld => ?_)
                      refine wpAnyH_takeL (i := 0) (v := ?_) rfl rfl (by kernel_rfl) (by kernel_rfl) (by kernel_rfl) (fun _ _ _ h => h) (Or.inl ⟨by rfl, ?_⟩) (by assumption) ?_
                      rotate_left
                      · intro w hSw
                        try dsimp only at hSw
                        go_simp
                        all_goals with_reducible rfl
                      simp only [List.set_cons_zero, List.set_cons_succ]
                      refine wpAnyH_takeL (i := 1) (v := ?_) rfl rfl (by kernel_rfl) (by kernel_rfl) (by kernel_rfl) (fun _ _ _ h => h) (Or.inl ⟨by rfl, ?_⟩) (by assumption) ?_
                      rotate_left
                      · intro w hSw
                        try dsimp only at hSw
                        go_simp
                        all_goals with_reducible rfl
                      simp only [List.set_cons_zero, List.set_cons_succ]
                      refine wpAnyH_takeL (i := 2) (v := ?_) rfl rfl (by kernel_rfl) (by kernel_rfl) (by kernel_rfl) (fun _ _ _ h => h) (Or.inl ⟨by rfl, ?_⟩) (by assumption) ?_
                      rotate_left
                      · intro w hSw
                        try dsimp only at hSw
                        go_simp
                        all_goals with_reducible rfl
                      simp only [List.set_cons_zero, List.set_cons_succ]
                      refine wpAnyH_takeL (i := 3) (v := ?_) rfl rfl (by kernel_rfl) (by kernel_rfl) (by kernel_rfl) (fun _ _ _ h => h) (Or.inl ⟨by rfl, ?_⟩) (by assumption) ?_
                      rotate_left
                      · intro w hSw
                        try dsimp only at hSw
                        go_simp
                        all_goals with_reducible rfl
                      simp only [List.set_cons_zero, List.set_cons_succ]
                      refine wpAnyH_takeL (i := 4) (v := ?_) rfl rfl (by kernel_rfl) (by kernel_rfl) (by kernel_rfl) (fun _ _ _ h => h) (Or.inl ⟨by rfl, ?_⟩) (by assumption) ?_
                      rotate_left
                      · intro w hSw
                        try dsimp only at hSw
                        go_simp
                        all_goals with_reducible rfl
                      simp only [List.set_cons_zero, List.set_cons_succ]
                      refine wpAnyH_takeL (i := 5) (v := ?_) rfl rfl (by kernel_rfl) (by kernel_rfl) (by kernel_rfl) (fun _ _ _ h => h) (Or.inl ⟨by rfl, ?_⟩) (by assumption) ?_
                      rotate_left
                      · intro w hSw
                        try dsimp only at hSw
                        go_simp
                        all_goals with_reducible rfl
                      simp only [List.set_cons_zero, List.set_cons_succ]
                      refine wpAnyH_takeL (i := 6) (v := ?_) rfl rfl (by kernel_rfl) (by kernel_rfl) (by kernel_rfl) (fun _ _ _ h => h) (Or.inl ⟨by rfl, ?_⟩) (by assumption) ?_
                      rotate_left
                      · intro w hSw
                        try dsimp only at hSw
                        go_simp
                        all_goals with_reducible rfl
                      simp only [List.set_cons_zero, List.set_cons_succ]
                      refine wpAnyH_takeL (i := 7) (v := ?_) rfl rfl (by kernel_rfl) (by kernel_rfl) (by kernel_rfl) (fun _ _ _ h => h) (Or.inl ⟨by rfl, ?_⟩) (by assumption) ?_
                      rotate_left
                      · intro w hSw
                        try dsimp only at hSw
                        go_simp
                        all_goals with_reducible rfl
                      simp only [List.set_cons_zero, List.set_cons_succ]
                      refine wpAnyH_takeL (i := 8) (v := ?_) rfl rfl (by kernel_rfl) (by kernel_rfl) (by kernel_rfl) (fun _ _ _ h => h) (Or.inl ⟨by rfl, ?_⟩) (by assumption) ?_
                      rotate_left
                      · intro w hSw
                        try dsimp only at hSw
                        go_simp
                        all_goals with_reducible rfl
                      simp only [List.set_cons_zero, List.set_cons_succ]
                      refine wpAnyH_takeL (i := 9) (v := ?_) rfl rfl (by kernel_rfl) (by kernel_rfl) (by kernel_rfl) (fun _ _ _ h => h) (Or.inl ⟨by rfl, ?_⟩) (by assumption) ?_
                      rotate_left
                      · intro w hSw
                        try dsimp only at hSw
                        go_simp
                        all_goals with_reducible rfl
                      simp only [List.set_cons_zero, List.set_cons_succ]
                      refine wpAnyH_takeL (i := 10) (v := ?_) rfl rfl (by kernel_rfl) (by kernel_rfl) (by kernel_rfl) (fun _ _ _ h => h) (Or.inl ⟨by rfl, ?_⟩) (by assumption) ?_
                      rotate_left
                      · intro w hSw
                        try dsimp only at hSw
                        go_simp
                        all_goals with_reducible rfl
                      simp only [List.set_cons_zero, List.set_cons_succ]
                      refine wpAnyH_ready (rs := [11]) (by kernel_rfl) (by simp) ?_
                      refine AllReadyH.cons rfl (fun K hK => ?_) ?_
                      · go_simp
                        go_at_call 51
                        refine Calls.mono HLook.out ?_
                        rintro e w6 ⟨v6, rfl, ho6, bd6⟩
                        have b6 : Below w5.heap.size w5 w6 := below_drew_pre bd6
                        have HO6 : Hid (OwnE 80 w6 w5.heap.size v6 (Ex.lookL Lo r.2.2.2 r.2.1)) := ho6
                        have B6 : Hid (Below w4.heap.size w4 w6) := on B5.out b6
                        have B56 : Hid (Below w5.heap.size w5 w6) := b6
                        have S2 := four_cells (Nat.lt_of_lt_of_le HGt.out B5.out.size) HC5.out b6
                        clear bd6 b6 ho6
                        go_simp
                        refine hK.out _ _ ?_ (fun hHeld => ?_)
                        · try dsimp only
                          exact S2
                        clear hK K
                        refine wpAnyH_takeL (i := 12) (v := ?_) rfl rfl (by kernel_rfl) (by kernel_rfl) (by kernel_rfl) (fun _ _ _ h => h) (Or.inl ⟨by rfl, ?_⟩) (by assumption) ?_
                        rotate_left
                        · intro w hSw
                          try dsimp only at hSw
                          go_simp
                          all_goals with_reducible rfl
                        simp only [List.set_cons_zero, List.set_cons_succ]
                        refine wpAnyH_takeL (i := 13) (v := ?_) rfl rfl (by kernel_rfl) (by kernel_rfl) (by kernel_rfl) (fun _ _ _ h => h) (Or.inl ⟨by rfl, ?_⟩) (by assumption) ?_
                        rotate_left
                        · intro w hSw
                          try dsimp only at hSw
                          go_simp
                          all_goals with_reducible rfl
                        simp only [List.set_cons_zero, List.set_cons_succ]
                        refine wpAnyH_takeL (i := 14) (v := ?_) rfl rfl (by kernel_rfl) (by kernel_rfl) (by kernel_rfl) (fun _ _ _ h => h) (Or.inl ⟨by rfl, ?_⟩) (by assumption) ?_
                        rotate_left
                        · intro w hSw
                          try dsimp only at hSw
                          go_simp
                          all_goals with_reducible rfl
                        simp only [List.set_cons_zero, List.set_cons_succ]
                        refine wpAnyH_takeL (i := 15) (v := ?_) rfl rfl (by kernel_rfl) (by kernel_rfl) (by kernel_rfl) (fun _ _ _ h => h) (Or.inl ⟨by rfl, ?_⟩) (by assumption) ?_
                        rotate_left
                        · intro w hSw
                          try dsimp only at hSw
                          go_simp
                          all_goals with_reducible rfl
                        simp only [List.set_cons_zero, List.set_cons_succ]
                        refine wpAnyH_takeL (i := 16) (v := ?_) rfl rfl (by kernel_rfl) (by kernel_rfl) (by kernel_rfl) (fun _ _ _ h => h) (Or.inl ⟨by rfl, ?_⟩) (by assumption) ?_
                        rotate_left
                        · intro w hSw
                          try dsimp only at hSw
                          go_simp
                          all_goals with_reducible rfl
                        simp only [List.set_cons_zero, List.set_cons_succ]
                        refine wpAnyH_done (by kernel_rfl) ?_ _
                        have HC6 : Hid (w6.cell? ⟨g, off + k * 4, none⟩ = some (.int .i64 r.1) ∧ w6.cell? ⟨g, off + k * 4 + 1, none⟩ = some (.int .i64 r.2.1) ∧ w6.cell? ⟨g, off + k * 4 + 2, none⟩ = some (.int .i64 r.2.2.1) ∧ w6.cell? ⟨g, off + k * 4 + 3, none⟩ = some (.int .i64 r.2.2.2)) := S2
                        clear S2
                        clear hHeld
                        obtain ⟨a6, c6, rfl, -, -⟩ := HO6.out.slice
                        have HLk : Hid (Ex.lookL Lo r.2.2.2 r.2.1 = Ex.look Lo r.2.2.2 r.2.1) := if_pos HLz.out
                        obtain ⟨Z, hZ⟩ : ∃ Z, Z = Ex.lookL Lo r.2.2.2 r.2.1 := ⟨_, rfl⟩
                        rw [← hZ] at HO6 HLk ⊢
                        obtain ⟨nz, hnz⟩ : ∃ nz, nz = Z.length := ⟨_, rfl⟩
                        have HZn : Hid (Z.length = nz) := hnz.symm
                        rw [← hnz]
                        have HZ6 : Hid (rExts.rd w6 (fun b => w5.heap.size ≤ b) [.slice a6 nz c6] Z) := by
                          have h := HO6.out
                          rw [← hnz] at h
                          exact h.rd (by rw [HZn.out]; have := HZfew.out; rw [← HLk.out, HZn.out] at this; omega)
                        have hnz3 : nz ≤ 5000 := by have := HZfew.out; rw [← HLk.out, HZn.out] at this; omega
                        clear hZ hnz HO6
                        have hSC := HC6.out
                        go_wp2
                        go_loopw [5, 14] (fun tb i wr => ∃ q : Nat, q ≤ nz ∧ i = .int .i64 q ∧ tb = .bool (tw || (Z.take q).any fun z => decide (z.2.1 ≠ -1)) ∧ Below w6.heap.size w6 wr) (fun _ i _ => nz - (intOf i).toNat)
                        case atStart => exact ⟨0, Nat.zero_le _, rfl, by simp, Below.refl _ _⟩
                        case round =>
                          obtain ⟨q, hq, rfl, rfl, bel7⟩ := hrel
                          by_cases hqn : q < nz
                          · have hqZ : q < Z.length := by rw [HZn.out]; exact hqn
                            obtain ⟨gz, oz, rfl, -, hgz, hatz⟩ := rExts_at (Rep.below HZ6.out bel7) (by omega)
                            obtain ⟨-, z1, -, -⟩ := hatz q hqZ
                            have HNx : Hid ((tw || (Z.take (q + 1)).any fun z => decide (z.2.1 ≠ -1)) = ((tw || (Z.take q).any fun z => decide (z.2.1 ≠ -1)) || decide (Z[q].2.1 ≠ -1))) := by
                              unfold Hid
                              rw [List.take_succ_eq_append_getElem hqZ, List.any_append]
                              simp [Bool.or_assoc]
                            obtain ⟨zz, hzz⟩ : ∃ zz, zz = Z[q].2.1 := ⟨_, rfl⟩
                            rw [← hzz] at z1 HNx
                            generalize hBB : (tw || (Z.take q).any fun z => decide (z.2.1 ≠ -1)) = bb at *
                            have hqz : (q : Int) < (nz : Int) := by omega
                            have B7 : Hid (Below w6.heap.size w6 wr) := bel7
                            clear hzz hBB hatz hgz bel7
                            cases bb with
                            | true =>
                              go_wp2
                              go_roundw
                              case rel => exact ⟨q + 1, by omega, by go_num, by rw [HNx.out]; rfl, B7.out⟩
                              case measure => simp [intOf]; omega
                            | false =>
                              by_cases hh : zz = -1
                              · subst hh
                                go_wp2
                                go_roundw
                                case rel => exact ⟨q + 1, by omega, by go_num, by rw [HNx.out]; rfl, B7.out⟩
                                case measure => simp [intOf]; omega
                              · have HT : Hid ((tw || (Z.take (q + 1)).any fun z => decide (z.2.1 ≠ -1)) = true) := by unfold Hid; rw [HNx.out, decide_eq_true hh]; rfl
                                go_wp2
                                go_roundw
                                case rel => exact ⟨q + 1, by omega, by go_num, by rw [HT.out]; first | rfl | simp [hh], B7.out⟩
                                case measure => simp [intOf]; omega
                          · obtain rfl : nz = q := by omega
                            have HSe : Hid ((tw || (Z.take nz).any fun z => decide (z.2.1 ≠ -1)) = (tw || Rf.seen Lo (r.2.2.2, r.1, r.2.1))) := by
                              unfold Hid
                              rw [List.take_of_length_le (by rw [HZn.out]; exact Nat.le_refl _), HLk.out]
                              rfl
                            rw [HSe.out]
                            have b7 : Below w4.heap.size w4 wr := on B6.out bel7
                            have HOz : Hid (OwnsQ rMp 72 wr w.heap.size (fun b => w.heap.size ≤ b) (.slice (some ⟨g9, 0, none⟩) (na + 1) c9) (Rf.outOf L (Rf.ownN r) ++ [((Rf.ownN r : Int), Lo)] ++ Rf.outFrom L (Rf.ownN r + 1) (255 - Rf.ownN r))) := HO9.out.below b7
                            obtain ⟨gx, hgx, -, -, -, hfz, -⟩ := HOz.out.cells9 (by rw [HO9l.out]; omega)
                            simp only [Option.some.injEq, Addr.mk.injEq, and_true] at hgx
                            subst hgx
                            have hfz1 := hfz (na * 2 + 1)
                            have p1 := (b7.cell (p := ⟨g9, na * 2 + 1, none⟩) HG9.out).trans HP9.out
                            have HXw : Hid (rExts.rd wr (fun b => w4.heap.size ≤ b) [.slice a5 (Ex.putL Lo (r.2.2.2, r.1, r.2.1)).length c5] (Ex.putL Lo (r.2.2.2, r.1, r.2.1))) := Rep.below HX5.out (on B56.out bel7)
                            have HSt : Hid (OwnsQ rMp 72 (wr.setCell ⟨g9, na * 2 + 1, none⟩ (.slice a5 (Ex.putL Lo (r.2.2.2, r.1, r.2.1)).length c5)) w.heap.size (fun b => w.heap.size ≤ b) (.slice (some ⟨g9, 0, none⟩) (na + 1) c9) (Rf.outOf L (Rf.ownN r) ++ [((Rf.ownN r : Int), Ex.putL Lo (r.2.2.2, r.1, r.2.1))] ++ Rf.outFrom L (Rf.ownN r + 1) (255 - Rf.ownN r))) := by
                              have h := HOz.out.setList (u := .slice a5 (Ex.putL Lo (r.2.2.2, r.1, r.2.1)).length c5) (X := Ex.putL Lo (r.2.2.2, r.1, r.2.1)) (rExts.weaken HXw.out (fun b hb _ => ⟨Nat.le_trans (HBt.out).size hb, fun e => by have := HG9.out; unfold Hid at this; omega⟩)) na (by rw [HO9l.out]; omega)
                              rw [HSet.out _] at h
                              exact h
                            have HBf : Hid (Below w.heap.size w (wr.setCell ⟨g9, na * 2 + 1, none⟩ (.slice a5 (Ex.putL Lo (r.2.2.2, r.1, r.2.1)).length c5))) := (on HBt.out b7).setCell (p := ⟨g9, na * 2 + 1, none⟩) HGb.out _
                            have HBes : Hid _ := HNext.out
                            have hm9z : (na : Int) < ((na + 1) : Int) := by omega
                            generalize hVV : (Ex.putL Lo (r.2.2.2, r.1, r.2.1)).length = nv at *
                            clear bel7 b7 hfz hVV HOz HXw
                            go_wp2
                            go_roundw
                            case rel => exact ⟨k + 1, _, _, _, _, by omega, by go_num, rfl, HBes, HSt, HBf.out⟩
                            case measure => simp [intOf]; omega
                      exact AllReadyH.nil
                    · have HSt : Hid _ := Rf.back_none HN.out (Rf.puts_stop hkl HB.out.puts (fun h => hE (HMayE.out h)))
                      have e1 := HSt.out.1
                      have e2 := HSt.out.2
                      have E1 : Hid _ := e1
                      have E2 : Hid _ := e2
                      have B9 : Hid (Below w.heap.size w w5) := on HBt.out B5.out
                      generalize hGE : Ex.putE Lo (r.2.2.2, r.1, r.2.1) = ee at *
                      clear e1 e2 hGE S1
                      go_wp2
                      go_ret2
                      exact ⟨none, 0, by rw [E1.out, E2.out]; rfl, by rw [E2.out]; exact rMps_emptyAt _ _ _ _ (fun _ => rfl), B9.out⟩
                  exact AllReadyH.nil
                · obtain ⟨ad, rfl⟩ : ∃ ad, ao = some ad := by
                    cases ao with
                    | none => have := HCo.out.2 rfl; have := HCo.out.1; omega
                    | some ad => exact ⟨ad, rfl⟩
                  obtain ⟨ge, rfl⟩ : ∃ ge, ad = ⟨ge, 0, none⟩ := by
                    obtain ⟨xs, hx, -⟩ := HOc.out
                    rcases hx.2 with ⟨ev, -⟩ | ⟨g3, cap3, cur3, ev, -⟩
                    · simp at ev
                    · simp only [Value.slice.injEq, Option.some.injEq] at ev
                      exact ⟨g3, ev.1⟩
                  obtain ⟨v1, w1, hr1, ho1, g1, -⟩ := run_append_maps (OwnsQ.nil9E wc wc.heap.size (fun b => w.heap.size ≤ b)) (rMps_front HRd.out hnaO) (fun b hb hl => ⟨hb.1, fun e => by cases e⟩) (by simp only [List.length_nil]; omega) (Nat.le_refl _) 22
                  rw [List.nil_append] at ho1
                  have b1 : Below wc.heap.size wc w1 := (Below.refl _ _).grown g1 (Nat.le_refl _) (fun k hk => by cases hk)
                  have hl1 : (O.take na).length = na := by rw [List.length_take, HNO.out]; omega
                  obtain ⟨w2, hw2, V2, b2, z2⟩ := boxedRow w1 72 [.int .i64 r.2.2.1, .slice none 0 0]
                  have hc2 : rMp.rd w2 (fun b => w.heap.size ≤ b ∧ v1.ownBlock ≠ some b) [.int .i64 r.2.2.1, .slice none 0 0] (r.2.2.1, []) := map_rd HIn.out.2.2.1 ⟨none, 0, 0, rfl, rfl, Nat.le_refl _, (fun _ => rfl), by decide, fun x hx => by cases hx⟩
                  obtain ⟨q3, d3, w3, hr3, ho3, g3, -⟩ := run_append_q (ty := 22) elem_map9D (ho1.below b2) (ad := ⟨w1.heap.size, 0, none⟩) (fun j u hj => by rw [Addr.add_lit, Nat.zero_add]; exact V2.cell hj) hc2 (by show _ * 32 ≤ _; rw [hl1]; omega) (by rw [hl1]; unfold maxLen; omega) (Nat.le_trans b1.size b2.size)
                  have b3 : Below wc.heap.size wc w3 := (on b1 b2).grown g3 (Nat.le_trans b1.size b2.size) (fun j hj => (ho1.row j hj).1)
                  have hl3 : (O.take na ++ [(r.2.2.1, [])]).length = na + 1 := by rw [List.length_append, hl1]; rfl
                  rw [hl1] at hr3 ho3
                  obtain ⟨v4, w4, hr4, ho4, g4, -⟩ := run_append_maps ho3 (show rMps.rd w3 (fun b => w.heap.size ≤ b ∧ b < wc.heap.size) [.slice (some ⟨ge, na * 2, none⟩) (nO - na) (co - na)] (O.drop na) from by have h := rMps_rest (Rep.below HRd.out b3) hnaO; rw [Nat.zero_add] at h; exact h) (fun b hb hl => ⟨hb.1, fun e => by have := (ho3.row b e).1; have := hb.2; omega⟩) (by rw [hl3]; omega) b3.size 22
                  have b4 : Below wc.heap.size wc w4 := b3.grown g4 b3.size (fun j hj => (ho3.row j hj).1)
                  have HR1 : Hid _ := hr1
                  have HR3 : Hid _ := hr3
                  have HR4 : Hid _ := hr4
                  have ho9 : OwnsQ rMp 72 w4 w.heap.size (fun b => w.heap.size ≤ b) v4 (Rf.outOf L (Rf.ownN r) ++ [((Rf.ownN r : Int), Lo)] ++ Rf.outFrom L (Rf.ownN r + 1) (255 - Rf.ownN r)) := by
                    have h := ho4.base_mono (on BO.out (on BW.out bv)).size
                    rw [show (r.2.2.1, ([] : List Ext)) = ((Rf.ownN r : Int), Lo) from by rw [HoN.out, HNe.out], HO9e.out] at h
                    exact h
                  have HO9l : Hid ((Rf.outOf L (Rf.ownN r) ++ [((Rf.ownN r : Int), Lo)] ++ Rf.outFrom L (Rf.ownN r + 1) (255 - Rf.ownN r)).length = nO + 1) := by
                    unfold Hid
                    rw [← HO9e.out]
                    simp only [List.length_append, List.length_take, List.length_drop, List.length_singleton, HNO.out]
                    omega
                  obtain ⟨q9, c9, hv4⟩ := ho9.slice
                  rw [HO9l.out] at hv4
                  have ho9' := ho9
                  rw [hv4] at ho9'
                  obtain ⟨g9, rfl, -⟩ := ho9'.cells9 (by rw [HO9l.out]; omega)
                  subst hv4
                  have HO9 : Hid (OwnsQ rMp 72 w4 w.heap.size (fun b => w.heap.size ≤ b) (.slice (some ⟨g9, 0, none⟩) (nO + 1) c9) (Rf.outOf L (Rf.ownN r) ++ [((Rf.ownN r : Int), Lo)] ++ Rf.outFrom L (Rf.ownN r + 1) (255 - Rf.ownN r))) := ho9
                  have HBt : Hid (Below w.heap.size w w4) := on BO.out (on BW.out (on bv b4))
                  have HGt : Hid (g < w4.heap.size) := Nat.lt_of_lt_of_le HG.out (on BW.out (on bv b4)).size
                  have HCt : Hid (w4.cell? ⟨g, off + k * 4, none⟩ = some (.int .i64 r.1) ∧ w4.cell? ⟨g, off + k * 4 + 1, none⟩ = some (.int .i64 r.2.1) ∧ w4.cell? ⟨g, off + k * 4 + 2, none⟩ = some (.int .i64 r.2.2.1) ∧ w4.cell? ⟨g, off + k * 4 + 3, none⟩ = some (.int .i64 r.2.2.2)) := four_cells (Nat.lt_of_lt_of_le HG.out BW.out.size) HCc.out (on bv b4)
                  have y2 := (four_cells (Nat.lt_of_lt_of_le HG.out BW.out.size) HCc.out (on bv b1)).2.2.1
                  have V2' : Hid _ := V2
                  clear hr1 hr3 hr4 ho1 ho3 ho4 ho9 ho9' g1 g3 g4 b1 b2 b3 b4 hl1 hl3 hc2 V2 z2 c2
                  have HAt9 : Hid (∀ h : na < (Rf.outOf L (Rf.ownN r) ++ [((Rf.ownN r : Int), Lo)] ++ Rf.outFrom L (Rf.ownN r + 1) (255 - Rf.ownN r)).length, (Rf.outOf L (Rf.ownN r) ++ [((Rf.ownN r : Int), Lo)] ++ Rf.outFrom L (Rf.ownN r + 1) (255 - Rf.ownN r))[na].2 = Lo) := fun h => by rw [at_around HNa.out h]
                  have HSet : Hid (∀ h : na < (Rf.outOf L (Rf.ownN r) ++ [((Rf.ownN r : Int), Lo)] ++ Rf.outFrom L (Rf.ownN r + 1) (255 - Rf.ownN r)).length, (Rf.outOf L (Rf.ownN r) ++ [((Rf.ownN r : Int), Lo)] ++ Rf.outFrom L (Rf.ownN r + 1) (255 - Rf.ownN r)).set na ((Rf.outOf L (Rf.ownN r) ++ [((Rf.ownN r : Int), Lo)] ++ Rf.outFrom L (Rf.ownN r + 1) (255 - Rf.ownN r))[na].1, Ex.putL Lo (r.2.2.2, r.1, r.2.1)) = Rf.outOf L (Rf.ownN r) ++ [((Rf.ownN r : Int), Ex.putL Lo (r.2.2.2, r.1, r.2.1))] ++ Rf.outFrom L (Rf.ownN r + 1) (255 - Rf.ownN r)) := fun h => by rw [at_around HNa.out h, set_around HNa.out]
                  obtain ⟨gx, hgx, hgb, hgl9, -, -, hat9⟩ := HO9.out.cells9 (by rw [HO9l.out]; omega)
                  simp only [Option.some.injEq, Addr.mk.injEq, and_true] at hgx
                  subst hgx
                  obtain ⟨ax, nx, cx, -, p9, hx9, -⟩ := hat9 na (by rw [HO9l.out]; omega)
                  rw [HAt9.out _] at hx9
                  have HOld : Hid (rExts.rd w4 (fun b => w.heap.size ≤ b ∧ g9 ≠ b) [.slice ax nx cx] Lo) := hx9
                  have HPut : Hid _ := refPut_u w4.drew (fun b => w.heap.size ≤ b ∧ g9 ≠ b) ax nx cx Lo (rExts.keep HOld.out (fun _ _ _ => rfl)) (r.2.2.2, r.1, r.2.1)
                  have HG9 : Hid (g9 < w4.heap.size) := hgl9
                  have HGb : Hid (w.heap.size ≤ g9) := hgb
                  have HP9 : Hid (w4.cell? ⟨g9, na * 2 + 1, none⟩ = some (.slice ax nx cx)) := p9
                  have hm9 : (na : Int) < ((nO + 1) : Int) := by omega
                  have hCt := HCt.out
                  clear hat9 hx9 hgb hgl9
                  go_upto_region 16 with (at_builtin; refine Lib.wpList_append_run _ rfl _ _ _ _ rfl _ _ rfl rfl _ _ HR1.out ?_)
                  go_upto_region 17 with (at_builtin; refine Lib.wpList_append_run _ rfl _ _ _ _ rfl _ _ rfl rfl _ _ HR3.out ?_)
                  go_upto_region 18 with (at_builtin; refine Lib.wpList_append_run _ rfl _ _ _ _ rfl _ _ rfl rfl _ _ HR4.out ?_)
                  go_wp2_with fail
                  clear HR1 HR3 HR4 y2 V2' hw2 HRd HOc HQ3 HHd HTl HHigh HLow HOut HO HCc HCC
                  clear p9
                  refine wp_region_held_drew (S := (fun w' : World => w'.cell? ⟨g, off + k * 4, none⟩ = some (.int .i64 r.1) ∧ w'.cell? ⟨g, off + k * 4 + 1, none⟩ = some (.int .i64 r.2.1) ∧ w'.cell? ⟨g, off + k * 4 + 2, none⟩ = some (.int .i64 r.2.2.1) ∧ w'.cell? ⟨g, off + k * 4 + 3, none⟩ = some (.int .i64 r.2.2.2))) (by kernel_rfl) (hCt) (fun hHeld => ?_)
                  refine wpAnyH_takeL (i := 0) (v := ?_) rfl rfl (by kernel_rfl) (by kernel_rfl) (by kernel_rfl) (fun _ _ _ h => h) (Or.inl ⟨by rfl, ?_⟩) (by assumption) ?_
                  rotate_left
                  · intro w hSw
                    try dsimp only at hSw
                    go_simp
                    all_goals with_reducible rfl
                  simp only [List.set_cons_zero, List.set_cons_succ]
                  refine wpAnyH_takeL (i := 1) (v := ?_) rfl rfl (by kernel_rfl) (by kernel_rfl) (by kernel_rfl) (fun _ _ _ h => h) (Or.inl ⟨by rfl, ?_⟩) (by assumption) ?_
                  rotate_left
                  · intro w hSw
                    try dsimp only at hSw
                    go_simp
                    all_goals with_reducible rfl
                  simp only [List.set_cons_zero, List.set_cons_succ]
                  refine wpAnyH_takeL (i := 2) (v := ?_) rfl rfl (by kernel_rfl) (by kernel_rfl) (by kernel_rfl) (fun _ _ _ h => h) (Or.inl ⟨by rfl, ?_⟩) (by assumption) ?_
                  rotate_left
                  · intro w hSw
                    try dsimp only at hSw
                    go_simp
                    all_goals with_reducible rfl
                  simp only [List.set_cons_zero, List.set_cons_succ]
                  refine wpAnyH_takeL (i := 3) (v := ?_) rfl rfl (by kernel_rfl) (by kernel_rfl) (by kernel_rfl) (fun _ _ _ h => h) (Or.inl ⟨by rfl, ?_⟩) (by assumption) ?_
                  rotate_left
                  · intro w hSw
                    try dsimp only at hSw
                    go_simp
                    all_goals with_reducible rfl
                  simp only [List.set_cons_zero, List.set_cons_succ]
                  refine wpAnyH_takeL (i := 4) (v := ?_) rfl rfl (by kernel_rfl) (by kernel_rfl) (by kernel_rfl) (fun _ _ _ h => h) (Or.inl ⟨by rfl, ?_⟩) (by assumption) ?_
                  rotate_left
                  · intro w hSw
                    try dsimp only at hSw
                    go_simp
                    all_goals with_reducible rfl
                  simp only [List.set_cons_zero, List.set_cons_succ]
                  refine wpAnyH_takeL (i := 5) (v := ?_) rfl rfl (by kernel_rfl) (by kernel_rfl) (by kernel_rfl) (fun _ _ _ h => h) (Or.inl ⟨by rfl, ?_⟩) (by assumption) ?_
                  rotate_left
                  · intro w hSw
                    try dsimp only at hSw
                    go_simp
                    all_goals with_reducible rfl
                  simp only [List.set_cons_zero, List.set_cons_succ]
                  refine wpAnyH_takeL (i := 6) (v := ?_) rfl rfl (by kernel_rfl) (by kernel_rfl) (by kernel_rfl) (fun _ _ _ h => h) (Or.inl ⟨by rfl, ?_⟩) (by assumption) ?_
                  rotate_left
                  · intro w hSw
                    try dsimp only at hSw
                    go_simp
                    all_goals with_reducible rfl
                  simp only [List.set_cons_zero, List.set_cons_succ]
                  refine wpAnyH_takeL (i := 7) (v := ?_) rfl rfl (by kernel_rfl) (by kernel_rfl) (by kernel_rfl) (fun _ _ _ h => h) (Or.inl ⟨by rfl, ?_⟩) (by assumption) ?_
                  rotate_left
                  · intro w hSw
                    try dsimp only at hSw
                    go_simp
                    all_goals with_reducible rfl
                  simp only [List.set_cons_zero, List.set_cons_succ]
                  refine wpAnyH_takeL (i := 8) (v := ?_) rfl rfl (by kernel_rfl) (by kernel_rfl) (by kernel_rfl) (fun _ _ _ h => h) (Or.inl ⟨by rfl, ?_⟩) (by assumption) ?_
                  rotate_left
                  · intro w hSw
                    try dsimp only at hSw
                    go_simp
                    all_goals with_reducible rfl
                  simp only [List.set_cons_zero, List.set_cons_succ]
                  refine wpAnyH_takeL (i := 9) (v := ?_) rfl rfl (by kernel_rfl) (by kernel_rfl) (by kernel_rfl) (fun _ _ _ h => h) (Or.inl ⟨by rfl, ?_⟩) (by assumption) ?_
                  rotate_left
                  · intro w hSw
                    try dsimp only at hSw
                    go_simp
                    all_goals with_reducible rfl
                  simp only [List.set_cons_zero, List.set_cons_succ]
                  refine wpAnyH_takeL (i := 10) (v := ?_) rfl rfl (by kernel_rfl) (by kernel_rfl) (by kernel_rfl) (fun _ _ _ h => h) (Or.inl ⟨by rfl, ?_⟩) (by assumption) ?_
                  rotate_left
                  · intro w hSw
                    try dsimp only at hSw
                    go_simp
                    all_goals with_reducible rfl
                  simp only [List.set_cons_zero, List.set_cons_succ]
                  refine wpAnyH_takeL (i := 11) (v := ?_) rfl rfl (by kernel_rfl) (by kernel_rfl) (by kernel_rfl) (fun _ _ _ h => h) (Or.inl ⟨by rfl, ?_⟩) (by assumption) ?_
                  rotate_left
                  · intro w hSw
                    try dsimp only at hSw
                    go_simp
                    all_goals with_reducible rfl
                  simp only [List.set_cons_zero, List.set_cons_succ]
                  refine wpAnyH_takeL (i := 12) (v := ?_) rfl rfl (by kernel_rfl) (by kernel_rfl) (by kernel_rfl) (fun _ _ _ h => h) (Or.inl ⟨by rfl, ?_⟩) (by assumption) ?_
                  rotate_left
                  · intro w hSw
                    try dsimp only at hSw
                    go_simp
                    all_goals with_reducible rfl
                  simp only [List.set_cons_zero, List.set_cons_succ]
                  refine wpAnyH_takeL (i := 13) (v := ?_) rfl rfl (by kernel_rfl) (by kernel_rfl) (by kernel_rfl) (fun _ _ _ h => h) (Or.inl ⟨by rfl, ?_⟩) (by assumption) ?_
                  rotate_left
                  · intro w hSw
                    try dsimp only at hSw
                    go_simp
                    all_goals with_reducible rfl
                  simp only [List.set_cons_zero, List.set_cons_succ]
                  refine wpAnyH_takeL (i := 14) (v := ?_) rfl rfl (by kernel_rfl) (by kernel_rfl) (by kernel_rfl) (fun _ _ _ h => h) (Or.inl ⟨by rfl, ?_⟩) (by assumption) ?_
                  rotate_left
                  · intro w hSw
                    try dsimp only at hSw
                    go_simp
                    all_goals with_reducible rfl
                  simp only [List.set_cons_zero, List.set_cons_succ]
                  refine wpAnyH_takeL (i := 15) (v := ?_) rfl rfl (by kernel_rfl) (by kernel_rfl) (by kernel_rfl) (fun _ _ _ h => h) (Or.inl ⟨by rfl, ?_⟩) (by assumption) ?_
                  rotate_left
                  · intro w hSw
                    try dsimp only at hSw
                    go_simp
                    all_goals with_reducible rfl
                  simp only [List.set_cons_zero, List.set_cons_succ]
                  refine wpAnyH_takeL (i := 16) (v := ?_) rfl rfl (by kernel_rfl) (by kernel_rfl) (by kernel_rfl) (fun _ _ _ h => h) (Or.inl ⟨by rfl, ?_⟩) (by assumption) ?_
                  rotate_left
                  · intro w hSw
                    try dsimp only at hSw
                    go_simp
                    all_goals with_reducible rfl
                  simp only [List.set_cons_zero, List.set_cons_succ]
                  refine wpAnyH_ready (rs := [17]) (by kernel_rfl) (by simp) ?_
                  refine AllReadyH.cons rfl (fun K hK => ?_) ?_
                  · go_simp
                    go_at_call 50
                    refine Calls.mono HPut.out ?_
                    rintro e w5 ⟨v5, rfl, ho5, bd5⟩
                    have b5 : Below w4.heap.size w4 w5 := below_drew_pre bd5
                    have HO5 : Hid (OwnE 80 w5 w4.heap.size v5 (Ex.putL Lo (r.2.2.2, r.1, r.2.1))) := ho5
                    have B5 : Hid (Below w4.heap.size w4 w5) := b5
                    have S1 := four_cells HGt.out HCt.out b5
                    clear bd5 b5 ho5
                    go_simp
                    refine hK.out _ _ ?_ (fun hHeld => ?_)
                    · try dsimp only
                      exact S1
                    clear hK K
                    refine wpAnyH_takeL (i := 18) (v := ?_) rfl rfl (by kernel_rfl) (by kernel_rfl) (by kernel_rfl) (fun _ _ _ h => h) (Or.inl ⟨by rfl, ?_⟩) (by assumption) ?_
                    rotate_left
                    · intro w hSw
                      try dsimp only at hSw
                      go_simp
                      all_goals with_reducible rfl
                    simp only [List.set_cons_zero, List.set_cons_succ]
                    refine wpAnyH_takeL (i := 19) (v := ?_) rfl rfl (by kernel_rfl) (by kernel_rfl) (by kernel_rfl) (fun _ _ _ h => h) (Or.inl ⟨by rfl, ?_⟩) (by assumption) ?_
                    rotate_left
                    · intro w hSw
                      try dsimp only at hSw
                      go_simp
                      all_goals with_reducible rfl
                    simp only [List.set_cons_zero, List.set_cons_succ]
                    refine wpAnyH_takeL (i := 20) (v := ?_) rfl rfl (by kernel_rfl) (by kernel_rfl) (by kernel_rfl) (fun _ _ _ h => h) (Or.inl ⟨by rfl, ?_⟩) (by assumption) ?_
                    rotate_left
                    · intro w hSw
                      try dsimp only at hSw
                      go_simp
                      all_goals with_reducible rfl
                    simp only [List.set_cons_zero, List.set_cons_succ]
                    refine wpAnyH_takeL (i := 21) (v := ?_) rfl rfl (by kernel_rfl) (by kernel_rfl) (by kernel_rfl) (fun _ _ _ h => h) (Or.inl ⟨by rfl, ?_⟩) (by assumption) ?_
                    rotate_left
                    · intro w hSw
                      try dsimp only at hSw
                      go_simp
                      all_goals with_reducible rfl
                    simp only [List.set_cons_zero, List.set_cons_succ]
                    refine wpAnyH_takeL (i := 22) (v := ?_) rfl rfl (by kernel_rfl) (by kernel_rfl) (by kernel_rfl) (fun _ _ _ h => h) (Or.inl ⟨by rfl, ?_⟩) (by assumption) ?_
                    rotate_left
                    · intro w hSw
                      try dsimp only at hSw
                      go_simp
                      all_goals with_reducible rfl
                    simp only [List.set_cons_zero, List.set_cons_succ]
                    refine wpAnyH_done (by kernel_rfl) ?_ _
                    clear hHeld
                    obtain ⟨a5, c5, rfl, -, -⟩ := HO5.out.slice
                    have HX5 : Hid (rExts.rd w5 (fun b => w4.heap.size ≤ b) [.slice a5 (Ex.putL Lo (r.2.2.2, r.1, r.2.1)).length c5] (Ex.putL Lo (r.2.2.2, r.1, r.2.1))) := HO5.out.rd (by have := HPf.out; omega)
                    have HC5 : Hid (w5.cell? ⟨g, off + k * 4, none⟩ = some (.int .i64 r.1) ∧ w5.cell? ⟨g, off + k * 4 + 1, none⟩ = some (.int .i64 r.2.1) ∧ w5.cell? ⟨g, off + k * 4 + 2, none⟩ = some (.int .i64 r.2.2.1) ∧ w5.cell? ⟨g, off + k * 4 + 3, none⟩ = some (.int .i64 r.2.2.2)) := S1
                    by_cases hE : Ex.putE Lo (r.2.2.2, r.1, r.2.1) = 0
                    · have HMay : Hid (Rf.MayR l[k] L) := HMayI.out hE
                      have HNext : Hid _ := HB.out.next hkl HMay.out
                      have hr : r = l[k] := HHr.out
                      rw [← hr, show Rf.extOf r = (r.2.2.2, r.1, r.2.1) from rfl, HLo.out] at HNext
                      have hz := Ex.putE_zero.1 hE
                      have HLz : Hid (Ex.lookE Lo r.2.2.2 r.2.1 = 0) := Ex.lookE_zero.2 ⟨hz.1, hz.2.1.2.1⟩
                      have HZfew : Hid ((Ex.look Lo r.2.2.2 r.2.1).length ≤ 5000) := look_few hz.1
                      rw [hE]
                      clear hr hz hE S1
                      have hC5 := HC5.out
                      have HLook : Hid _ := refLook_u w5.drew (fun b => w.heap.size ≤ b ∧ g9 ≠ b) ax nx cx Lo (rExts.keep (Rep.below HOld.out B5.out) (fun _ _ _ => rfl)) r.2.2.2 r.2.1
                      clear HPut
                      go_wp2_with fail
                      refine wp_region_held_drew (S := (fun w' : World => w'.cell? ⟨g, off + k * 4, none⟩ = some (.int .i64 r.1) ∧ w'.cell? ⟨g, off + k * 4 + 1, none⟩ = some (.int .i64 r.2.1) ∧ w'.cell? ⟨g, off + k * 4 + 2, none⟩ = some (.int .i64 r.2.2.1) ∧ w'.cell? ⟨g, off + k * 4 + 3, none⟩ = some (.int .i64 r.2.2.2))) (by kernel_rfl) (hC5) (fun hHeld => ?_)
                      refine wpAnyH_takeL (i := 0) (v := ?_) rfl rfl (by kernel_rfl) (by kernel_rfl) (by kernel_rfl) (fun _ _ _ h => h) (Or.inl ⟨by rfl, ?_⟩) (by assumption) ?_
                      rotate_left
                      · intro w hSw
                        try dsimp only at hSw
                        go_simp
                        all_goals with_reducible rfl
                      simp only [List.set_cons_zero, List.set_cons_succ]
                      refine wpAnyH_takeL (i := 1) (v := ?_) rfl rfl (by kernel_rfl) (by kernel_rfl) (by kernel_rfl) (fun _ _ _ h => h) (Or.inl ⟨by rfl, ?_⟩) (by assumption) ?_
                      rotate_left
                      · intro w hSw
                        try dsimp only at hSw
                        go_simp
                        all_goals with_reducible rfl
                      simp only [List.set_cons_zero, List.set_cons_succ]
                      refine wpAnyH_takeL (i := 2) (v := ?_) rfl rfl (by kernel_rfl) (by kernel_rfl) (by kernel_rfl) (fun _ _ _ h => h) (Or.inl ⟨by rfl, ?_⟩) (by assumption) ?_
                      rotate_left
                      · intro w hSw
                        try dsimp only at hSw
                        go_simp
                        all_goals with_reducible rfl
                      simp only [List.set_cons_zero, List.set_cons_succ]
                      refine wpAnyH_takeL (i := 3) (v := ?_) rfl rfl (by kernel_rfl) (by kernel_rfl) (by kernel_rfl) (fun _ _ _ h => h) (Or.inl ⟨by rfl, ?_⟩) (by assumption) ?_
                      rotate_left
                      · intro w hSw
                        try dsimp only at hSw
                        go_simp
                        all_goals with_reducible rfl
                      simp only [List.set_cons_zero, List.set_cons_succ]
                      refine wpAnyH_takeL (i := 4) (v := ?_) rfl rfl (by kernel_rfl) (by kernel_rfl) (by kernel_rfl) (fun _ _ _ h => h) (Or.inl ⟨by rfl, ?_⟩) (by assumption) ?_
                      rotate_left
                      · intro w hSw
                        try dsimp only at hSw
                        go_simp
                        all_goals with_reducible rfl
                      simp only [List.set_cons_zero, List.set_cons_succ]
                      refine wpAnyH_takeL (i := 5) (v := ?_) rfl rfl (by kernel_rfl) (by kernel_rfl) (by kernel_rfl) (fun _ _ _ h => h) (Or.inl ⟨by rfl, ?_⟩) (by assumption) ?_
                      rotate_left
                      · intro w hSw
                        try dsimp only at hSw
                        go_simp
                        all_goals with_reducible rfl
                      simp only [List.set_cons_zero, List.set_cons_succ]
                      refine wpAnyH_takeL (i := 6) (v := ?_) rfl rfl (by kernel_rfl) (by kernel_rfl) (by kernel_rfl) (fun _ _ _ h => h) (Or.inl ⟨by rfl, ?_⟩) (by assumption) ?_
                      rotate_left
                      · intro w hSw
                        try dsimp only at hSw
                        go_simp
                        all_goals with_reducible rfl
                      simp only [List.set_cons_zero, List.set_cons_succ]
                      refine wpAnyH_takeL (i := 7) (v := ?_) rfl rfl (by kernel_rfl) (by kernel_rfl) (by kernel_rfl) (fun _ _ _ h => h) (Or.inl ⟨by rfl, ?_⟩) (by assumption) ?_
                      rotate_left
                      · intro w hSw
                        try dsimp only at hSw
                        go_simp
                        all_goals with_reducible rfl
                      simp only [List.set_cons_zero, List.set_cons_succ]
                      refine wpAnyH_takeL (i := 8) (v := ?_) rfl rfl (by kernel_rfl) (by kernel_rfl) (by kernel_rfl) (fun _ _ _ h => h) (Or.inl ⟨by rfl, ?_⟩) (by assumption) ?_
                      rotate_left
                      · intro w hSw
                        try dsimp only at hSw
                        go_simp
                        all_goals with_reducible rfl
                      simp only [List.set_cons_zero, List.set_cons_succ]
                      refine wpAnyH_takeL (i := 9) (v := ?_) rfl rfl (by kernel_rfl) (by kernel_rfl) (by kernel_rfl) (fun _ _ _ h => h) (Or.inl ⟨by rfl, ?_⟩) (by assumption) ?_
                      rotate_left
                      · intro w hSw
                        try dsimp only at hSw
                        go_simp
                        all_goals with_reducible rfl
                      simp only [List.set_cons_zero, List.set_cons_succ]
                      refine wpAnyH_takeL (i := 10) (v := ?_) rfl rfl (by kernel_rfl) (by kernel_rfl) (by kernel_rfl) (fun _ _ _ h => h) (Or.inl ⟨by rfl, ?_⟩) (by assumption) ?_
                      rotate_left
                      · intro w hSw
                        try dsimp only at hSw
                        go_simp
                        all_goals with_reducible rfl
                      simp only [List.set_cons_zero, List.set_cons_succ]
                      refine wpAnyH_ready (rs := [11]) (by kernel_rfl) (by simp) ?_
                      refine AllReadyH.cons rfl (fun K hK => ?_) ?_
                      · go_simp
                        go_at_call 51
                        refine Calls.mono HLook.out ?_
                        rintro e w6 ⟨v6, rfl, ho6, bd6⟩
                        have b6 : Below w5.heap.size w5 w6 := below_drew_pre bd6
                        have HO6 : Hid (OwnE 80 w6 w5.heap.size v6 (Ex.lookL Lo r.2.2.2 r.2.1)) := ho6
                        have B6 : Hid (Below w4.heap.size w4 w6) := on B5.out b6
                        have B56 : Hid (Below w5.heap.size w5 w6) := b6
                        have S2 := four_cells (Nat.lt_of_lt_of_le HGt.out B5.out.size) HC5.out b6
                        clear bd6 b6 ho6
                        go_simp
                        refine hK.out _ _ ?_ (fun hHeld => ?_)
                        · try dsimp only
                          exact S2
                        clear hK K
                        refine wpAnyH_takeL (i := 12) (v := ?_) rfl rfl (by kernel_rfl) (by kernel_rfl) (by kernel_rfl) (fun _ _ _ h => h) (Or.inl ⟨by rfl, ?_⟩) (by assumption) ?_
                        rotate_left
                        · intro w hSw
                          try dsimp only at hSw
                          go_simp
                          all_goals with_reducible rfl
                        simp only [List.set_cons_zero, List.set_cons_succ]
                        refine wpAnyH_takeL (i := 13) (v := ?_) rfl rfl (by kernel_rfl) (by kernel_rfl) (by kernel_rfl) (fun _ _ _ h => h) (Or.inl ⟨by rfl, ?_⟩) (by assumption) ?_
                        rotate_left
                        · intro w hSw
                          try dsimp only at hSw
                          go_simp
                          all_goals with_reducible rfl
                        simp only [List.set_cons_zero, List.set_cons_succ]
                        refine wpAnyH_takeL (i := 14) (v := ?_) rfl rfl (by kernel_rfl) (by kernel_rfl) (by kernel_rfl) (fun _ _ _ h => h) (Or.inl ⟨by rfl, ?_⟩) (by assumption) ?_
                        rotate_left
                        · intro w hSw
                          try dsimp only at hSw
                          go_simp
                          all_goals with_reducible rfl
                        simp only [List.set_cons_zero, List.set_cons_succ]
                        refine wpAnyH_takeL (i := 15) (v := ?_) rfl rfl (by kernel_rfl) (by kernel_rfl) (by kernel_rfl) (fun _ _ _ h => h) (Or.inl ⟨by rfl, ?_⟩) (by assumption) ?_
                        rotate_left
                        · intro w hSw
                          try dsimp only at hSw
                          go_simp
                          all_goals with_reducible rfl
                        simp only [List.set_cons_zero, List.set_cons_succ]
                        refine wpAnyH_takeL (i := 16) (v := ?_) rfl rfl (by kernel_rfl) (by kernel_rfl) (by kernel_rfl) (fun _ _ _ h => h) (Or.inl ⟨by rfl, ?_⟩) (by assumption) ?_
                        rotate_left
                        · intro w hSw
                          try dsimp only at hSw
                          go_simp
                          all_goals with_reducible rfl
                        simp only [List.set_cons_zero, List.set_cons_succ]
                        refine wpAnyH_done (by kernel_rfl) ?_ _
                        have HC6 : Hid (w6.cell? ⟨g, off + k * 4, none⟩ = some (.int .i64 r.1) ∧ w6.cell? ⟨g, off + k * 4 + 1, none⟩ = some (.int .i64 r.2.1) ∧ w6.cell? ⟨g, off + k * 4 + 2, none⟩ = some (.int .i64 r.2.2.1) ∧ w6.cell? ⟨g, off + k * 4 + 3, none⟩ = some (.int .i64 r.2.2.2)) := S2
                        clear S2
                        clear hHeld
                        obtain ⟨a6, c6, rfl, -, -⟩ := HO6.out.slice
                        have HLk : Hid (Ex.lookL Lo r.2.2.2 r.2.1 = Ex.look Lo r.2.2.2 r.2.1) := if_pos HLz.out
                        obtain ⟨Z, hZ⟩ : ∃ Z, Z = Ex.lookL Lo r.2.2.2 r.2.1 := ⟨_, rfl⟩
                        rw [← hZ] at HO6 HLk ⊢
                        obtain ⟨nz, hnz⟩ : ∃ nz, nz = Z.length := ⟨_, rfl⟩
                        have HZn : Hid (Z.length = nz) := hnz.symm
                        rw [← hnz]
                        have HZ6 : Hid (rExts.rd w6 (fun b => w5.heap.size ≤ b) [.slice a6 nz c6] Z) := by
                          have h := HO6.out
                          rw [← hnz] at h
                          exact h.rd (by rw [HZn.out]; have := HZfew.out; rw [← HLk.out, HZn.out] at this; omega)
                        have hnz3 : nz ≤ 5000 := by have := HZfew.out; rw [← HLk.out, HZn.out] at this; omega
                        clear hZ hnz HO6
                        have hSC := HC6.out
                        go_wp2
                        go_loopw [5, 14] (fun tb i wr => ∃ q : Nat, q ≤ nz ∧ i = .int .i64 q ∧ tb = .bool (tw || (Z.take q).any fun z => decide (z.2.1 ≠ -1)) ∧ Below w6.heap.size w6 wr) (fun _ i _ => nz - (intOf i).toNat)
                        case atStart => exact ⟨0, Nat.zero_le _, rfl, by simp, Below.refl _ _⟩
                        case round =>
                          obtain ⟨q, hq, rfl, rfl, bel7⟩ := hrel
                          by_cases hqn : q < nz
                          · have hqZ : q < Z.length := by rw [HZn.out]; exact hqn
                            obtain ⟨gz, oz, rfl, -, hgz, hatz⟩ := rExts_at (Rep.below HZ6.out bel7) (by omega)
                            obtain ⟨-, z1, -, -⟩ := hatz q hqZ
                            have HNx : Hid ((tw || (Z.take (q + 1)).any fun z => decide (z.2.1 ≠ -1)) = ((tw || (Z.take q).any fun z => decide (z.2.1 ≠ -1)) || decide (Z[q].2.1 ≠ -1))) := by
                              unfold Hid
                              rw [List.take_succ_eq_append_getElem hqZ, List.any_append]
                              simp [Bool.or_assoc]
                            obtain ⟨zz, hzz⟩ : ∃ zz, zz = Z[q].2.1 := ⟨_, rfl⟩
                            rw [← hzz] at z1 HNx
                            generalize hBB : (tw || (Z.take q).any fun z => decide (z.2.1 ≠ -1)) = bb at *
                            have hqz : (q : Int) < (nz : Int) := by omega
                            have B7 : Hid (Below w6.heap.size w6 wr) := bel7
                            clear hzz hBB hatz hgz bel7
                            cases bb with
                            | true =>
                              go_wp2
                              go_roundw
                              case rel => exact ⟨q + 1, by omega, by go_num, by rw [HNx.out]; rfl, B7.out⟩
                              case measure => simp [intOf]; omega
                            | false =>
                              by_cases hh : zz = -1
                              · subst hh
                                go_wp2
                                go_roundw
                                case rel => exact ⟨q + 1, by omega, by go_num, by rw [HNx.out]; rfl, B7.out⟩
                                case measure => simp [intOf]; omega
                              · have HT : Hid ((tw || (Z.take (q + 1)).any fun z => decide (z.2.1 ≠ -1)) = true) := by unfold Hid; rw [HNx.out, decide_eq_true hh]; rfl
                                go_wp2
                                go_roundw
                                case rel => exact ⟨q + 1, by omega, by go_num, by rw [HT.out]; first | rfl | simp [hh], B7.out⟩
                                case measure => simp [intOf]; omega
                          · obtain rfl : nz = q := by omega
                            have HSe : Hid ((tw || (Z.take nz).any fun z => decide (z.2.1 ≠ -1)) = (tw || Rf.seen Lo (r.2.2.2, r.1, r.2.1))) := by
                              unfold Hid
                              rw [List.take_of_length_le (by rw [HZn.out]; exact Nat.le_refl _), HLk.out]
                              rfl
                            rw [HSe.out]
                            have b7 : Below w4.heap.size w4 wr := on B6.out bel7
                            have HOz : Hid (OwnsQ rMp 72 wr w.heap.size (fun b => w.heap.size ≤ b) (.slice (some ⟨g9, 0, none⟩) (nO + 1) c9) (Rf.outOf L (Rf.ownN r) ++ [((Rf.ownN r : Int), Lo)] ++ Rf.outFrom L (Rf.ownN r + 1) (255 - Rf.ownN r))) := HO9.out.below b7
                            obtain ⟨gx, hgx, -, -, -, hfz, -⟩ := HOz.out.cells9 (by rw [HO9l.out]; omega)
                            simp only [Option.some.injEq, Addr.mk.injEq, and_true] at hgx
                            subst hgx
                            have hfz1 := hfz (na * 2 + 1)
                            have p1 := (b7.cell (p := ⟨g9, na * 2 + 1, none⟩) HG9.out).trans HP9.out
                            have HXw : Hid (rExts.rd wr (fun b => w4.heap.size ≤ b) [.slice a5 (Ex.putL Lo (r.2.2.2, r.1, r.2.1)).length c5] (Ex.putL Lo (r.2.2.2, r.1, r.2.1))) := Rep.below HX5.out (on B56.out bel7)
                            have HSt : Hid (OwnsQ rMp 72 (wr.setCell ⟨g9, na * 2 + 1, none⟩ (.slice a5 (Ex.putL Lo (r.2.2.2, r.1, r.2.1)).length c5)) w.heap.size (fun b => w.heap.size ≤ b) (.slice (some ⟨g9, 0, none⟩) (nO + 1) c9) (Rf.outOf L (Rf.ownN r) ++ [((Rf.ownN r : Int), Ex.putL Lo (r.2.2.2, r.1, r.2.1))] ++ Rf.outFrom L (Rf.ownN r + 1) (255 - Rf.ownN r))) := by
                              have h := HOz.out.setList (u := .slice a5 (Ex.putL Lo (r.2.2.2, r.1, r.2.1)).length c5) (X := Ex.putL Lo (r.2.2.2, r.1, r.2.1)) (rExts.weaken HXw.out (fun b hb _ => ⟨Nat.le_trans (HBt.out).size hb, fun e => by have := HG9.out; unfold Hid at this; omega⟩)) na (by rw [HO9l.out]; omega)
                              rw [HSet.out _] at h
                              exact h
                            have HBf : Hid (Below w.heap.size w (wr.setCell ⟨g9, na * 2 + 1, none⟩ (.slice a5 (Ex.putL Lo (r.2.2.2, r.1, r.2.1)).length c5))) := (on HBt.out b7).setCell (p := ⟨g9, na * 2 + 1, none⟩) HGb.out _
                            have HBes : Hid _ := HNext.out
                            have hm9z : (na : Int) < ((nO + 1) : Int) := by omega
                            generalize hVV : (Ex.putL Lo (r.2.2.2, r.1, r.2.1)).length = nv at *
                            clear bel7 b7 hfz hVV HOz HXw
                            go_wp2
                            go_roundw
                            case rel => exact ⟨k + 1, _, _, _, _, by omega, by go_num, rfl, HBes, HSt, HBf.out⟩
                            case measure => simp [intOf]; omega
                      exact AllReadyH.nil
                    · have HSt : Hid _ := Rf.back_none HN.out (Rf.puts_stop hkl HB.out.puts (fun h => hE (HMayE.out h)))
                      have e1 := HSt.out.1
                      have e2 := HSt.out.2
                      have E1 : Hid _ := e1
                      have E2 : Hid _ := e2
                      have B9 : Hid (Below w.heap.size w w5) := on HBt.out B5.out
                      generalize hGE : Ex.putE Lo (r.2.2.2, r.1, r.2.1) = ee at *
                      clear e1 e2 hGE S1
                      go_wp2
                      go_ret2
                      exact ⟨none, 0, by rw [E1.out, E2.out]; rfl, by rw [E2.out]; exact rMps_emptyAt _ _ _ _ (fun _ => rfl), B9.out⟩
                  exact AllReadyH.nil
            · have HOne1 : Hid (Rf.outOne L (Rf.ownN r) = [((Rf.ownN r : Int), Lo)]) := by unfold Hid; rw [HOne.out, if_neg hne]
              have hO9 : O = Rf.outOf L (Rf.ownN r) ++ [((Rf.ownN r : Int), Lo)] ++ Rf.outFrom L (Rf.ownN r + 1) (255 - Rf.ownN r) := by have h := HOut.out; unfold Hid at h; rw [HOne1.out] at h; exact h
              have hnn : na < nO := by
                rw [← HNO.out, hO9, ← HNa.out]
                simp only [List.length_append, List.length_singleton]
                omega
              obtain ⟨g9, rfl, -, -, -, -, hat9⟩ := HOc.out.cells9 (by rw [HNO.out]; omega)
              have hqO' : na < O.length := by rw [HNO.out]; exact hnn
              obtain ⟨-, -, -, p0, -, -, -⟩ := hat9 na hqO'
              have hXX : O[na].1 = r.2.2.1 := by
                subst hO9
                rw [at_around HNa.out hqO']
                exact HoN.out
              rw [hXX] at p0
              have d1 : decide ((na : Int) = (nO : Int)) = false := decide_eq_false (by omega)
              have d1' : ((na : Int) == (nO : Int)) = false := beq_eq_false_iff_ne.2 (by omega)
              have hqz : (na : Int) < (nO : Int) := by omega
              have d4 : (r.2.2.1 != r.2.2.1) = false := by simp [bne]
              have HO9' : Hid (O = Rf.outOf L (Rf.ownN r) ++ [((Rf.ownN r : Int), Lo)] ++ Rf.outFrom L (Rf.ownN r + 1) (255 - Rf.ownN r)) := hO9
              clear hat9 hO9 hXX
              go_wp2_with fail
              go_quiet (fail)
              clear p0 c2 d4
              have HO9 : Hid (OwnsQ rMp 72 (wb.drewN nq) w.heap.size (fun b => w.heap.size ≤ b) (.slice (some ⟨g9, 0, none⟩) nO co) (Rf.outOf L (Rf.ownN r) ++ [((Rf.ownN r : Int), Lo)] ++ Rf.outFrom L (Rf.ownN r + 1) (255 - Rf.ownN r))) := by rw [← HO9'.out]; exact HOc.out.keep (fun _ _ => rfl)
              have HO9l : Hid ((Rf.outOf L (Rf.ownN r) ++ [((Rf.ownN r : Int), Lo)] ++ Rf.outFrom L (Rf.ownN r + 1) (255 - Rf.ownN r)).length = nO) := by rw [← HO9'.out]; exact HNO.out
              have HBt : Hid (Below w.heap.size w (wb.drewN nq)) := same_drewN (on BO.out BW.out) nq
              have HGt : Hid (g < (wb.drewN nq).heap.size) := Nat.lt_of_lt_of_le HG.out BW.out.size
              have HCt : Hid ((wb.drewN nq).cell? ⟨g, off + k * 4, none⟩ = some (.int .i64 r.1) ∧ (wb.drewN nq).cell? ⟨g, off + k * 4 + 1, none⟩ = some (.int .i64 r.2.1) ∧ (wb.drewN nq).cell? ⟨g, off + k * 4 + 2, none⟩ = some (.int .i64 r.2.2.1) ∧ (wb.drewN nq).cell? ⟨g, off + k * 4 + 3, none⟩ = some (.int .i64 r.2.2.2)) := HCc.out
              have HAt9 : Hid (∀ h : na < (Rf.outOf L (Rf.ownN r) ++ [((Rf.ownN r : Int), Lo)] ++ Rf.outFrom L (Rf.ownN r + 1) (255 - Rf.ownN r)).length, (Rf.outOf L (Rf.ownN r) ++ [((Rf.ownN r : Int), Lo)] ++ Rf.outFrom L (Rf.ownN r + 1) (255 - Rf.ownN r))[na].2 = Lo) := fun h => by rw [at_around HNa.out h]
              have HSet : Hid (∀ h : na < (Rf.outOf L (Rf.ownN r) ++ [((Rf.ownN r : Int), Lo)] ++ Rf.outFrom L (Rf.ownN r + 1) (255 - Rf.ownN r)).length, (Rf.outOf L (Rf.ownN r) ++ [((Rf.ownN r : Int), Lo)] ++ Rf.outFrom L (Rf.ownN r + 1) (255 - Rf.ownN r)).set na ((Rf.outOf L (Rf.ownN r) ++ [((Rf.ownN r : Int), Lo)] ++ Rf.outFrom L (Rf.ownN r + 1) (255 - Rf.ownN r))[na].1, Ex.putL Lo (r.2.2.2, r.1, r.2.1)) = Rf.outOf L (Rf.ownN r) ++ [((Rf.ownN r : Int), Ex.putL Lo (r.2.2.2, r.1, r.2.1))] ++ Rf.outFrom L (Rf.ownN r + 1) (255 - Rf.ownN r)) := fun h => by rw [at_around HNa.out h, set_around HNa.out]
              generalize wb.drewN nq = wt at *
              obtain ⟨gx, hgx, hgb, hgl9, -, -, hat9⟩ := HO9.out.cells9 (by rw [HO9l.out]; omega)
              simp only [Option.some.injEq, Addr.mk.injEq, and_true] at hgx
              subst hgx
              obtain ⟨ax, nx, cx, -, p9, hx9, -⟩ := hat9 na (by rw [HO9l.out]; omega)
              rw [HAt9.out _] at hx9
              have HOld : Hid (rExts.rd wt (fun b => w.heap.size ≤ b ∧ g9 ≠ b) [.slice ax nx cx] Lo) := hx9
              have HPut : Hid _ := refPut_u wt.drew (fun b => w.heap.size ≤ b ∧ g9 ≠ b) ax nx cx Lo (rExts.keep HOld.out (fun _ _ _ => rfl)) (r.2.2.2, r.1, r.2.1)
              have HG9 : Hid (g9 < wt.heap.size) := hgl9
              have HGb : Hid (w.heap.size ≤ g9) := hgb
              have HP9 : Hid (wt.cell? ⟨g9, na * 2 + 1, none⟩ = some (.slice ax nx cx)) := p9
              have hm9 : (na : Int) < (nO : Int) := by omega
              have hCt := HCt.out
              clear hat9 hx9 hgb hgl9
              go_wp2_with fail
              clear p9
              refine wp_region_held_drew (S := (fun w' : World => w'.cell? ⟨g, off + k * 4, none⟩ = some (.int .i64 r.1) ∧ w'.cell? ⟨g, off + k * 4 + 1, none⟩ = some (.int .i64 r.2.1) ∧ w'.cell? ⟨g, off + k * 4 + 2, none⟩ = some (.int .i64 r.2.2.1) ∧ w'.cell? ⟨g, off + k * 4 + 3, none⟩ = some (.int .i64 r.2.2.2))) (by kernel_rfl) (hCt) (fun hHeld => ?_)
              refine wpAnyH_takeL (i := 0) (v := ?_) rfl rfl (by kernel_rfl) (by kernel_rfl) (by kernel_rfl) (fun _ _ _ h => h) (Or.inl ⟨by rfl, ?_⟩) (by assumption) ?_
              rotate_left
              · intro w hSw
                try dsimp only at hSw
                go_simp
                all_goals with_reducible rfl
              simp only [List.set_cons_zero, List.set_cons_succ]
              refine wpAnyH_takeL (i := 1) (v := ?_) rfl rfl (by kernel_rfl) (by kernel_rfl) (by kernel_rfl) (fun _ _ _ h => h) (Or.inl ⟨by rfl, ?_⟩) (by assumption) ?_
              rotate_left
              · intro w hSw
                try dsimp only at hSw
                go_simp
                all_goals with_reducible rfl
              simp only [List.set_cons_zero, List.set_cons_succ]
              refine wpAnyH_takeL (i := 2) (v := ?_) rfl rfl (by kernel_rfl) (by kernel_rfl) (by kernel_rfl) (fun _ _ _ h => h) (Or.inl ⟨by rfl, ?_⟩) (by assumption) ?_
              rotate_left
              · intro w hSw
                try dsimp only at hSw
                go_simp
                all_goals with_reducible rfl
              simp only [List.set_cons_zero, List.set_cons_succ]
              refine wpAnyH_takeL (i := 3) (v := ?_) rfl rfl (by kernel_rfl) (by kernel_rfl) (by kernel_rfl) (fun _ _ _ h => h) (Or.inl ⟨by rfl, ?_⟩) (by assumption) ?_
              rotate_left
              · intro w hSw
                try dsimp only at hSw
                go_simp
                all_goals with_reducible rfl
              simp only [List.set_cons_zero, List.set_cons_succ]
              refine wpAnyH_takeL (i := 4) (v := ?_) rfl rfl (by kernel_rfl) (by kernel_rfl) (by kernel_rfl) (fun _ _ _ h => h) (Or.inl ⟨by rfl, ?_⟩) (by assumption) ?_
              rotate_left
              · intro w hSw
                try dsimp only at hSw
                go_simp
                all_goals with_reducible rfl
              simp only [List.set_cons_zero, List.set_cons_succ]
              refine wpAnyH_takeL (i := 5) (v := ?_) rfl rfl (by kernel_rfl) (by kernel_rfl) (by kernel_rfl) (fun _ _ _ h => h) (Or.inl ⟨by rfl, ?_⟩) (by assumption) ?_
              rotate_left
              · intro w hSw
                try dsimp only at hSw
                go_simp
                all_goals with_reducible rfl
              simp only [List.set_cons_zero, List.set_cons_succ]
              refine wpAnyH_takeL (i := 6) (v := ?_) rfl rfl (by kernel_rfl) (by kernel_rfl) (by kernel_rfl) (fun _ _ _ h => h) (Or.inl ⟨by rfl, ?_⟩) (by assumption) ?_
              rotate_left
              · intro w hSw
                try dsimp only at hSw
                go_simp
                all_goals with_reducible rfl
              simp only [List.set_cons_zero, List.set_cons_succ]
              refine wpAnyH_takeL (i := 7) (v := ?_) rfl rfl (by kernel_rfl) (by kernel_rfl) (by kernel_rfl) (fun _ _ _ h => h) (Or.inl ⟨by rfl, ?_⟩) (by assumption) ?_
              rotate_left
              · intro w hSw
                try dsimp only at hSw
                go_simp
                all_goals with_reducible rfl
              simp only [List.set_cons_zero, List.set_cons_succ]
              refine wpAnyH_takeL (i := 8) (v := ?_) rfl rfl (by kernel_rfl) (by kernel_rfl) (by kernel_rfl) (fun _ _ _ h => h) (Or.inl ⟨by rfl, ?_⟩) (by assumption) ?_
              rotate_left
              · intro w hSw
                try dsimp only at hSw
                go_simp
                all_goals with_reducible rfl
              simp only [List.set_cons_zero, List.set_cons_succ]
              refine wpAnyH_takeL (i := 9) (v := ?_) rfl rfl (by kernel_rfl) (by kernel_rfl) (by kernel_rfl) (fun _ _ _ h => h) (Or.inl ⟨by rfl, ?_⟩) (by assumption) ?_
              rotate_left
              · intro w hSw
                try dsimp only at hSw
                go_simp
                all_goals with_reducible rfl
              simp only [List.set_cons_zero, List.set_cons_succ]
              refine wpAnyH_takeL (i := 10) (v := ?_) rfl rfl (by kernel_rfl) (by kernel_rfl) (by kernel_rfl) (fun _ _ _ h => h) (Or.inl ⟨by rfl, ?_⟩) (by assumption) ?_
              rotate_left
              · intro w hSw
                try dsimp only at hSw
                go_simp
                all_goals with_reducible rfl
              simp only [List.set_cons_zero, List.set_cons_succ]
              refine wpAnyH_takeL (i := 11) (v := ?_) rfl rfl (by kernel_rfl) (by kernel_rfl) (by kernel_rfl) (fun _ _ _ h => h) (Or.inl ⟨by rfl, ?_⟩) (by assumption) ?_
              rotate_left
              · intro w hSw
                try dsimp only at hSw
                go_simp
                all_goals with_reducible rfl
              simp only [List.set_cons_zero, List.set_cons_succ]
              refine wpAnyH_takeL (i := 12) (v := ?_) rfl rfl (by kernel_rfl) (by kernel_rfl) (by kernel_rfl) (fun _ _ _ h => h) (Or.inl ⟨by rfl, ?_⟩) (by assumption) ?_
              rotate_left
              · intro w hSw
                try dsimp only at hSw
                go_simp
                all_goals with_reducible rfl
              simp only [List.set_cons_zero, List.set_cons_succ]
              refine wpAnyH_takeL (i := 13) (v := ?_) rfl rfl (by kernel_rfl) (by kernel_rfl) (by kernel_rfl) (fun _ _ _ h => h) (Or.inl ⟨by rfl, ?_⟩) (by assumption) ?_
              rotate_left
              · intro w hSw
                try dsimp only at hSw
                go_simp
                all_goals with_reducible rfl
              simp only [List.set_cons_zero, List.set_cons_succ]
              refine wpAnyH_takeL (i := 14) (v := ?_) rfl rfl (by kernel_rfl) (by kernel_rfl) (by kernel_rfl) (fun _ _ _ h => h) (Or.inl ⟨by rfl, ?_⟩) (by assumption) ?_
              rotate_left
              · intro w hSw
                try dsimp only at hSw
                go_simp
                all_goals with_reducible rfl
              simp only [List.set_cons_zero, List.set_cons_succ]
              refine wpAnyH_takeL (i := 15) (v := ?_) rfl rfl (by kernel_rfl) (by kernel_rfl) (by kernel_rfl) (fun _ _ _ h => h) (Or.inl ⟨by rfl, ?_⟩) (by assumption) ?_
              rotate_left
              · intro w hSw
                try dsimp only at hSw
                go_simp
                all_goals with_reducible rfl
              simp only [List.set_cons_zero, List.set_cons_succ]
              refine wpAnyH_takeL (i := 16) (v := ?_) rfl rfl (by kernel_rfl) (by kernel_rfl) (by kernel_rfl) (fun _ _ _ h => h) (Or.inl ⟨by rfl, ?_⟩) (by assumption) ?_
              rotate_left
              · intro w hSw
                try dsimp only at hSw
                go_simp
                all_goals with_reducible rfl
              simp only [List.set_cons_zero, List.set_cons_succ]
              refine wpAnyH_ready (rs := [17]) (by kernel_rfl) (by simp) ?_
              refine AllReadyH.cons rfl (fun K hK => ?_) ?_
              · go_simp
                go_at_call 50
                refine Calls.mono HPut.out ?_
                rintro e w5 ⟨v5, rfl, ho5, bd5⟩
                have b5 : Below wt.heap.size wt w5 := below_drew_pre bd5
                have HO5 : Hid (OwnE 80 w5 wt.heap.size v5 (Ex.putL Lo (r.2.2.2, r.1, r.2.1))) := ho5
                have B5 : Hid (Below wt.heap.size wt w5) := b5
                have S1 := four_cells HGt.out HCt.out b5
                clear bd5 b5 ho5
                go_simp
                refine hK.out _ _ ?_ (fun hHeld => ?_)
                · try dsimp only
                  exact S1
                clear hK K
                refine wpAnyH_takeL (i := 18) (v := ?_) rfl rfl (by kernel_rfl) (by kernel_rfl) (by kernel_rfl) (fun _ _ _ h => h) (Or.inl ⟨by rfl, ?_⟩) (by assumption) ?_
                rotate_left
                · intro w hSw
                  try dsimp only at hSw
                  go_simp
                  all_goals with_reducible rfl
                simp only [List.set_cons_zero, List.set_cons_succ]
                refine wpAnyH_takeL (i := 19) (v := ?_) rfl rfl (by kernel_rfl) (by kernel_rfl) (by kernel_rfl) (fun _ _ _ h => h) (Or.inl ⟨by rfl, ?_⟩) (by assumption) ?_
                rotate_left
                · intro w hSw
                  try dsimp only at hSw
                  go_simp
                  all_goals with_reducible rfl
                simp only [List.set_cons_zero, List.set_cons_succ]
                refine wpAnyH_takeL (i := 20) (v := ?_) rfl rfl (by kernel_rfl) (by kernel_rfl) (by kernel_rfl) (fun _ _ _ h => h) (Or.inl ⟨by rfl, ?_⟩) (by assumption) ?_
                rotate_left
                · intro w hSw
                  try dsimp only at hSw
                  go_simp
                  all_goals with_reducible rfl
                simp only [List.set_cons_zero, List.set_cons_succ]
                refine wpAnyH_takeL (i := 21) (v := ?_) rfl rfl (by kernel_rfl) (by kernel_rfl) (by kernel_rfl) (fun _ _ _ h => h) (Or.inl ⟨by rfl, ?_⟩) (by assumption) ?_
                rotate_left
                · intro w hSw
                  try dsimp only at hSw
                  go_simp
                  all_goals with_reducible rfl
                simp only [List.set_cons_zero, List.set_cons_succ]
                refine wpAnyH_takeL (i := 22) (v := ?_) rfl rfl (by kernel_rfl) (by kernel_rfl) (by kernel_rfl) (fun _ _ _ h => h) (Or.inl ⟨by rfl, ?_⟩) (by assumption) ?_
                rotate_left
                · intro w hSw
                  try dsimp only at hSw
                  go_simp
                  all_goals with_reducible rfl
                simp only [List.set_cons_zero, List.set_cons_succ]
                refine wpAnyH_done (by kernel_rfl) ?_ _
                clear hHeld
                obtain ⟨a5, c5, rfl, -, -⟩ := HO5.out.slice
                have HX5 : Hid (rExts.rd w5 (fun b => wt.heap.size ≤ b) [.slice a5 (Ex.putL Lo (r.2.2.2, r.1, r.2.1)).length c5] (Ex.putL Lo (r.2.2.2, r.1, r.2.1))) := HO5.out.rd (by have := HPf.out; omega)
                have HC5 : Hid (w5.cell? ⟨g, off + k * 4, none⟩ = some (.int .i64 r.1) ∧ w5.cell? ⟨g, off + k * 4 + 1, none⟩ = some (.int .i64 r.2.1) ∧ w5.cell? ⟨g, off + k * 4 + 2, none⟩ = some (.int .i64 r.2.2.1) ∧ w5.cell? ⟨g, off + k * 4 + 3, none⟩ = some (.int .i64 r.2.2.2)) := S1
                by_cases hE : Ex.putE Lo (r.2.2.2, r.1, r.2.1) = 0
                · have HMay : Hid (Rf.MayR l[k] L) := HMayI.out hE
                  have HNext : Hid _ := HB.out.next hkl HMay.out
                  have hr : r = l[k] := HHr.out
                  rw [← hr, show Rf.extOf r = (r.2.2.2, r.1, r.2.1) from rfl, HLo.out] at HNext
                  have hz := Ex.putE_zero.1 hE
                  have HLz : Hid (Ex.lookE Lo r.2.2.2 r.2.1 = 0) := Ex.lookE_zero.2 ⟨hz.1, hz.2.1.2.1⟩
                  have HZfew : Hid ((Ex.look Lo r.2.2.2 r.2.1).length ≤ 5000) := look_few hz.1
                  rw [hE]
                  clear hr hz hE S1
                  have hC5 := HC5.out
                  have HLook : Hid _ := refLook_u w5.drew (fun b => w.heap.size ≤ b ∧ g9 ≠ b) ax nx cx Lo (rExts.keep (Rep.below HOld.out B5.out) (fun _ _ _ => rfl)) r.2.2.2 r.2.1
                  clear HPut
                  go_wp2_with fail
                  refine wp_region_held_drew (S := (fun w' : World => w'.cell? ⟨g, off + k * 4, none⟩ = some (.int .i64 r.1) ∧ w'.cell? ⟨g, off + k * 4 + 1, none⟩ = some (.int .i64 r.2.1) ∧ w'.cell? ⟨g, off + k * 4 + 2, none⟩ = some (.int .i64 r.2.2.1) ∧ w'.cell? ⟨g, off + k * 4 + 3, none⟩ = some (.int .i64 r.2.2.2))) (by kernel_rfl) (hC5) (fun hHeld => ?_)
                  refine wpAnyH_takeL (i := 0) (v := ?_) rfl rfl (by kernel_rfl) (by kernel_rfl) (by kernel_rfl) (fun _ _ _ h => h) (Or.inl ⟨by rfl, ?_⟩) (by assumption) ?_
                  rotate_left
                  · intro w hSw
                    try dsimp only at hSw
                    go_simp
                    all_goals with_reducible rfl
                  simp only [List.set_cons_zero, List.set_cons_succ]
                  refine wpAnyH_takeL (i := 1) (v := ?_) rfl rfl (by kernel_rfl) (by kernel_rfl) (by kernel_rfl) (fun _ _ _ h => h) (Or.inl ⟨by rfl, ?_⟩) (by assumption) ?_
                  rotate_left
                  · intro w hSw
                    try dsimp only at hSw
                    go_simp
                    all_goals with_reducible rfl
                  simp only [List.set_cons_zero, List.set_cons_succ]
                  refine wpAnyH_takeL (i := 2) (v := ?_) rfl rfl (by kernel_rfl) (by kernel_rfl) (by kernel_rfl) (fun _ _ _ h => h) (Or.inl ⟨by rfl, ?_⟩) (by assumption) ?_
                  rotate_left
                  · intro w hSw
                    try dsimp only at hSw
                    go_simp
                    all_goals with_reducible rfl
                  simp only [List.set_cons_zero, List.set_cons_succ]
                  refine wpAnyH_takeL (i := 3) (v := ?_) rfl rfl (by kernel_rfl) (by kernel_rfl) (by kernel_rfl) (fun _ _ _ h => h) (Or.inl ⟨by rfl, ?_⟩) (by assumption) ?_
                  rotate_left
                  · intro w hSw
                    try dsimp only at hSw
                    go_simp
                    all_goals with_reducible rfl
                  simp only [List.set_cons_zero, List.set_cons_succ]
                  refine wpAnyH_takeL (i := 4) (v := ?_) rfl rfl (by kernel_rfl) (by kernel_rfl) (by kernel_rfl) (fun _ _ _ h => h) (Or.inl ⟨by rfl, ?_⟩) (by assumption) ?_
                  rotate_left
                  · intro w hSw
                    try dsimp only at hSw
                    go_simp
                    all_goals with_reducible rfl
                  simp only [List.set_cons_zero, List.set_cons_succ]
                  refine wpAnyH_takeL (i := 5) (v := ?_) rfl rfl (by kernel_rfl) (by kernel_rfl) (by kernel_rfl) (fun _ _ _ h => h) (Or.inl ⟨by rfl, ?_⟩) (by assumption) ?_
                  rotate_left
                  · intro w hSw
                    try dsimp only at hSw
                    go_simp
                    all_goals with_reducible rfl
                  simp only [List.set_cons_zero, List.set_cons_succ]
                  refine wpAnyH_takeL (i := 6) (v := ?_) rfl rfl (by kernel_rfl) (by kernel_rfl) (by kernel_rfl) (fun _ _ _ h => h) (Or.inl ⟨by rfl, ?_⟩) (by assumption) ?_
                  rotate_left
                  · intro w hSw
                    try dsimp only at hSw
                    go_simp
                    all_goals with_reducible rfl
                  simp only [List.set_cons_zero, List.set_cons_succ]
                  refine wpAnyH_takeL (i := 7) (v := ?_) rfl rfl (by kernel_rfl) (by kernel_rfl) (by kernel_rfl) (fun _ _ _ h => h) (Or.inl ⟨by rfl, ?_⟩) (by assumption) ?_
                  rotate_left
                  · intro w hSw
                    try dsimp only at hSw
                    go_simp
                    all_goals with_reducible rfl
                  simp only [List.set_cons_zero, List.set_cons_succ]
                  refine wpAnyH_takeL (i := 8) (v := ?_) rfl rfl (by kernel_rfl) (by kernel_rfl) (by kernel_rfl) (fun _ _ _ h => h) (Or.inl ⟨by rfl, ?_⟩) (by assumption) ?_
                  rotate_left
                  · intro w hSw
                    try dsimp only at hSw
                    go_simp
                    all_goals with_reducible rfl
                  simp only [List.set_cons_zero, List.set_cons_succ]
                  refine wpAnyH_takeL (i := 9) (v := ?_) rfl rfl (by kernel_rfl) (by kernel_rfl) (by kernel_rfl) (fun _ _ _ h => h) (Or.inl ⟨by rfl, ?_⟩) (by assumption) ?_
                  rotate_left
                  · intro w hSw
                    try dsimp only at hSw
                    go_simp
                    all_goals with_reducible rfl
                  simp only [List.set_cons_zero, List.set_cons_succ]
                  refine wpAnyH_takeL (i := 10) (v := ?_) rfl rfl (by kernel_rfl) (by kernel_rfl) (by kernel_rfl) (fun _ _ _ h => h) (Or.inl ⟨by rfl, ?_⟩) (by assumption) ?_
                  rotate_left
                  · intro w hSw
                    try dsimp only at hSw
                    go_simp
                    all_goals with_reducible rfl
                  simp only [List.set_cons_zero, List.set_cons_succ]
                  refine wpAnyH_ready (rs := [11]) (by kernel_rfl) (by simp) ?_
                  refine AllReadyH.cons rfl (fun K hK => ?_) ?_
                  · go_simp
                    go_at_call 51
                    refine Calls.mono HLook.out ?_
                    rintro e w6 ⟨v6, rfl, ho6, bd6⟩
                    have b6 : Below w5.heap.size w5 w6 := below_drew_pre bd6
                    have HO6 : Hid (OwnE 80 w6 w5.heap.size v6 (Ex.lookL Lo r.2.2.2 r.2.1)) := ho6
                    have B6 : Hid (Below wt.heap.size wt w6) := on B5.out b6
                    have B56 : Hid (Below w5.heap.size w5 w6) := b6
                    have S2 := four_cells (Nat.lt_of_lt_of_le HGt.out B5.out.size) HC5.out b6
                    clear bd6 b6 ho6
                    go_simp
                    refine hK.out _ _ ?_ (fun hHeld => ?_)
                    · try dsimp only
                      exact S2
                    clear hK K
                    refine wpAnyH_takeL (i := 12) (v := ?_) rfl rfl (by kernel_rfl) (by kernel_rfl) (by kernel_rfl) (fun _ _ _ h => h) (Or.inl ⟨by rfl, ?_⟩) (by assumption) ?_
                    rotate_left
                    · intro w hSw
                      try dsimp only at hSw
                      go_simp
                      all_goals with_reducible rfl
                    simp only [List.set_cons_zero, List.set_cons_succ]
                    refine wpAnyH_takeL (i := 13) (v := ?_) rfl rfl (by kernel_rfl) (by kernel_rfl) (by kernel_rfl) (fun _ _ _ h => h) (Or.inl ⟨by rfl, ?_⟩) (by assumption) ?_
                    rotate_left
                    · intro w hSw
                      try dsimp only at hSw
                      go_simp
                      all_goals with_reducible rfl
                    simp only [List.set_cons_zero, List.set_cons_succ]
                    refine wpAnyH_takeL (i := 14) (v := ?_) rfl rfl (by kernel_rfl) (by kernel_rfl) (by kernel_rfl) (fun _ _ _ h => h) (Or.inl ⟨by rfl, ?_⟩) (by assumption) ?_
                    rotate_left
                    · intro w hSw
                      try dsimp only at hSw
                      go_simp
                      all_goals with_reducible rfl
                    simp only [List.set_cons_zero, List.set_cons_succ]
                    refine wpAnyH_takeL (i := 15) (v := ?_) rfl rfl (by kernel_rfl) (by kernel_rfl) (by kernel_rfl) (fun _ _ _ h => h) (Or.inl ⟨by rfl, ?_⟩) (by assumption) ?_
                    rotate_left
                    · intro w hSw
                      try dsimp only at hSw
                      go_simp
                      all_goals with_reducible rfl
                    simp only [List.set_cons_zero, List.set_cons_succ]
                    refine wpAnyH_takeL (i := 16) (v := ?_) rfl rfl (by kernel_rfl) (by kernel_rfl) (by kernel_rfl) (fun _ _ _ h => h) (Or.inl ⟨by rfl, ?_⟩) (by assumption) ?_
                    rotate_left
                    · intro w hSw
                      try dsimp only at hSw
                      go_simp
                      all_goals with_reducible rfl
                    simp only [List.set_cons_zero, List.set_cons_succ]
                    refine wpAnyH_done (by kernel_rfl) ?_ _
                    have HC6 : Hid (w6.cell? ⟨g, off + k * 4, none⟩ = some (.int .i64 r.1) ∧ w6.cell? ⟨g, off + k * 4 + 1, none⟩ = some (.int .i64 r.2.1) ∧ w6.cell? ⟨g, off + k * 4 + 2, none⟩ = some (.int .i64 r.2.2.1) ∧ w6.cell? ⟨g, off + k * 4 + 3, none⟩ = some (.int .i64 r.2.2.2)) := S2
                    clear S2
                    clear hHeld
                    obtain ⟨a6, c6, rfl, -, -⟩ := HO6.out.slice
                    have HLk : Hid (Ex.lookL Lo r.2.2.2 r.2.1 = Ex.look Lo r.2.2.2 r.2.1) := if_pos HLz.out
                    obtain ⟨Z, hZ⟩ : ∃ Z, Z = Ex.lookL Lo r.2.2.2 r.2.1 := ⟨_, rfl⟩
                    rw [← hZ] at HO6 HLk ⊢
                    obtain ⟨nz, hnz⟩ : ∃ nz, nz = Z.length := ⟨_, rfl⟩
                    have HZn : Hid (Z.length = nz) := hnz.symm
                    rw [← hnz]
                    have HZ6 : Hid (rExts.rd w6 (fun b => w5.heap.size ≤ b) [.slice a6 nz c6] Z) := by
                      have h := HO6.out
                      rw [← hnz] at h
                      exact h.rd (by rw [HZn.out]; have := HZfew.out; rw [← HLk.out, HZn.out] at this; omega)
                    have hnz3 : nz ≤ 5000 := by have := HZfew.out; rw [← HLk.out, HZn.out] at this; omega
                    clear hZ hnz HO6
                    have hSC := HC6.out
                    go_wp2
                    go_loopw [5, 14] (fun tb i wr => ∃ q : Nat, q ≤ nz ∧ i = .int .i64 q ∧ tb = .bool (tw || (Z.take q).any fun z => decide (z.2.1 ≠ -1)) ∧ Below w6.heap.size w6 wr) (fun _ i _ => nz - (intOf i).toNat)
                    case atStart => exact ⟨0, Nat.zero_le _, rfl, by simp, Below.refl _ _⟩
                    case round =>
                      obtain ⟨q, hq, rfl, rfl, bel7⟩ := hrel
                      by_cases hqn : q < nz
                      · have hqZ : q < Z.length := by rw [HZn.out]; exact hqn
                        obtain ⟨gz, oz, rfl, -, hgz, hatz⟩ := rExts_at (Rep.below HZ6.out bel7) (by omega)
                        obtain ⟨-, z1, -, -⟩ := hatz q hqZ
                        have HNx : Hid ((tw || (Z.take (q + 1)).any fun z => decide (z.2.1 ≠ -1)) = ((tw || (Z.take q).any fun z => decide (z.2.1 ≠ -1)) || decide (Z[q].2.1 ≠ -1))) := by
                          unfold Hid
                          rw [List.take_succ_eq_append_getElem hqZ, List.any_append]
                          simp [Bool.or_assoc]
                        obtain ⟨zz, hzz⟩ : ∃ zz, zz = Z[q].2.1 := ⟨_, rfl⟩
                        rw [← hzz] at z1 HNx
                        generalize hBB : (tw || (Z.take q).any fun z => decide (z.2.1 ≠ -1)) = bb at *
                        have hqz : (q : Int) < (nz : Int) := by omega
                        have B7 : Hid (Below w6.heap.size w6 wr) := bel7
                        clear hzz hBB hatz hgz bel7
                        cases bb with
                        | true =>
                          go_wp2
                          go_roundw
                          case rel => exact ⟨q + 1, by omega, by go_num, by rw [HNx.out]; rfl, B7.out⟩
                          case measure => simp [intOf]; omega
                        | false =>
                          by_cases hh : zz = -1
                          · subst hh
                            go_wp2
                            go_roundw
                            case rel => exact ⟨q + 1, by omega, by go_num, by rw [HNx.out]; rfl, B7.out⟩
                            case measure => simp [intOf]; omega
                          · have HT : Hid ((tw || (Z.take (q + 1)).any fun z => decide (z.2.1 ≠ -1)) = true) := by unfold Hid; rw [HNx.out, decide_eq_true hh]; rfl
                            go_wp2
                            go_roundw
                            case rel => exact ⟨q + 1, by omega, by go_num, by rw [HT.out]; first | rfl | simp [hh], B7.out⟩
                            case measure => simp [intOf]; omega
                      · obtain rfl : nz = q := by omega
                        have HSe : Hid ((tw || (Z.take nz).any fun z => decide (z.2.1 ≠ -1)) = (tw || Rf.seen Lo (r.2.2.2, r.1, r.2.1))) := by
                          unfold Hid
                          rw [List.take_of_length_le (by rw [HZn.out]; exact Nat.le_refl _), HLk.out]
                          rfl
                        rw [HSe.out]
                        have b7 : Below wt.heap.size wt wr := on B6.out bel7
                        have HOz : Hid (OwnsQ rMp 72 wr w.heap.size (fun b => w.heap.size ≤ b) (.slice (some ⟨g9, 0, none⟩) nO co) (Rf.outOf L (Rf.ownN r) ++ [((Rf.ownN r : Int), Lo)] ++ Rf.outFrom L (Rf.ownN r + 1) (255 - Rf.ownN r))) := HO9.out.below b7
                        obtain ⟨gx, hgx, -, -, -, hfz, -⟩ := HOz.out.cells9 (by rw [HO9l.out]; omega)
                        simp only [Option.some.injEq, Addr.mk.injEq, and_true] at hgx
                        subst hgx
                        have hfz1 := hfz (na * 2 + 1)
                        have p1 := (b7.cell (p := ⟨g9, na * 2 + 1, none⟩) HG9.out).trans HP9.out
                        have HXw : Hid (rExts.rd wr (fun b => wt.heap.size ≤ b) [.slice a5 (Ex.putL Lo (r.2.2.2, r.1, r.2.1)).length c5] (Ex.putL Lo (r.2.2.2, r.1, r.2.1))) := Rep.below HX5.out (on B56.out bel7)
                        have HSt : Hid (OwnsQ rMp 72 (wr.setCell ⟨g9, na * 2 + 1, none⟩ (.slice a5 (Ex.putL Lo (r.2.2.2, r.1, r.2.1)).length c5)) w.heap.size (fun b => w.heap.size ≤ b) (.slice (some ⟨g9, 0, none⟩) nO co) (Rf.outOf L (Rf.ownN r) ++ [((Rf.ownN r : Int), Ex.putL Lo (r.2.2.2, r.1, r.2.1))] ++ Rf.outFrom L (Rf.ownN r + 1) (255 - Rf.ownN r))) := by
                          have h := HOz.out.setList (u := .slice a5 (Ex.putL Lo (r.2.2.2, r.1, r.2.1)).length c5) (X := Ex.putL Lo (r.2.2.2, r.1, r.2.1)) (rExts.weaken HXw.out (fun b hb _ => ⟨Nat.le_trans (HBt.out).size hb, fun e => by have := HG9.out; unfold Hid at this; omega⟩)) na (by rw [HO9l.out]; omega)
                          rw [HSet.out _] at h
                          exact h
                        have HBf : Hid (Below w.heap.size w (wr.setCell ⟨g9, na * 2 + 1, none⟩ (.slice a5 (Ex.putL Lo (r.2.2.2, r.1, r.2.1)).length c5))) := (on HBt.out b7).setCell (p := ⟨g9, na * 2 + 1, none⟩) HGb.out _
                        have HBes : Hid _ := HNext.out
                        have hm9z : (na : Int) < (nO : Int) := by omega
                        generalize hVV : (Ex.putL Lo (r.2.2.2, r.1, r.2.1)).length = nv at *
                        clear bel7 b7 hfz hVV HOz HXw
                        go_wp2
                        go_roundw
                        case rel => exact ⟨k + 1, _, _, _, _, by omega, by go_num, rfl, HBes, HSt, HBf.out⟩
                        case measure => simp [intOf]; omega
                  exact AllReadyH.nil
                · have HSt : Hid _ := Rf.back_none HN.out (Rf.puts_stop hkl HB.out.puts (fun h => hE (HMayE.out h)))
                  have e1 := HSt.out.1
                  have e2 := HSt.out.2
                  have E1 : Hid _ := e1
                  have E2 : Hid _ := e2
                  have B9 : Hid (Below w.heap.size w w5) := on HBt.out B5.out
                  generalize hGE : Ex.putE Lo (r.2.2.2, r.1, r.2.1) = ee at *
                  clear e1 e2 hGE S1
                  go_wp2
                  go_ret2
                  exact ⟨none, 0, by rw [E1.out, E2.out]; rfl, by rw [E2.out]; exact rMps_emptyAt _ _ _ _ (fun _ => rfl), B9.out⟩
              exact AllReadyH.nil
      · obtain rfl : n = k := by omega
        have hend := Rf.Beside.end_ (l := l) (O := O) (tw := tw) (L := L) (t := t) HN.out (by rw [HL.out]; exact HB.out)
        have HE1 : Hid _ := hend.1
        have HE2 : Hid _ := hend.2
        have hO256 : O.length ≤ 256 := by rw [HB.out.out]; exact Rf.out_len L 256
        obtain ⟨a9, c9, hv9, hr9⟩ := OwnsQ.rd (hs := by decide) HO.out (by show _ * 32 ≤ _; omega)
        subst hv9
        have HR9 : Hid (rMps.rd wo (fun b => w.heap.size ≤ b) [.slice a9 O.length c9] O) := rMps.weaken hr9 (fun b hb _ => by rcases hb with hb | hb <;> exact hb)
        clear hend hr9 bel HO
        cases tw with
        | true =>
          have F1 : Hid (Rf.backE l = 6) := HE1.out
          have F2 : Hid (Rf.backL l = []) := by unfold Hid; rw [HE2.out, F1.out]; rfl
          clear HE1 HE2
          go_wp2
          go_ret2
          exact ⟨none, 0, by rw [F1.out, F2.out]; rfl, by rw [F2.out]; exact rMps_emptyAt _ _ _ _ (fun _ => rfl), BO.out⟩
        | false =>
          have HE3 : Hid (Rf.backE l = if 9 < O.length then 3 else 0) := HE1.out
          by_cases q2 : 9 < O.length
          · have F1 : Hid (Rf.backE l = 3) := by unfold Hid; rw [HE3.out, if_pos q2]
            have F2 : Hid (Rf.backL l = []) := by unfold Hid; rw [HE2.out, F1.out]; rfl
            have q2z : (9 : Int) < (O.length : Int) := by omega
            clear HE1 HE2 HE3
            go_wp2
            go_ret2
            exact ⟨none, 0, by rw [F1.out, F2.out]; rfl, by rw [F2.out]; exact rMps_emptyAt _ _ _ _ (fun _ => rfl), BO.out⟩
          · have F1 : Hid (Rf.backE l = 0) := by unfold Hid; rw [HE3.out, if_neg q2]
            have F2 : Hid (Rf.backL l = O) := by unfold Hid; rw [HE2.out, F1.out]; rfl
            have q2z : ¬ (9 : Int) < (O.length : Int) := by omega
            clear HE1 HE2 HE3
            go_wp2
            go_ret2
            exact ⟨a9, c9, by rw [F1.out, F2.out]; rfl, by rw [F2.out]; exact HR9.out, BO.out⟩
end Go.Proofs.Ytinlgoljaiolnaa
