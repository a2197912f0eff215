/-
  Facts that the proof rests on, part 14. Conditions: those that each of them names.
-/
import Derived.Test.YtinlgoljaiolnaaBK09
import Derived.Test.YtinlgoljaiolnaaBK11
import Derived.Test.YtinlgoljaiolnaaBK12
namespace Go.Proofs.Ytinlgoljaiolnaa
open Go.RowKit
set_option linter.unusedVariables false
theorem rMps_empty (w : World) (P : Nat → Prop) : rMps.rd w P [.slice none 0 0] [] := ⟨none, 0, 0, rfl, rfl, Nat.le_refl _, (fun _ => rfl), by decide, fun x hx => by cases hx⟩
theorem OwnsQ.nil9 (w : World) (base : Nat) (Q : Nat → Prop) : OwnsQ rMp 77 w base Q (.slice none 0 0) [] := ⟨[], World.ownsRow_nil w base 77 rMp.size, rfl⟩
set_option maxRecDepth 20000 in
set_option maxHeartbeats 8000000 in
theorem refsBack_u (w : World) (P : Nat → Prop) (a : Option Addr) (n c : Nat) (l : List Rfr) (hL : rRfrs.rd w P [.slice a n c] l) :
    Calls Try.prog 27 #[.slice a n c] w fun e w' => ∃ a' c', e = .returned (.tuple #[.slice a' (Rf.backL l).length c', .int .i64 (Rf.backE l)]) ∧ rMps.rd w' (fun b => w.heap.size ≤ b) [.slice a' (Rf.backL l).length c'] (Rf.backL l) ∧ Below w.heap.size w w' := by
  have hl : l.length = n := (rList_len hL).1
  have HL : Hid (l.length = n) := hl
  have HR : Hid (rRfrs.rd w P [.slice a n c] l) := hL
  clear hL
  by_cases hn : 4096 < n
  · obtain ⟨e1, e2⟩ := Rf.back_many (l := l) (by omega)
    rw [e1, e2]
    have hz : (4096 : Int) < (n : Int) := by omega
    clear e1 e2 hl
    go_enter Try.func27, Try.ntmps27
    go_wp2
    go_ret2
    exact ⟨none, 0, rfl, rMps_empty _ _, Below.refl _ _⟩
  · have hz : ¬ (4096 : Int) < (n : Int) := by omega
    have HN : Hid (¬ 4096 < l.length) := by unfold Hid; omega
    have hn2 : n ≤ 4096 := by omega
    clear hl
    go_enter Try.func27, Try.ntmps27
    go_wp2_with fail
    refine (putEach_u _ _ _ _ _ l HR.out hn2).mono ?_
    rintro e w2 ⟨hno, hyes, b2⟩
    have B2 : Hid (Below w.heap.size w w2) := b2
    clear b2
    cases hp : Rf.putsR l with
    | none =>
      obtain rfl := hno hp
      obtain ⟨e1, e2⟩ := Rf.back_none HN.out hp
      have HE1 : Hid _ := e1
      have HE2 : Hid _ := e2
      clear hno hyes hp e1 e2
      go_wp2
      go_ret2
      exact ⟨none, 0, by rw [HE1.out, HE2.out]; rfl, by rw [HE2.out]; exact rMps_empty _ _, B2.out⟩
    | some s =>
      obtain ⟨L, t⟩ := s
      obtain ⟨g, rfl, hg, hT⟩ := hyes L t hp
      obtain ⟨e1, e2⟩ := Rf.back_some HN.out hp
      have hto : Rf.TabOk L t n := by
        have := Rf.puts_ok (l := l) n (by rw [HL.out]; exact Nat.le_refl _) (L := L) (t := t)
        rw [List.take_of_length_le (by rw [HL.out]; exact Nat.le_refl _)] at this
        exact this hp
      have HE1 : Hid _ := e1
      have HE2 : Hid _ := e2
      have HT : Hid (Tabs w2 g L) := hT
      have HG : Hid (w.heap.size ≤ g) := hg
      have HGl : Hid (g < w2.heap.size) := hT.lt
      have HOkA : Hid (∀ o, Ex.Ok (L o)) := hto.ok
      have ht0 := hto.low
      have ht1 : t ≤ 268435456 := by have := hto.high; omega
      clear hno hyes hp e1 e2 hto hT hg
      go_wp2
      go_loopw [5, 7, 26] (fun s o i wr => ∃ k : Nat, k ≤ 256 ∧ i = .int .i64 k ∧ s = .int .i64 (t - Rf.sizes L k) ∧ Hid (OwnsQ rMp 77 wr w2.heap.size (fun b => g < b ∧ b < w2.heap.size) o (Rf.outOf L k)) ∧ Below w2.heap.size w2 wr) (fun _ _ i _ => 256 - (intOf i).toNat)
      case atStart => exact ⟨0, by omega, rfl, by simp [Rf.sizes], OwnsQ.nil9 _ _ _, Below.refl _ _⟩
      case round =>
        obtain ⟨k, hk, rfl, rfl, HO, bel⟩ := hrel
        obtain ⟨wo, hwo⟩ : ∃ wo, wo = wr := ⟨_, rfl⟩
        rw [← hwo] at HO bel ⊢
        clear hwo
        have BO : Hid (Below w2.heap.size w2 wo) := bel
        have hsz := Rf.sizes_bound HOkA.out k
        have hsz1 := hsz.1
        have hsz2 : Rf.sizes L k ≤ 16777216 := by omega
        have hol := Rf.out_len L k
        by_cases hk2 : k < 256
        · obtain ⟨a1, n1, c1, t0, -, hrd⟩ := HT.out.at hk2
          have cg := (bel.cell (p := ⟨g, k, none⟩) HGl.out).trans t0
          have HX0 : Hid (rExts.rd w2 (fun b => g < b ∧ b < w2.heap.size) [.slice a1 n1 c1] (L k)) := rExts.weaken hrd (fun b hb hl => ⟨hb, hl⟩)
          have HOk : Hid (Ex.Ok (L k)) := HOkA.out k
          have hXl : (L k).length = n1 := (rList_len hrd).1
          have hn1 : n1 ≤ 1024 := by have := HOk.out.1; omega
          have hkz : (k : Int) < 256 := by omega
          obtain ⟨X, hXX⟩ : ∃ X, X = L k := ⟨_, rfl⟩
          rw [← hXX] at HX0 HOk hXl
          obtain ⟨T, hTT⟩ : ∃ T, T = t - Rf.sizes L k := ⟨_, rfl⟩
          have HTT : Hid (T = t - Rf.sizes L k) := hTT
          have hT0 : -16777216 ≤ T := by omega
          have hT1 : T ≤ 268435456 := by omega
          rw [← hTT]
          have HX : Hid (rExts.rd w2 (fun b => g < b ∧ b < w2.heap.size) [.slice a1 n1 c1] X) := HX0.out
          have HXl : Hid (X.length = n1) := hXl
          have HXX : Hid (X = L k) := hXX
          have hnil : X = [] ↔ n1 = 0 := by rw [← hXl]; exact List.length_eq_zero_iff.symm
          have HOut0 : Hid (Rf.outOf L (k + 1) = if X = [] then Rf.outOf L k else Rf.outOf L k ++ [((k : Int), X)]) := by unfold Hid; rw [hXX]; rfl
          clear hrd t0 bel hsz hTT hXX hXl HX0
          by_cases h1 : n1 = 0
          · have HOut : Hid (Rf.outOf L (k + 1) = Rf.outOf L k) := by unfold Hid; rw [HOut0.out, if_pos (hnil.2 h1)]
            have h1z : ¬ (0 : Int) < (n1 : Int) := by omega
            clear hnil HOut0
            go_wp2
            obtain ⟨wi, hwi⟩ : ∃ wi, wi = wo := ⟨_, rfl⟩
            rw [← hwi]
            have BI : Hid (Below w2.heap.size w2 wi) := by rw [hwi]; exact BO.out
            have HOI : Hid (OwnsQ rMp 77 wi w2.heap.size (fun b => g < b ∧ b < w2.heap.size) u7 (Rf.outOf L (k + 1))) := by rw [hwi, HOut.out]; exact HO.out
            have HXI : Hid (rExts.rd wi (fun b => g < b ∧ b < w2.heap.size) [.slice a1 n1 c1] X) := Rep.below HX.out BI.out
            clear hwi HOut HO
            go_loopw [5, 42] (fun s i wr => ∃ j : Nat, j ≤ n1 ∧ i = .int .i64 j ∧ s = .int .i64 (T - Ex.size (X.take j)) ∧ Below wi.heap.size wi wr) (fun _ i _ => n1 - (intOf i).toNat)
            case atStart => exact ⟨0, Nat.zero_le _, rfl, by simp [Ex.size], Below.refl _ _⟩
            case round =>
              obtain ⟨j, hj, rfl, rfl, bel⟩ := hrel
              by_cases hjn : j < n1
              · exfalso; omega
              · obtain rfl : n1 = j := by omega
                have HTn : Hid (T - Ex.size (X.take n1) = t - Rf.sizes L (k + 1)) := by
                  unfold Hid
                  rw [List.take_of_length_le (by rw [HXl.out]; exact Nat.le_refl _), HTT.out, HXX.out]
                  show _ = t - (Rf.sizes L k + Ex.size (L k))
                  omega
                have HOF : Hid (OwnsQ rMp 77 wr w2.heap.size (fun b => g < b ∧ b < w2.heap.size) u7 (Rf.outOf L (k + 1))) := HOI.out.below bel
                have BF : Hid (Below w2.heap.size w2 wr) := on BI.out bel
                rw [HTn.out]
                clear bel
                go_wp2
                go_roundw
                case rel => exact ⟨k + 1, by omega, by go_num, rfl, HOF, BF.out⟩
                case measure => simp [intOf]; omega
          · have HOut : Hid (Rf.outOf L (k + 1) = Rf.outOf L k ++ [((k : Int), X)]) := by unfold Hid; rw [HOut0.out, if_neg (fun e => h1 (hnil.1 e))]
            have h1z : (0 : Int) < (n1 : Int) := by omega
            clear hnil HOut0
            obtain ⟨w5, hw5, V5, b5, z5⟩ := boxedRow wo 77 [.int .i64 (k : Int), .slice a1 n1 c1]
            have hc : rMp.rd w5 (fun b => (g < b ∧ b < w2.heap.size) ∧ u7.ownBlock ≠ some b) [.int .i64 (k : Int), .slice a1 n1 c1] ((k : Int), X) := map_rd (by unfold In64; omega) (rExts.weaken (Rep.below HX.out (on BO.out b5)) (fun b hb _ => ⟨hb, fun e => by have := (HO.out.row b e).1; omega⟩))
            obtain ⟨b6, d6, w6, hr6, ho6, g6, -⟩ := run_append_q (ty := 25) elem_map9 (HO.out.below b5) (ad := ⟨wo.heap.size, 0, none⟩) (fun j u hj => by rw [Addr.add_lit, Nat.zero_add]; exact V5.cell hj) hc (by show _ * 32 ≤ _; omega) (by unfold maxLen; omega) (Nat.le_trans BO.out.size b5.size)
            have HR6 : Hid _ := hr6
            have HO6 : Hid (OwnsQ rMp 77 w6 w2.heap.size (fun b => g < b ∧ b < w2.heap.size) (.slice b6 ((Rf.outOf L k).length + 1) d6) (Rf.outOf L k ++ [((k : Int), X)])) := ho6
            have B6 : Hid (Below w2.heap.size w2 w6) := (on BO.out b5).grown g6 (Nat.le_trans BO.out.size b5.size) (fun j hj => (HO.out.row j hj).1)
            obtain ⟨v6, hv6⟩ : ∃ v6, v6 = Value.slice b6 ((Rf.outOf L k).length + 1) d6 := ⟨_, rfl⟩
            rw [← hv6] at HR6 HO6
            clear hr6 ho6 g6 hc V5 b5 z5 hv6
            go_wp2_with (at_builtin; refine Lib.wpList_append_run _ rfl _ _ _ _ rfl _ _ rfl rfl _ _ HR6.out ?_)
            obtain ⟨wi, hwi⟩ : ∃ wi, wi = w6 := ⟨_, rfl⟩
            rw [← hwi]
            have BI : Hid (Below w2.heap.size w2 wi) := by rw [hwi]; exact B6.out
            have HOI : Hid (OwnsQ rMp 77 wi w2.heap.size (fun b => g < b ∧ b < w2.heap.size) v6 (Rf.outOf L (k + 1))) := by rw [hwi, HOut.out]; exact HO6.out
            have HXI : Hid (rExts.rd wi (fun b => g < b ∧ b < w2.heap.size) [.slice a1 n1 c1] X) := Rep.below HX.out BI.out
            clear hwi HOut HO
            go_loopw [5, 42] (fun s i wr => ∃ j : Nat, j ≤ n1 ∧ i = .int .i64 j ∧ s = .int .i64 (T - Ex.size (X.take j)) ∧ Below wi.heap.size wi wr) (fun _ i _ => n1 - (intOf i).toNat)
            case atStart => exact ⟨0, Nat.zero_le _, rfl, by simp [Ex.size], Below.refl _ _⟩
            case round =>
              obtain ⟨j, hj, rfl, rfl, bel⟩ := hrel
              by_cases hjn : j < n1
              · have hjX : j < X.length := by rw [HXl.out]; exact hjn
                obtain ⟨gx, ox, rfl, -, hgx, hatx⟩ := rExts_at (Rep.below HXI.out bel) (by omega)
                obtain ⟨e0, e1, e2, -⟩ := hatx j hjX
                have HSz : Hid _ := Rf.size_take HOk.out hjX
                have hone := HOk.out.2.1 X[j] (List.getElem_mem hjX)
                have hsp := Rf.size_part HOk.out j
                obtain ⟨Y, hY⟩ : ∃ Y, Y = X[j] := ⟨_, rfl⟩
                rw [← hY] at e0 e1 e2 HSz hone
                unfold Ex.One Ex.Fits at hone
                have o1 := hone.1
                have o3 : Y.2.2 ≤ 65536 := by omega
                have hs1 := hsp.1
                have hs2 : Ex.size (X.take j) ≤ 67108864 := by omega
                generalize hGS : Ex.size (X.take j) = sz at *
                obtain ⟨w8, hw8, V8, b8, z8⟩ := boxedRow wr 80 [.int .i64 Y.1, .int .i64 Y.2.1, .int .i64 Y.2.2]
                obtain ⟨f0, f1, f2⟩ := V8.three
                have B8 : Hid (Below wi.heap.size wi w8) := on bel b8
                have hjz : (j : Int) < (n1 : Int) := by omega
                clear hY hatx hgx V8 b8 z8 bel hGS hsp hone
                go_wp2
                go_roundw
                case rel => exact ⟨j + 1, by omega, by go_num, by rw [HSz.out]; congr 1; omega, B8.out⟩
                case measure => simp [intOf]; omega
              · obtain rfl : n1 = j := by omega
                have HTn : Hid (T - Ex.size (X.take n1) = t - Rf.sizes L (k + 1)) := by
                  unfold Hid
                  rw [List.take_of_length_le (by rw [HXl.out]; exact Nat.le_refl _), HTT.out, HXX.out]
                  show _ = t - (Rf.sizes L k + Ex.size (L k))
                  omega
                have HOF : Hid (OwnsQ rMp 77 wr w2.heap.size (fun b => g < b ∧ b < w2.heap.size) v6 (Rf.outOf L (k + 1))) := HOI.out.below bel
                have BF : Hid (Below w2.heap.size w2 wr) := on BI.out bel
                rw [HTn.out]
                clear bel
                go_wp2
                go_roundw
                case rel => exact ⟨k + 1, by omega, by go_num, rfl, HOF, BF.out⟩
                case measure => simp [intOf]; omega
        · obtain rfl : k = 256 := by omega
          have HE1' := HE1.out
          have HE2' := HE2.out
          obtain ⟨ao, no, co, hvo⟩ : ∃ ao no co, u7 = .slice ao no co := by
            obtain ⟨b9, d9, h9⟩ := HO.out.slice
            exact ⟨b9, _, d9, h9⟩
          obtain ⟨a9, c9, hv9, hr9⟩ := OwnsQ.rd (hs := by decide) HO.out (by show _ * 32 ≤ _; omega)
          have HR9 : Hid (rMps.rd wo (fun b => w.heap.size ≤ b) [.slice a9 (Rf.outOf L 256).length c9] (Rf.outOf L 256)) := rMps.weaken hr9 (fun b hb _ => by
            rcases hb with hb | hb
            · exact Nat.le_trans HG.out (Nat.le_of_lt hb.1)
            · exact Nat.le_trans B2.out.size hb)
          subst hv9
          clear hr9 hvo HO
          have BF : Hid (Below w.heap.size w wo) := on B2.out BO.out
          generalize hG1 : Rf.outOf L 256 = O at *
          generalize hG2 : Rf.sizes L 256 = Z at *
          by_cases q1 : 0 < t - Z
          · rw [if_pos q1] at HE1'
            rw [HE1', if_neg (by decide)] at HE2'
            have F1 : Hid _ := HE1'
            have F2 : Hid _ := HE2'
            clear HE1' HE2' HE1 HE2
            go_wp2
            go_ret2
            exact ⟨none, 0, by rw [F1.out, F2.out]; rfl, by rw [F2.out]; exact rMps_empty _ _, BF.out⟩
          · rw [if_neg q1] at HE1'
            by_cases q2 : 9 < O.length
            · rw [if_pos q2] at HE1'
              rw [HE1', if_neg (by decide)] at HE2'
              have F1 : Hid _ := HE1'
              have F2 : Hid _ := HE2'
              have q2z : (9 : Int) < (O.length : Int) := by omega
              clear HE1' HE2' HE1 HE2
              go_wp2
              go_ret2
              exact ⟨none, 0, by rw [F1.out, F2.out]; rfl, by rw [F2.out]; exact rMps_empty _ _, BF.out⟩
            · rw [if_neg q2] at HE1'
              rw [HE1', if_pos rfl] at HE2'
              have F1 : Hid _ := HE1'
              have F2 : Hid _ := HE2'
              have q2z : ¬ (9 : Int) < (O.length : Int) := by omega
              clear HE1' HE2' HE1 HE2
              go_wp2
              go_ret2
              exact ⟨a9, c9, by rw [F1.out, F2.out]; rfl, by rw [F2.out]; exact HR9.out, BF.out⟩
end Go.Proofs.Ytinlgoljaiolnaa
