/-
  The contract of the document's own Join: spans sorted and glued. Conditions: those that each contract names.
-/
import Derived.Test.YtlpmfbinemmikaaREB
import Derived.Test.YtlpmfbinemmikaaESOwn
import Derived.Test.YtlpmfbinemmikaaESort
import Derived.Test.YtlpmfbinemmikaaEMax
import Derived.Lib.AppendZeros
import Derived.Deep.CutRange
import Derived.Deep.CutBlock
import Derived.BigRegion
namespace Go.Proofs.Ytlpmfbinemmikaa
open Go.RowKit
set_option linter.unusedVariables false

theorem rSpns_empty (w : World) (P : Nat → Prop) (a : Option Addr) (c : Nat) (h : a = none → c = 0) : rSpns.rd w P [.slice a 0 c] [] := ⟨a, 0, c, rfl, rfl, Nat.zero_le _, h, by decide, fun x hx j hj => by cases hj⟩

theorem Ex.glue_nil (x : Spn) : Ex.glue [] x = [x] := rfl
theorem Ex.glue_in {m : List Spn} {x y : Spn} (h : x.1 ≤ y.1 + y.2) : Ex.glue (m ++ [y]) x = (m ++ [y]).set m.length (y.1, max y.2 (x.1 + x.2 - y.1)) := by
  unfold Ex.glue
  simp only [List.getLast?_append, List.getLast?_singleton, Option.some_or]
  rw [if_pos h]
  simp
theorem Ex.glue_out {m : List Spn} {x y : Spn} (h : ¬ x.1 ≤ y.1 + y.2) : Ex.glue (m ++ [y]) x = m ++ [y] ++ [x] := by
  unfold Ex.glue
  simp only [List.getLast?_append, List.getLast?_singleton, Option.some_or]
  rw [if_neg h]

theorem Ex.spn_last (m : List Spn) (y : Spn) : ∃ h : m.length < (m ++ [y]).length, (m ++ [y])[m.length] = y := ⟨by simp, by simp⟩

theorem OwnS.drewN {e : TypeId} {w : World} {base : Nat} {v : Value} {l : List Spn} (h : OwnS e w base v l) (n : Nat) : OwnS e (w.drewN n) base v l := h.keep (fun _ _ _ => rfl)

set_option maxRecDepth 20000 in
set_option maxHeartbeats 3000000 in
theorem refJoin_u (w : World) (P : Nat → Prop) (a : Option Addr) (n c : Nat) (l : List Spn) (hL : rSpns.rd w P [.slice a n c] l) (hn : n ≤ 100000) (hM : ∀ x ∈ l, Ex.Mid x) :
    Calls Try.prog 52 #[.slice a n c] w fun e w' => ∃ b, e = .returned b ∧ OwnS 44 w' w.heap.size b (Ex.join l) ∧ Below w.heap.size w w' := by
  obtain ⟨hl, hnc, hnil, hb⟩ := rList_len hL
  have HL : Hid _ := hl
  have HR : Hid _ := hL
  have HMid : Hid _ := hM
  have hmx := max_fact 3
  clear hl hnc hnil hb hL hM
  go_enter Try.func52, Try.ntmps52
  go_wp2
  go_loopw [3, 4] (fun o i wr => ∃ j : Nat, j ≤ n ∧ i = .int .i64 j ∧ Hid (OwnS 44 wr w.heap.size o (Ex.sortSpans (l.take j))) ∧ Below w.heap.size w wr) (fun _ i _ => n - (intOf i).toNat)
  case atStart => exact ⟨0, Nat.zero_le _, rfl, OwnS.nil _ _ _, Below.refl _ _⟩
  case round =>
    obtain ⟨j, hj, rfl, HW, bel⟩ := hrel
    obtain ⟨wo, rfl⟩ : ∃ wo, wo = wr := ⟨_, rfl⟩
    by_cases hlt : j < n
    · have hkl : j < l.length := by rw [HL.out]; exact hlt
      have HSl : Hid ((Ex.sortSpans (l.take j)).length = j) := by unfold Hid; rw [Ex.sorted_len, List.length_take]; omega
      have HNx : Hid _ := Ex.sorted_step l j hkl
      obtain ⟨g, off, rfl, -, hgl, hat⟩ := rSpns_at (Rep.below HR.out bel) (by omega)
      obtain ⟨c0, c1, HIn⟩ := hat j hkl
      generalize Ex.sortSpans (l.take j) = S at *
      obtain ⟨X, hX⟩ : ∃ X, X = l[j] := ⟨_, rfl⟩
      rw [← hX] at c0 c1 HNx HIn
      have HX : Hid (In2 X) := HIn
      clear hX hat HIn
      have hkn : (j : Int) < (n : Int) := by omega
      obtain ⟨a3, c3, hv3, hc3, hnil3⟩ := HW.out.slice
      have hSl := HSl.out
      unfold Hid at hSl
      rw [hSl] at hv3 hc3
      subst hv3
      have HSD : Hid (rSpns.rd wo (fun b => w.heap.size ≤ b) [.slice a3 j c3] S) := HW.out.rd (by rw [HSl.out]; omega)
      clear hSl
      have HN3 : Hid (a3 = none → c3 = 0) := hnil3
      clear hnil3
      go_upto_block 2 with fail
      have HG : Hid (g < wo.heap.size) := hgl
      go_cut [5] from 16 to 34 (fun t wx => ∃ k : Nat, k ≤ j ∧ t = .int .i64 k ∧ Hid (Ex.insSpan X S = S.take k ++ [X] ++ S.drop k) ∧ Below wo.heap.size wo wx)
      case first =>
        go_wp2_with fail
        go_loopw [5] (fun t w4 => ∃ k : Nat, k ≤ j ∧ t = .int .i64 k ∧ Hid (Ex.insSpan X S = S.take k ++ Ex.insSpan X (S.drop k)) ∧ Below wo.heap.size wo w4) (fun t _ => j - (intOf t).toNat)
        case atStart => exact ⟨0, Nat.zero_le _, rfl, rfl, Below.refl _ _⟩
        case round =>
          obtain ⟨k, hk, rfl, HI, bel4⟩ := hrel
          have d0 : wr.cell? ⟨g, off + j * 2, none⟩ = some (.int .i64 X.1) := (bel4.cell (p := ⟨g, off + j * 2, none⟩) HG.out).trans c0
          clear c0 c1
          by_cases hkj : k < j
          · have hks : k < S.length := by rw [HSl.out]; exact hkj
            obtain ⟨g3, o3, rfl, -, hg3, hat3⟩ := rSpns_at (Rep.below HSD.out bel4) (by omega)
            obtain ⟨e0, e1, -⟩ := hat3 k hks
            have HN1 : Hid (S[k].1 ≤ X.1 → Ex.insSpan X S = S.take (k + 1) ++ Ex.insSpan X (S.drop (k + 1))) := fun h => Ex.insSpan_next hks h HI.out
            have HN2 : Hid (¬ S[k].1 ≤ X.1 → Ex.insSpan X S = S.take k ++ [X] ++ S.drop k) := fun h => Ex.insSpan_here hks h HI.out
            obtain ⟨Y, hY⟩ : ∃ Y, Y = S[k] := ⟨_, rfl⟩
            rw [← hY] at e0 e1 HN1 HN2
            clear hY hat3
            have hki : (k : Int) < (j : Int) := by omega
            by_cases hle : Y.1 ≤ X.1
            · have HI2 : Hid _ := HN1.out hle
              have hle' : decide (Y.1 ≤ X.1) = true := decide_eq_true hle
              clear HN1 HN2 HI
              go_wp2_with fail
              go_quiet (fail)
              go_wp2
              go_roundw
              case rel => exact ⟨k + 1, by omega, by go_num, HI2, same_drewN bel4 nq⟩
              case measure => simp [intOf]; omega
            · have HI2 : Hid _ := HN2.out hle
              have hle' : decide (Y.1 ≤ X.1) = false := decide_eq_false hle
              clear HN1 HN2 HI
              go_wp2_with fail
              go_quiet (fail)
              go_wp2
              go_meet
              exact ⟨k, hk, rfl, HI2, same_drewN bel4 nq⟩
          · have HI2 : Hid (Ex.insSpan X S = S.take k ++ [X] ++ S.drop k) := Ex.insSpan_end (by rw [HSl.out]; omega) HI.out
            have hki : ¬ (k : Int) < (j : Int) := by omega
            clear HI
            go_wp2_with fail
            go_quiet (fail)
            go_wp2
            go_meet
            exact ⟨k, hk, rfl, HI2, same_drewN bel4 nq⟩
      case rest =>
        obtain ⟨k, hk, rfl, HI2, bw⟩ := hcut
        have BW : Hid (Below wo.heap.size wo wc) := bw
        have HWd : Hid (rSpns.rd wc (fun b => w.heap.size ≤ b) [.slice a3 j c3] S) := Rep.below HSD.out bw
        have d0 : wc.cell? ⟨g, off + j * 2, none⟩ = some (.int .i64 X.1) := (bw.cell (p := ⟨g, off + j * 2, none⟩) HG.out).trans c0
        have d1 : wc.cell? ⟨g, off + j * 2 + 1, none⟩ = some (.int .i64 X.2) := (bw.cell (p := ⟨g, off + j * 2 + 1, none⟩) HG.out).trans c1
        clear c0 c1 bw
        by_cases hck : c3 = k
        · have e1 : j = k := by omega
          subst e1
          have e2 : j = c3 := by omega
          subst e2
          have HDr : Hid (S.drop j = []) := List.drop_eq_nil_of_le (by rw [HSl.out]; exact Nat.le_refl _)
          clear hck hk hc3
          have hk : j ≤ j := Nat.le_refl _
          obtain ⟨v1, w1, hr1, ho1, g1⟩ := run_append_spns (OwnS.nil 44 wc wc.heap.size) (rSpns_front HWd.out hk) (by simp only [List.length_nil]; omega) (Nat.le_refl _) 47
          have b1 : Below wc.heap.size wc w1 := (OwnS.nil 44 wc wc.heap.size).base_below (Nat.le_refl _) g1
          rw [List.nil_append] at ho1
          have HC1 : Hid (Below wc.heap.size wc w1) := b1
          have hs1 : wc.heap.size ≤ (w1.alloc (.cells #[.int .i64 X.1, .int .i64 X.2] 44)).heap.size := Nat.le_trans b1.size (by simp)
          have ho1' : OwnS 44 (w1.alloc (.cells #[.int .i64 X.1, .int .i64 X.2] 44)) wc.heap.size v1 (S.take j) := ho1.below ((Below.refl _ _).alloc (Nat.le_refl _) _)
          have hlen1 : (S.take j).length = j := by rw [List.length_take, HSl.out]; omega
          obtain ⟨v2, w2, hr2, ho2, g2⟩ := run_append_spns ho1' ((OwnS.lit 44 w1 wc.heap.size b1.size X HX.out).rd (show (1 : Nat) ≤ 8796093021952 by decide)) (by rw [hlen1]; omega) hs1 47
          have b2 : Below wc.heap.size wc w2 := (b1.alloc b1.size _).trans (ho1'.base_below hs1 g2)
          have hlen2 : (S.take j ++ [X]).length = j + 1 := by rw [List.length_append, hlen1]; rfl
          obtain ⟨v3, w3, hr3, ho3, g3'⟩ := run_append_spns ho2 (rSpns_empty w2 (fun b => w.heap.size ≤ b) a3 0 (fun _ => rfl)) (by rw [hlen2]; omega) b2.size 47
          have b3 : Below wc.heap.size wc w3 := b2.trans (ho2.base_below b2.size g3')
          have HO3 : Hid (OwnS 44 w3 w.heap.size v3 (Ex.sortSpans (l.take (j + 1)))) := by
            unfold Hid
            rw [HNx.out, HI2.out, HDr.out]
            exact ho3.mono (Nat.le_trans bel.size BW.out.size)
          have HB3 : Hid (Below w.heap.size w w3) := on bel (on BW.out b3)
          have HR1 : Hid _ := hr1
          have HR2 : Hid _ := hr2
          have HR3 : Hid _ := hr3
          clear hr1 hr2 hr3 ho1 ho1' ho2 ho3 g1 g2 g3' b1 b2 b3 hs1 hlen1 hlen2
          have x0 : w1.cell? ⟨g, off + j * 2, none⟩ = some (.int .i64 X.1) := (HC1.out.cell (p := ⟨g, off + j * 2, none⟩) (Nat.lt_of_lt_of_le HG.out BW.out.size)).trans d0
          have x1 : w1.cell? ⟨g, off + j * 2 + 1, none⟩ = some (.int .i64 X.2) := (HC1.out.cell (p := ⟨g, off + j * 2 + 1, none⟩) (Nat.lt_of_lt_of_le HG.out BW.out.size)).trans d1
          go_wp2_with (at_builtin; first | refine Lib.wpList_append_run _ rfl _ _ _ _ rfl _ _ rfl rfl _ _ HR1.out ?_ | refine Lib.wpList_append_run _ rfl _ _ _ _ rfl _ _ rfl rfl _ _ HR2.out ?_ | refine Lib.wpList_append_run _ rfl _ _ _ _ rfl _ _ rfl rfl _ _ HR3.out ?_)
          go_roundw
          case rel => exact ⟨j + 1, by omega, by go_num, HO3, HB3.out⟩
          case measure => simp [intOf]; omega
        · obtain ⟨ad, rfl⟩ : ∃ ad, a3 = some ad := by
            cases a3 with
            | none => have := HN3.out rfl; omega
            | some ad => exact ⟨ad, rfl⟩
          obtain ⟨g3, rfl⟩ : ∃ g3, ad = ⟨g3, 0, none⟩ := by
            rcases HW.out.row.2 with ⟨ev, -⟩ | ⟨g3, cap3, cur3, ev, -⟩
            · simp at ev
            · simp only [Value.slice.injEq, Option.some.injEq] at ev
              exact ⟨g3, ev.1⟩
          obtain ⟨v1, w1, hr1, ho1, g1⟩ := run_append_spns (OwnS.nil 44 wc wc.heap.size) (rSpns_front HWd.out hk) (by simp only [List.length_nil]; omega) (Nat.le_refl _) 47
          have b1 : Below wc.heap.size wc w1 := (OwnS.nil 44 wc wc.heap.size).base_below (Nat.le_refl _) g1
          rw [List.nil_append] at ho1
          have HC1 : Hid (Below wc.heap.size wc w1) := b1
          have hs1 : wc.heap.size ≤ (w1.alloc (.cells #[.int .i64 X.1, .int .i64 X.2] 44)).heap.size := Nat.le_trans b1.size (by simp)
          have ho1' : OwnS 44 (w1.alloc (.cells #[.int .i64 X.1, .int .i64 X.2] 44)) wc.heap.size v1 (S.take k) := ho1.below ((Below.refl _ _).alloc (Nat.le_refl _) _)
          have hlen1 : (S.take k).length = k := by rw [List.length_take, HSl.out]; omega
          obtain ⟨v2, w2, hr2, ho2, g2⟩ := run_append_spns ho1' ((OwnS.lit 44 w1 wc.heap.size b1.size X HX.out).rd (show (1 : Nat) ≤ 8796093021952 by decide)) (by rw [hlen1]; omega) hs1 47
          have b2 : Below wc.heap.size wc w2 := (b1.alloc b1.size _).trans (ho1'.base_below hs1 g2)
          have hlen2 : (S.take k ++ [X]).length = k + 1 := by rw [List.length_append, hlen1]; rfl
          obtain ⟨v3, w3, hr3, ho3, g3'⟩ := run_append_spns ho2 (show rSpns.rd w2 (fun b => w.heap.size ≤ b) [.slice (some ⟨g3, k * 2, none⟩) (j - k) (c3 - k)] (S.drop k) from by have h := rSpns_rest (Rep.below HWd.out b2) hk; rw [Nat.zero_add] at h; exact h) (by rw [hlen2]; omega) b2.size 47
          have b3 : Below wc.heap.size wc w3 := b2.trans (ho2.base_below b2.size g3')
          have HO3 : Hid (OwnS 44 w3 w.heap.size v3 (Ex.sortSpans (l.take (j + 1)))) := by
            unfold Hid
            rw [HNx.out, HI2.out]
            exact ho3.mono (Nat.le_trans bel.size BW.out.size)
          have HB3 : Hid (Below w.heap.size w w3) := on bel (on BW.out b3)
          have HR1 : Hid _ := hr1
          have HR2 : Hid _ := hr2
          have HR3 : Hid _ := hr3
          clear hr1 hr2 hr3 ho1 ho1' ho2 ho3 g1 g2 g3' b1 b2 b3 hs1 hlen1 hlen2
          have x0 : w1.cell? ⟨g, off + j * 2, none⟩ = some (.int .i64 X.1) := (HC1.out.cell (p := ⟨g, off + j * 2, none⟩) (Nat.lt_of_lt_of_le HG.out BW.out.size)).trans d0
          have x1 : w1.cell? ⟨g, off + j * 2 + 1, none⟩ = some (.int .i64 X.2) := (HC1.out.cell (p := ⟨g, off + j * 2 + 1, none⟩) (Nat.lt_of_lt_of_le HG.out BW.out.size)).trans d1
          go_wp2_with (at_builtin; first | refine Lib.wpList_append_run _ rfl _ _ _ _ rfl _ _ rfl rfl _ _ HR1.out ?_ | refine Lib.wpList_append_run _ rfl _ _ _ _ rfl _ _ rfl rfl _ _ HR2.out ?_ | refine Lib.wpList_append_run _ rfl _ _ _ _ rfl _ _ rfl rfl _ _ HR3.out ?_)
          go_roundw
          case rel => exact ⟨j + 1, by omega, by go_num, HO3, HB3.out⟩
          case measure => simp [intOf]; omega
    · obtain rfl : j = n := by omega
      have HS0 : Hid (Ex.sortSpans (l.take j) = Ex.sortSpans l) := by unfold Hid; rw [List.take_of_length_le (by rw [HL.out]; exact Nat.le_refl _)]
      rw [HS0.out] at HW
      have HMS : Hid (∀ y ∈ Ex.sortSpans l, Ex.Mid y) := Ex.mid_sort HMid.out
      have HMG : Hid (∀ q, ∀ y ∈ ((Ex.sortSpans l).take q).foldl Ex.glue [], Ex.Mid y) := fun q => Ex.mid_glues (fun y hy => HMS.out y (List.mem_of_mem_take hy))
      have HGl : Hid (∀ q, (((Ex.sortSpans l).take q).foldl Ex.glue []).length ≤ q) := fun q => Nat.le_trans (Ex.glue_len _) (by rw [List.length_take]; omega)
      have HSl : Hid ((Ex.sortSpans l).length = j) := by unfold Hid; rw [Ex.sorted_len, HL.out]
      have HJo : Hid (Ex.join l = (Ex.sortSpans l).foldl Ex.glue []) := rfl
      generalize Ex.sortSpans l = S at *
      obtain ⟨a3, c3, hv3, hc3, hnil3⟩ := HW.out.slice
      have hSl := HSl.out
      unfold Hid at hSl
      rw [hSl] at hv3 hc3
      subst hv3
      have HSD : Hid (rSpns.rd wo (fun b => w.heap.size ≤ b) [.slice a3 j c3] S) := HW.out.rd (by rw [HSl.out]; omega)
      have HBel : Hid (Below w.heap.size w wo) := bel
      clear hSl hnil3 hc3 HW HS0 bel HR
      go_wp2
      go_loopw [7, 8] (fun o i w4 => ∃ q : Nat, q ≤ j ∧ i = .int .i64 q ∧ Hid (OwnS 44 w4 wo.heap.size o ((S.take q).foldl Ex.glue [])) ∧ Below wo.heap.size wo w4) (fun _ i _ => j - (intOf i).toNat)
      case atStart => exact ⟨0, Nat.zero_le _, rfl, OwnS.nil _ _ _, Below.refl _ _⟩
      case round =>
        obtain ⟨q, hq, rfl, HO, bel5⟩ := hrel
        have B5 : Hid (Below wo.heap.size wo wr) := bel5
        by_cases hqj : q < j
        · have hqs : q < S.length := by rw [HSl.out]; exact hqj
          obtain ⟨g3, o3, rfl, -, hg3, hat3⟩ := rSpns_at (Rep.below HSD.out bel5) (by omega)
          obtain ⟨e0, e1, hin⟩ := hat3 q hqs
          have HNg : Hid _ := Ex.glue_step S q hqs
          have hYm := HMS.out S[q] (List.getElem_mem hqs)
          have hmg := HMG.out q
          have hgl := HGl.out q
          obtain ⟨Y, hY⟩ : ∃ Y, Y = S[q] := ⟨_, rfl⟩
          rw [← hY] at e0 e1 HNg hYm hin
          have HY2 : Hid (In2 Y) := hin
          generalize hGG : (S.take q).foldl Ex.glue [] = G at *
          clear hY hat3 bel5 hin hg3
          unfold Ex.Mid at hYm
          obtain ⟨y1, y2, y3, y4⟩ := hYm
          have hqz : (q : Int) < (j : Int) := by omega
          have HZ5 : Hid (wo.heap.size ≤ wr.heap.size) := B5.out.size
          rcases List.eq_nil_or_concat G with hG | ⟨m, y, hG⟩
          · rw [hG] at HO HNg
            obtain ⟨ao, co, hvo, -, -⟩ := HO.out.slice
            subst hvo
            clear hG hmg hgl
            go_wp2_with fail
            go_quiet (fail)
            have hbz : wo.heap.size ≤ (wr.drewN nq).heap.size := HZ5.out
            have hoa : OwnS 44 ((wr.drewN nq).alloc (.cells #[.int .i64 Y.1, .int .i64 Y.2] 44)) wo.heap.size (.slice ao 0 co) ([]) := (OwnS.drewN HO.out nq).below ((Below.refl _ _).alloc (Nat.le_refl _) _)
            have hsz : wo.heap.size ≤ ((wr.drewN nq).alloc (.cells #[.int .i64 Y.1, .int .i64 Y.2] 44)).heap.size := Nat.le_trans hbz (by simp)
            obtain ⟨v1, w1, hr1, ho1, g1⟩ := run_append_spns hoa ((OwnS.lit 44 (wr.drewN nq) wo.heap.size hbz Y HY2.out).rd (show (1 : Nat) ≤ 8796093021952 by decide)) (by simp only [List.length_nil]; omega) hsz 47
            have HB1 : Hid (Below wo.heap.size wo w1) := ((same_drewN B5.out nq).alloc hbz _).trans (hoa.base_below hsz g1)
            have HR1 : Hid _ := hr1
            have HO1 : Hid (OwnS 44 w1 wo.heap.size v1 ((S.take (q + 1)).foldl Ex.glue [])) := by unfold Hid; rw [HNg.out, Ex.glue_nil]; exact ho1
            clear hr1 ho1 g1 hoa hsz hbz
            go_wp2_with (at_builtin; refine Lib.wpList_append_run _ rfl _ _ _ _ rfl _ _ rfl rfl _ _ HR1.out ?_)
            go_roundw
            case rel => exact ⟨q + 1, by omega, by go_num, HO1, HB1.out⟩
            case measure => simp [intOf]; omega
          · rw [List.concat_eq_append] at hG
            subst hG
            have hym := hmg y (by simp)
            unfold Ex.Mid at hym
            obtain ⟨z1, z2, z3, z4⟩ := hym
            rw [List.length_append, List.length_singleton] at hgl
            obtain ⟨ao, co, hvo, -, -⟩ := HO.out.slice
            subst hvo
            have HO' : Hid (OwnS 44 wr wo.heap.size (.slice ao (m.length + 1) co) (m ++ [y])) := by have h := HO.out; rw [List.length_append] at h; exact h
            rw [show (m ++ [y]).length = m.length + 1 by simp]
            obtain ⟨go, rfl, hgb, hgo, -, hato⟩ := HO'.out.at (by simp)
            obtain ⟨hml, hmy⟩ := Ex.spn_last m y
            obtain ⟨o0, o1, of⟩ := hato m.length hml
            rw [hmy] at o0 o1
            have of1 := of (m.length * 2 + 1)
            have hk1 : (m.length : Int) < ((m.length + 1 : Nat) : Int) := by omega
            have hk2 : (m.length : Int) < (m.length : Int) + 1 := by omega
            clear hato of hmg hml hmy HO
            by_cases hle : Y.1 ≤ y.1 + y.2
            · have hle' : decide (Y.1 ≤ y.1 + y.2) = true := decide_eq_true hle
              have HIn : Hid _ := Ex.glue_in (m := m) hle
              clear hle
              go_wp2_with fail
              go_quiet (fail)
              go_wp2_with fail
              go_region
              go_wp2
              obtain ⟨hml, hmy⟩ := Ex.spn_last m y
              have ho1 : OwnS 44 (wr.drewN nq).drew wo.heap.size (.slice (some ⟨go, 0, none⟩) (m ++ [y]).length co) (m ++ [y]) := by rw [List.length_append]; exact HO'.out.keep (fun _ _ _ => rfl)
              have hs := ho1.setLen hml (m := max y.2 (Y.1 + Y.2 - y.1)) (by unfold In64; omega)
              rw [hmy, List.length_append] at hs
              go_roundw
              case rel => exact ⟨q + 1, by omega, by go_num, by rw [HNg.out, HIn.out]; exact hs, (same_drewN B5.out nq).drew.setCell (p := ⟨go, m.length * 2 + 1, none⟩) hgb _⟩
              case measure => simp [intOf]; omega
            · have hle' : decide (Y.1 ≤ y.1 + y.2) = false := decide_eq_false hle
              have HOu : Hid _ := Ex.glue_out (m := m) hle
              clear hle
              go_wp2_with fail
              go_quiet (fail)
              have hbz : wo.heap.size ≤ (wr.drewN nq).heap.size := HZ5.out
              have hoa : OwnS 44 ((wr.drewN nq).alloc (.cells #[.int .i64 Y.1, .int .i64 Y.2] 44)) wo.heap.size (.slice (some ⟨go, 0, none⟩) (m.length + 1) co) (m ++ [y]) := (OwnS.drewN HO'.out nq).below ((Below.refl _ _).alloc (Nat.le_refl _) _)
              have hsz : wo.heap.size ≤ ((wr.drewN nq).alloc (.cells #[.int .i64 Y.1, .int .i64 Y.2] 44)).heap.size := Nat.le_trans hbz (by simp)
              obtain ⟨v1, w1, hr1, ho1, g1⟩ := run_append_spns hoa ((OwnS.lit 44 (wr.drewN nq) wo.heap.size hbz Y HY2.out).rd (show (1 : Nat) ≤ 8796093021952 by decide)) (by rw [List.length_append]; simp only [List.length_singleton]; omega) hsz 47
              have HB1 : Hid (Below wo.heap.size wo w1) := ((same_drewN B5.out nq).alloc hbz _).trans (hoa.base_below hsz g1)
              have HR1 : Hid _ := hr1
              have HO1 : Hid (OwnS 44 w1 wo.heap.size v1 ((S.take (q + 1)).foldl Ex.glue [])) := by unfold Hid; rw [HNg.out, HOu.out]; exact ho1
              clear hr1 ho1 g1 hoa hsz hbz
              go_wp2_with (at_builtin; refine Lib.wpList_append_run _ rfl _ _ _ _ rfl _ _ rfl rfl _ _ HR1.out ?_)
              go_roundw
              case rel => exact ⟨q + 1, by omega, by go_num, HO1, HB1.out⟩
              case measure => simp [intOf]; omega
        · have hqe : q = j := by omega
          subst hqe
          have HFin : Hid ((S.take q).foldl Ex.glue [] = Ex.join l) := by unfold Hid; rw [HJo.out, List.take_of_length_le (by rw [HSl.out]; exact Nat.le_refl _)]
          have HOf : Hid _ := HO.out.mono HBel.out.size
          clear HO
          go_wp2
          go_ret
          exact ⟨_, rfl, by rw [← HFin.out]; exact HOf.out, on HBel.out B5.out⟩

end Go.Proofs.Ytlpmfbinemmikaa
