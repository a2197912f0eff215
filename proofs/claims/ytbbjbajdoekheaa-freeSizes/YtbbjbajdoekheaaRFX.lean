/-
  The document's own: a span more, that touches none but by its ends. Conditions: those that each contract names.
-/
import Derived.Test.YtbbjbajdoekheaaRFW
namespace Go.Proofs.Ytbbjbajdoekheaa
open Go.RowKit
set_option linter.unusedVariables false

theorem Fr.withR_join1 {x y : Spn} {ld : Bool} {l : List Spn} (h : y.1 + y.2 = x.1) : Fr.withR x ld (y :: l) = Fr.withR (y.1, y.2 + x.2) ld l := by rw [Fr.withR, if_pos h]
theorem Fr.withR_join2 {x y : Spn} {ld : Bool} {l : List Spn} (h : y.1 + y.2 ≠ x.1) (h2 : x.1 + x.2 = y.1) : Fr.withR x ld (y :: l) = Fr.withR (x.1, x.2 + y.2) ld l := by rw [Fr.withR, if_neg h, if_pos h2]
theorem Fr.withR_low {x y : Spn} {ld : Bool} {l : List Spn} (h : y.1 + y.2 ≠ x.1) (h2 : x.1 + x.2 ≠ y.1) (h3 : y.1 < x.1) : Fr.withR x ld (y :: l) = y :: Fr.withR x ld l := by rw [Fr.withR, if_neg h, if_neg h2, if_pos h3]
theorem Fr.withR_first {x y : Spn} {l : List Spn} (h : y.1 + y.2 ≠ x.1) (h2 : x.1 + x.2 ≠ y.1) (h3 : ¬ y.1 < x.1) : Fr.withR x false (y :: l) = x :: y :: Fr.withR x true l := by rw [Fr.withR, if_neg h, if_neg h2, if_neg h3]; rfl
theorem Fr.withR_more {x y : Spn} {l : List Spn} (h : y.1 + y.2 ≠ x.1) (h2 : x.1 + x.2 ≠ y.1) (h3 : ¬ y.1 < x.1) : Fr.withR x true (y :: l) = y :: Fr.withR x true l := by rw [Fr.withR, if_neg h, if_neg h2, if_neg h3]; rfl

/-- A variable below the base, written: the rest stays. -/
theorem OwnS.set_low {e : TypeId} {w : World} {base b i : Nat} {v u : Value} {l : List Spn} (h : OwnS e w base v l) (hb : b < base) : OwnS e (w.setCell ⟨b, i, none⟩ u) base v l :=
  h.keep fun g hg _ => Below.heap_setCell _ _ _ _ (fun e => by have e : g = b := e; omega)

set_option maxRecDepth 20000 in
set_option maxHeartbeats 8000000 in
theorem with_u (w : World) (P : Nat → Prop) (a : Option Addr) (n c : Nat) (l : List Spn) (hL : rSpns.rd w P [.slice a n c] l) (hM : ∀ y ∈ l, Fr.Mid y) (hn : n ≤ 100000) (x : Spn) (hx : Fr.Mid x) :
    Calls Try.prog 49 #[.slice a n c, .agg #[.int .i64 x.1, .int .i64 x.2]] w fun e w' => ∃ v, e = .returned v ∧ OwnS 26 w' w.heap.size v (Fr.withR x false l) ∧ Below w.heap.size w w' := by
  obtain ⟨hl, hnc, hnil, hb⟩ := rList_len hL
  have HL : Hid (l.length = n) := hl
  have HR : Hid _ := hL
  have HM : Hid _ := hM
  have HX : Hid (Fr.Mid x) := hx
  obtain ⟨w1, hw1, V1, b1, z1⟩ := boxedRow w 26 [.int .i64 x.1, .int .i64 x.2]
  have HV1 : Hid (Row w1 w.heap.size 26 [.int .i64 x.1, .int .i64 x.2]) := V1
  have B1 : Hid (Below w.heap.size w w1) := b1
  clear hl hnc hnil hb hL hM V1 b1 z1 hx
  go_enter Try.func49, Try.ntmps49
  go_wp2
  go_loopw [5, 6, 7] (fun o d i wr => ∃ (k : Nat) (D : List Spn) (t : Spn) (ld : Bool), k ≤ n ∧ i = .int .i64 k ∧ d = .bool ld ∧ Hid (OwnS 26 wr (w.heap.size + 1) o D) ∧ Hid (Row wr w.heap.size 26 [.int .i64 t.1, .int .i64 t.2]) ∧ Hid (Fr.Mid t) ∧ Hid (D.length ≤ 2 * k) ∧ Hid (Fr.withR x false l = D ++ Fr.withR t ld (l.drop k)) ∧ Hid (Below w.heap.size w wr)) (fun _ _ i _ => n - (intOf i).toNat)
  case atStart => exact ⟨0, [], x, false, Nat.zero_le _, rfl, rfl, OwnS.nil _ _ _, HV1, HX, Nat.zero_le _, rfl, B1⟩
  case round =>
    obtain ⟨k, D, t, ld, hk, rfl, rfl, HO, HV, HT, HDl, HE, HB⟩ := hrel
    have hBz : w.heap.size + 1 ≤ wr.heap.size := HV.out.lt
    have HBz : Hid (w.heap.size + 1 ≤ wr.heap.size) := hBz
    have ht := HT.out
    unfold Fr.Mid at ht
    obtain ⟨t1, t2, t3⟩ := ht
    have hdl : D.length ≤ 2 * k := HDl.out
    obtain ⟨oa, oc, hov, -, -⟩ := HO.out.slice
    subst hov
    clear hBz
    by_cases hlt : k < n
    · have hkl : k < l.length := by rw [HL.out]; exact hlt
      obtain ⟨g, off, rfl, -, hgl, hat⟩ := rSpns_at HR.out (by omega)
      obtain ⟨c0, c1, -⟩ := hat k hkl
      have hm := HM.out l[k] (List.getElem_mem hkl)
      have hdr : l.drop k = l[k] :: l.drop (k + 1) := List.drop_eq_getElem_cons hkl
      have HE2 : Hid (Fr.withR x false l = D ++ Fr.withR t ld (l[k] :: l.drop (k + 1))) := by unfold Hid; rw [← hdr]; exact HE.out
      obtain ⟨y, hX⟩ : ∃ y, y = l[k] := ⟨_, rfl⟩
      rw [← hX] at c0 c1 hm HE2
      have HMy : Hid (Fr.Mid y) := hm
      have HC : Hid (∀ {w' : World}, Below w.heap.size w w' → w'.cell? ⟨g, off + k * 2, none⟩ = some (.int .i64 y.1) ∧ w'.cell? ⟨g, off + k * 2 + 1, none⟩ = some (.int .i64 y.2)) :=
        fun b => ⟨(b.cell (p := ⟨g, off + k * 2, none⟩) hgl).trans c0, (b.cell (p := ⟨g, off + k * 2 + 1, none⟩) hgl).trans c1⟩
      unfold Fr.Mid at hm
      obtain ⟨m1, m2, m3⟩ := hm
      have hkz : (k : Int) < (n : Int) := by omega
      obtain ⟨s0, s1⟩ := HC.out HB.out
      obtain ⟨s2, s3⟩ := HV.out.two
      have SK : Hid (∀ {w' : World}, Below w.heap.size w w' → Row w' w.heap.size 26 [.int .i64 t.1, .int .i64 t.2] → w'.cell? ⟨w.heap.size, 0, none⟩ = some (.int .i64 t.1) ∧ w'.cell? ⟨w.heap.size, 1, none⟩ = some (.int .i64 t.2) ∧ w'.cell? ⟨g, off + k * 2, none⟩ = some (.int .i64 y.1) ∧ w'.cell? ⟨g, off + k * 2 + 1, none⟩ = some (.int .i64 y.2)) :=
        fun b V => ⟨V.two.1, V.two.2, (HC.out b).1, (HC.out b).2⟩
      have f2 := HV.out.frozen 0
      have f3 := HV.out.frozen 1
      have ew1 : IntKind.i64.wrap (y.1 + y.2) = y.1 + y.2 := by rw [IntKind.wrap_i64]; omega
      have ew2 : IntKind.i64.wrap (t.1 + t.2) = t.1 + t.2 := by rw [IntKind.wrap_i64]; omega
      have ew3 : IntKind.i64.wrap (y.2 + t.2) = y.2 + t.2 := by rw [IntKind.wrap_i64]; omega
      have ew4 : IntKind.i64.wrap (t.2 + y.2) = t.2 + y.2 := by rw [IntKind.wrap_i64]; omega
      clear hX hat c0 c1 hgl hdr HE HDl HT
      by_cases h1 : y.1 + y.2 = t.1
      · have HN : Hid (Fr.withR x false l = D ++ Fr.withR (y.1, y.2 + t.2) ld (l.drop (k + 1))) := by unfold Hid; rw [HE2.out, Fr.withR_join1 h1]
        have HT2 : Hid (Fr.Mid (y.1, y.2 + t.2)) := by unfold Hid Fr.Mid; simp only; omega
        have hb1 : (y.1 + y.2 == t.1) = true := beq_iff_eq.2 h1
        clear h1 HE2
        go_wp2_with fail
        go_quiet (fail)
        go_wp2_with fail
        go_region
        go_wp2
        go_roundw
        case rel => exact ⟨k + 1, D, (y.1, y.2 + t.2), ld, by omega, by go_num, rfl, ((HO.out.drewN _).set_low (Nat.lt_succ_self _)).set_low (Nat.lt_succ_self _), ((show Row (wr.drewN (nq + 1)) _ _ _ from HV.out.keep rfl).set 0 (.int .i64 y.1)).set 1 (.int .i64 (y.2 + t.2)), HT2, (show D.length ≤ 2 * (k + 1) by omega), HN, ((same_drewN HB.out _).setCell (p := ⟨w.heap.size, 0, none⟩) (Nat.le_refl _) _).setCell (p := ⟨w.heap.size, 1, none⟩) (Nat.le_refl _) _⟩
        case measure => simp [intOf]; omega
      · have hb1 : (y.1 + y.2 == t.1) = false := beq_eq_false_iff_ne.2 h1
        by_cases h2 : t.1 + t.2 = y.1
        · have HN : Hid (Fr.withR x false l = D ++ Fr.withR (t.1, t.2 + y.2) ld (l.drop (k + 1))) := by unfold Hid; rw [HE2.out, Fr.withR_join2 h1 h2]
          have HT2 : Hid (Fr.Mid (t.1, t.2 + y.2)) := by unfold Hid Fr.Mid; simp only; omega
          have hb2 : (t.1 + t.2 == y.1) = true := beq_iff_eq.2 h2
          clear h1 h2 HE2
          go_wp2_with fail
          go_quiet (fail)
          rename Nat => n1
          go_wp2_with fail
          go_quiet (fail)
          go_wp2_with fail
          go_region
          go_wp2
          go_roundw
          case rel => exact ⟨k + 1, D, (t.1, t.2 + y.2), ld, by omega, by go_num, rfl, (HO.out.drewN _).set_low (Nat.lt_succ_self _), (show Row (wr.drewN (n1 + nq + 1)) _ _ _ from HV.out.keep rfl).set 1 (.int .i64 (t.2 + y.2)), HT2, (show D.length ≤ 2 * (k + 1) by omega), HN, (same_drewN HB.out _).setCell (p := ⟨w.heap.size, 1, none⟩) (Nat.le_refl _) _⟩
          case measure => simp [intOf]; omega
        · have hb2 : (t.1 + t.2 == y.1) = false := beq_eq_false_iff_ne.2 h2
          by_cases h3 : y.1 < t.1
          · have HN : Hid (Fr.withR x false l = D ++ [y] ++ Fr.withR t ld (l.drop (k + 1))) := by unfold Hid; rw [HE2.out, Fr.withR_low h1 h2 h3, List.append_assoc]; rfl
            have hb3 : decide (y.1 < t.1) = true := decide_eq_true h3
            clear h1 h2 h3 HE2
            go_wp2_with fail
            go_quiet (fail)
            rename Nat => n1
            go_wp2_with fail
            go_quiet (fail)
            rename Nat => n2
            go_wp2_with fail
            go_quiet (fail)
            obtain ⟨a6, n6, c6, w8, hr1, ho1, hb8, g8⟩ := append_spn (wr.drewN (n1 + n2 + nq)) (w.heap.size + 1) _ D (HO.out.drewN _) y (by unfold In2 In64; omega) (by omega) HBz.out
            have HR8 : Hid _ := hr1
            have HO8 : Hid (OwnS 26 w8 (w.heap.size + 1) (.slice a6 n6 c6) (D ++ [y])) := ho1
            have HB8 : Hid (Below w.heap.size w w8) := (same_drewN HB.out (n1 + n2 + nq)).trans (hb8.mono (Nat.le_succ _))
            have HV8 : Hid (Row w8 w.heap.size 26 [.int .i64 t.1, .int .i64 t.2]) := (show Row (wr.drewN (n1 + n2 + nq)) _ _ _ from HV.out.keep rfl).keep (hb8.block _ (Nat.lt_succ_self _))
            have HD8 : Hid ((D ++ [y]).length ≤ 2 * (k + 1)) := by unfold Hid; rw [List.length_append, List.length_singleton]; omega
            have HTt : Hid (Fr.Mid t) := by unfold Hid Fr.Mid; omega
            clear hr1 ho1 hb8 g8
            go_wp2_with (at_builtin; refine Lib.wpList_append_run _ rfl _ _ _ _ rfl _ _ rfl rfl _ _ HR8.out ?_)
            go_roundw
            case rel => exact ⟨k + 1, D ++ [y], t, ld, by omega, by go_num, rfl, HO8, HV8, HTt, HD8, HN, HB8⟩
            case measure => simp [intOf]; omega
          · have hb3 : decide (y.1 < t.1) = false := decide_eq_false h3
            have HTt : Hid (Fr.Mid t) := by unfold Hid Fr.Mid; omega
            cases ld with
            | true =>
              have HN : Hid (Fr.withR x false l = D ++ [y] ++ Fr.withR t true (l.drop (k + 1))) := by unfold Hid; rw [HE2.out, Fr.withR_more h1 h2 h3, List.append_assoc]; rfl
              clear h1 h2 h3 HE2
              go_wp2_with fail
              go_quiet (fail)
              rename Nat => n1
              go_wp2_with fail
              go_quiet (fail)
              rename Nat => n2
              go_wp2_with fail
              go_quiet (fail)
              obtain ⟨a6, n6, c6, w8, hr1, ho1, hb8, g8⟩ := append_spn (wr.drewN (n1 + n2 + nq)) (w.heap.size + 1) _ D (HO.out.drewN _) y (by unfold In2 In64; omega) (by omega) HBz.out
              have HR8 : Hid _ := hr1
              have HO8 : Hid (OwnS 26 w8 (w.heap.size + 1) (.slice a6 n6 c6) (D ++ [y])) := ho1
              have HB8 : Hid (Below w.heap.size w w8) := (same_drewN HB.out (n1 + n2 + nq)).trans (hb8.mono (Nat.le_succ _))
              have HV8 : Hid (Row w8 w.heap.size 26 [.int .i64 t.1, .int .i64 t.2]) := (show Row (wr.drewN (n1 + n2 + nq)) _ _ _ from HV.out.keep rfl).keep (hb8.block _ (Nat.lt_succ_self _))
              have HD8 : Hid ((D ++ [y]).length ≤ 2 * (k + 1)) := by unfold Hid; rw [List.length_append, List.length_singleton]; omega
              clear hr1 ho1 hb8 g8
              go_wp2_with (at_builtin; refine Lib.wpList_append_run _ rfl _ _ _ _ rfl _ _ rfl rfl _ _ HR8.out ?_)
              go_roundw
              case rel => exact ⟨k + 1, D ++ [y], t, true, by omega, by go_num, rfl, HO8, HV8, HTt, HD8, HN, HB8⟩
              case measure => simp [intOf]; omega
            | false =>
              have HN : Hid (Fr.withR x false l = D ++ [t] ++ [y] ++ Fr.withR t true (l.drop (k + 1))) := by unfold Hid; rw [HE2.out, Fr.withR_first h1 h2 h3, List.append_assoc, List.append_assoc]; rfl
              clear h1 h2 h3 HE2
              go_wp2_with fail
              go_quiet (fail)
              rename Nat => n1
              go_wp2_with fail
              go_quiet (fail)
              rename Nat => n2
              go_wp2_with fail
              go_quiet (fail)
              obtain ⟨a6, n6, c6, w8, hr1, ho1, hb8, g8⟩ := append_spn (wr.drewN (n1 + n2 + nq)) (w.heap.size + 1) _ D (HO.out.drewN _) t (by unfold In2 In64; omega) (by omega) HBz.out
              have HR8 : Hid _ := hr1
              have HO8 : Hid (OwnS 26 w8 (w.heap.size + 1) (.slice a6 n6 c6) (D ++ [t])) := ho1
              have HB8 : Hid (Below w.heap.size w w8) := (same_drewN HB.out (n1 + n2 + nq)).trans (hb8.mono (Nat.le_succ _))
              have HV8 : Hid (Row w8 w.heap.size 26 [.int .i64 t.1, .int .i64 t.2]) := (show Row (wr.drewN (n1 + n2 + nq)) _ _ _ from HV.out.keep rfl).keep (hb8.block _ (Nat.lt_succ_self _))
              have hz8 : w.heap.size + 1 ≤ w8.heap.size := HV8.out.lt
              obtain ⟨a7, n7, c7, w9, hr2, ho2, hb9, g9⟩ := append_spn w8 (w.heap.size + 1) _ (D ++ [t]) HO8.out y (by unfold In2 In64; omega) (by rw [List.length_append, List.length_singleton]; omega) hz8
              have HR9 : Hid _ := hr2
              have HO9 : Hid (OwnS 26 w9 (w.heap.size + 1) (.slice a7 n7 c7) (D ++ [t] ++ [y])) := ho2
              have HB9 : Hid (Below w.heap.size w w9) := HB8.out.trans (hb9.mono (Nat.le_succ _))
              have HV9 : Hid (Row w9 w.heap.size 26 [.int .i64 t.1, .int .i64 t.2]) := HV8.out.keep (hb9.block _ (Nat.lt_succ_self _))
              have HD9 : Hid ((D ++ [t] ++ [y]).length ≤ 2 * (k + 1)) := by unfold Hid; rw [List.length_append, List.length_append, List.length_singleton, List.length_singleton]; omega
              obtain ⟨r0, r1⟩ := HC.out HB8.out
              clear hr1 ho1 hb8 g8 hr2 ho2 hb9 g9 hz8
              go_wp2_with (at_builtin; first | refine Lib.wpList_append_run _ rfl _ _ _ _ rfl _ _ rfl rfl _ _ HR8.out ?_ | refine Lib.wpList_append_run _ rfl _ _ _ _ rfl _ _ rfl rfl _ _ HR9.out ?_)
              go_roundw
              case rel => exact ⟨k + 1, D ++ [t] ++ [y], t, true, by omega, by go_num, rfl, HO9, HV9, HTt, HD9, HN, HB9⟩
              case measure => simp [intOf]; omega
    · obtain rfl : k = n := by omega
      have hdr : l.drop k = [] := List.drop_eq_nil_of_le (by rw [HL.out]; exact Nat.le_refl _)
      obtain ⟨s2, s3⟩ := HV.out.two
      cases ld with
      | true =>
        have HF : Hid (Fr.withR x false l = D) := by unfold Hid; rw [HE.out, hdr, show Fr.withR t true [] = [] from rfl, List.append_nil]
        clear hdr
        go_wp2
        go_ret
        exact ⟨_, rfl, by rw [HF.out]; exact HO.out.mono (Nat.le_succ _), HB.out⟩
      | false =>
        have HF : Hid (Fr.withR x false l = D ++ [t]) := by unfold Hid; rw [HE.out, hdr]; rfl
        obtain ⟨a6, n6, c6, w8, hr1, ho1, hb8, g8⟩ := append_spn wr (w.heap.size + 1) _ D HO.out t (by unfold In2 In64; omega) (by omega) HBz.out
        have HR8 : Hid _ := hr1
        have HO8 : Hid (OwnS 26 w8 (w.heap.size + 1) (.slice a6 n6 c6) (D ++ [t])) := ho1
        have HB8 : Hid (Below w.heap.size w w8) := HB.out.trans (hb8.mono (Nat.le_succ _))
        clear hdr hr1 ho1 hb8 g8
        go_wp2_with (at_builtin; refine Lib.wpList_append_run _ rfl _ _ _ _ rfl _ _ rfl rfl _ _ HR8.out ?_)
        go_ret
        exact ⟨_, rfl, by rw [HF.out]; exact HO8.out.mono (Nat.le_succ _), HB8.out⟩

end Go.Proofs.Ytbbjbajdoekheaa
