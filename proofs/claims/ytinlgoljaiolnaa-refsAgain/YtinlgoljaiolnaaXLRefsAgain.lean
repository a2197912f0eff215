/-
  Maps that are not empty come back from their references, at whatever maps. Conditions: none.
-/
import Derived.Test.YtinlgoljaiolnaaBA05
import Derived.Test.YtinlgoljaiolnaaBA08
import Derived.Test.YtinlgoljaiolnaaBA09
import Derived.Test.YtinlgoljaiolnaaBA10
namespace Go.Proofs.Ytinlgoljaiolnaa
open Go.ChangeShapes Go.WideShapes Go.ChangeAt Go.RowKit
set_option linter.unusedVariables false
theorem Rf.some_take {M : List Mpr} {k : Nat} (hk : k < M.length) : Rf.some9 (M.take (k + 1)) = if M[k].2 = [] then Rf.some9 (M.take k) else Rf.some9 (M.take k) ++ [M[k]] := by
  unfold Rf.some9
  rw [List.take_succ_eq_append_getElem hk, List.filter_append]
  by_cases h : M[k].2 = []
  · rw [if_pos h, List.filter_cons_of_neg (by simp [h]), List.filter_nil, List.append_nil]
  · rw [if_neg h, List.filter_cons_of_pos (by simpa using h), List.filter_nil]
theorem OwnsQ.nil9D (w : World) (base : Nat) (Q : Nat → Prop) : OwnsQ rMp 72 w base Q (.slice none 0 0) [] := ⟨[], World.ownsRow_nil w base 72 rMp.size, rfl⟩
set_option maxRecDepth 20000 in
set_option maxHeartbeats 8000000 in
theorem lagain_walk (a : Option Addr) (n c : Nat) (M : List Mpr) (W : World) (h0 : rMps.rd W (fun b => b < W.heap.size) [.slice a n c] M) :
    Calls Try.prog 5 #[.slice a n c] W fun e W' => e = .returned (.bool true) ∧ Below W.heap.size W W' := by
  have HL : Hid (M.length = n) := (rList_len h0).1
  have HMW : Hid (rMps.rd W (fun b => b < W.heap.size) [.slice a n c] M) := h0
  clear h0
  go_enter Try.func5, Try.ntmps5
  go_wp2_with fail
  refine (alive9_u _).mono ?_
  rintro e w1 ⟨rfl, b1⟩
  have B1 : Hid (Below W.heap.size W w1) := b1
  clear b1
  go_wp2_with fail
  refine (of9_u _ _ (fun b hb => Nat.lt_of_lt_of_le hb B1.out.size) _ _ _ M (Rep.below HMW.out B1.out)).mono ?_
  rintro e w2 ⟨a2, c2, rfl, hr2, b2⟩
  have HM2 : Hid (rMps.rd w2 (fun b => w1.heap.size ≤ b) [.slice a2 n c2] M) := hr2
  have B2 : Hid (Below W.heap.size W w2) := on B1.out b2
  clear hr2 b2
  go_wp2_with fail
  refine (refsRefs_u _ _ _ _ _ M HM2.out).mono ?_
  rintro e w3 ⟨v3, rfl, ho3, b3⟩
  obtain ⟨a3, c3, rfl, -, -⟩ := ho3.slice
  have HO3 : Hid (OwnR 63 w3 w2.heap.size _ _) := ho3
  have B3 : Hid (Below W.heap.size W w3) := on B2.out b3
  clear ho3 b3
  by_cases hE : Rf.whoE allS M = 0
  · have hC := (Rf.whoE_zero.1 hE).1
    have hwf := Rf.who_few (x := allS) hC
    have hn9 : n ≤ 9 := by have := (Rf.checkM_zero.1 hC).1; rw [HL.out] at this; exact this
    have HBk : Hid ((Rf.whoR allS M).length ≤ 4096 → Rf.backE (Rf.whoR allS M) = 0 ∧ Rf.backL (Rf.whoR allS M) = Rf.some9 M) := fun hl => Rf.back_again hC (by rw [show Rf.whoR allS M = Rf.sort (Rf.allR M) from Rf.who_all hC]; exact Rf.sort_perm _) hl
    rw [Rf.whoL_ok hE] at HO3 ⊢
    rw [hE]
    generalize hRR : Rf.whoR allS M = R at *
    obtain ⟨m, hm⟩ : ∃ m, m = R.length := ⟨_, rfl⟩
    have HML : Hid (R.length = m) := hm.symm
    rw [← hm] at HO3 hwf HBk ⊢
    clear hE hC hRR hm HM2
    by_cases h40 : 4096 < m
    · have hz : (4096 : Int) < (m : Int) := by omega
      go_wp2_with (go_at_call 21; refine (num9_u _ _).mono ?_; rintro e w99 ⟨rfl, rfl⟩)
      go_ret
      exact ⟨rfl, B3.out⟩
    · have hz : ¬ (4096 : Int) < (m : Int) := by omega
      obtain ⟨hbE, hbL⟩ := HBk.out (by omega)
      have HbE : Hid (Rf.backE R = 0) := hbE
      have HbL : Hid (Rf.backL R = Rf.some9 M) := hbL
      clear hbE hbL HBk h40
      go_wp2_with (go_at_call 21; refine (num9_u _ _).mono ?_; rintro e w99 ⟨rfl, rfl⟩)
      go_loopw [5, 6] (fun o i wr => ∃ k : Nat, k ≤ n ∧ i = .int .i64 k ∧ Hid (OwnsQ rMp 72 wr w3.heap.size (fun b => b < W.heap.size) o (Rf.some9 (M.take k))) ∧ Below w3.heap.size w3 wr) (fun _ i _ => n - (intOf i).toNat)
      case atStart => exact ⟨0, Nat.zero_le _, rfl, OwnsQ.nil9D _ _ _, Below.refl _ _⟩
      case round =>
        obtain ⟨k, hk, rfl, HO, bel⟩ := hrel
        have BR : Hid (Below w3.heap.size w3 wr) := bel
        by_cases hkn : k < n
        · have hkM : k < M.length := by rw [HL.out]; exact hkn
          obtain ⟨g, off, rfl, -, hgl, hat⟩ := rMps_at HMW.out (by omega)
          obtain ⟨a1, n1, k1, c0', c1', hrx, hi64⟩ := hat k hkM
          have bw : Below W.heap.size W wr := on B3.out bel
          have c0 := (bw.cell (p := ⟨g, off + k * 2, none⟩) hgl).trans c0'
          have c1 := (bw.cell (p := ⟨g, off + k * 2 + 1, none⟩) hgl).trans c1'
          have HOi : Hid (In64 M[k].1) := hi64
          have HX : Hid (rExts.rd wr (fun b => b < W.heap.size) [.slice a1 n1 k1] M[k].2) := Rep.below hrx bw
          have hXl : M[k].2.length = n1 := (rList_len hrx).1
          have HTk : Hid _ := Rf.some_take hkM
          have hlen : (Rf.some9 (M.take k)).length ≤ 9 := Nat.le_trans (List.length_filter_le _ _) (by rw [List.length_take]; omega)
          have hWw : W.heap.size ≤ w3.heap.size := B3.out.size
          have hkz : (k : Int) < (n : Int) := by omega
          have HMk : Hid (M[k] = (M[k].1, M[k].2)) := rfl
          rw [HMk.out] at HTk
          generalize hGO : M[k].1 = O at *
          generalize hGX : M[k].2 = X at *
          have hnil : X = [] ↔ n1 = 0 := by rw [← hXl]; exact List.length_eq_zero_iff.symm
          clear hGO hGX hat hrx hi64 c0' c1' HMk hXl
          by_cases h1 : n1 = 0
          · have HT2 : Hid (Rf.some9 (M.take (k + 1)) = Rf.some9 (M.take k)) := by unfold Hid; rw [HTk.out, if_pos (hnil.2 h1)]
            have h1z : ¬ (0 : Int) < (n1 : Int) := by omega
            clear hnil bel bw
            go_wp2
            go_roundw
            case rel => exact ⟨k + 1, by omega, by go_num, by rw [HT2.out]; exact HO, BR.out⟩
            case measure => simp [intOf]; omega
          · have HT2 : Hid (Rf.some9 (M.take (k + 1)) = Rf.some9 (M.take k) ++ [(O, X)]) := by unfold Hid; rw [HTk.out, if_neg (fun e => h1 (hnil.1 e))]
            have h1z : (0 : Int) < (n1 : Int) := by omega
            obtain ⟨w5, hw5, V5, b5, z5⟩ := boxedRow wr 72 [.int .i64 O, .slice a1 n1 k1]
            have hc : rMp.rd w5 (fun b => b < W.heap.size ∧ u5.ownBlock ≠ some b) [.int .i64 O, .slice a1 n1 k1] (O, X) := map_rd HOi.out (rExts.weaken (Rep.below HX.out b5) (fun b hb _ => ⟨hb, fun e => by have := (HO.out.row b e).1; omega⟩))
            obtain ⟨b6, d6, w6, hr6, ho6, g6, -⟩ := run_append_q (ty := 22) elem_map9D (HO.out.below b5) (ad := ⟨wr.heap.size, 0, none⟩) (fun j u hj => by rw [Addr.add_lit, Nat.zero_add]; exact V5.cell hj) hc (by show _ * 32 ≤ _; omega) (by unfold maxLen; omega) (Nat.le_trans bel.size b5.size)
            have HR6 : Hid _ := hr6
            have HO6 : Hid (OwnsQ rMp 72 w6 w3.heap.size (fun b => b < W.heap.size) (.slice b6 ((Rf.some9 (M.take k)).length + 1) d6) (Rf.some9 (M.take (k + 1)))) := by unfold Hid; rw [HT2.out]; exact ho6
            have B6 : Hid (Below w3.heap.size w3 w6) := (on bel b5).grown g6 (Nat.le_trans bel.size b5.size) (fun j hj => (HO.out.row j hj).1)
            clear hr6 ho6 g6 hc V5 b5 z5 hnil bel bw
            go_wp2_with (at_builtin; refine Lib.wpList_append_run _ rfl _ _ _ _ rfl _ _ rfl rfl _ _ HR6.out ?_)
            go_roundw
            case rel => exact ⟨k + 1, by omega, by go_num, HO6, B6.out⟩
            case measure => simp [intOf]; omega
        · obtain rfl : k = n := by omega
          have HOa : Hid (OwnsQ rMp 72 wr w3.heap.size (fun b => b < W.heap.size) u5 (Rf.some9 M)) := by
            have h := HO.out
            rw [List.take_of_length_le (by rw [HL.out]; exact Nat.le_refl _)] at h
            exact h
          have hsl : (Rf.some9 M).length ≤ 9 := Nat.le_trans (List.length_filter_le _ _) (by rw [HL.out]; exact hn9)
          obtain ⟨a9, c9, hv9, hr9⟩ := OwnsQ.rd (hs := by decide) HOa.out (by show _ * 32 ≤ _; omega)
          have HS9 : Hid (rMps.rd wr (fun b => b < W.heap.size ∨ w3.heap.size ≤ b) [.slice a9 (Rf.some9 M).length c9] (Rf.some9 M)) := hr9
          subst hv9
          have BF : Hid (Below W.heap.size W wr) := on B3.out BR.out
          clear hr9 HO HOa bel
          have HRr : Hid (rRfrs.rd wr (fun b => w2.heap.size ≤ b) [.slice a3 m c3] R) := Rep.below (HO3.out.rd (by rw [HML.out]; omega)) BR.out
          go_wp2_with fail
          refine (refsBack_u _ _ _ _ _ R HRr.out).mono ?_
          rintro e w8 ⟨a8, c8, rfl, hr8, b8⟩
          rw [HbE.out, HbL.out]
          rw [HbL.out] at hr8
          have HG8 : Hid (rMps.rd w8 (fun b => wr.heap.size ≤ b) [.slice a8 (Rf.some9 M).length c8] (Rf.some9 M)) := hr8
          have HS8 : Hid (rMps.rd w8 (fun b => b < W.heap.size ∨ w3.heap.size ≤ b) [.slice a9 (Rf.some9 M).length c9] (Rf.some9 M)) := Rep.below HS9.out b8
          have B8 : Hid (Below W.heap.size W w8) := on BF.out b8
          clear hr8 b8
          go_wp2_with first | (go_at_call 21; refine (num9_u _ _).mono ?_; rintro e w99 ⟨rfl, rfl⟩) | (go_at_call 25; refine (alikeM_u _ _ _ _ _ _ _ _ (Rf.some9 M) HG8.out HS8.out).mono ?_; rintro e w10 ⟨rfl, b10⟩)
          go_ret
          exact ⟨by simp, on B8.out b10⟩
  · rw [Rf.whoL_no hE]
    have e9 : Rf.whoE allS M = 9 := Rf.whoE_nine (fun e => hE (Rf.whoE_zero.2 ⟨e, by decide, by decide⟩))
    rw [e9]
    clear hE e9 HO3
    go_wp2_with (go_at_call 21; refine (num9_u _ _).mono ?_; rintro e w99 ⟨rfl, rfl⟩)
    go_ret
    exact ⟨rfl, B3.out⟩
set_option maxRecDepth 100000 in
theorem lagain_lifted (os : Os) (started : os.Started) (H : Type) (enc : TypeId × Value → H) :
    ReturnsInHanded {} Try.checked os 5 .any (Rows.refsAgainSpec.pre6 enc Try.prog Try.f5 Rows.refsAgainRow.domain false) (Rows.refsAgainSpec.post enc Try.prog Try.f5 false true false false) := by
  refine returnsInHanded_of_change_sized (C := Try.checked) own started (by kernel_rfl) Try.func5
    (ChangeSpec.witness6 (enc := enc) (C := Try.checked) false ⟨#[], #[.slice none 0 0], []⟩ 8 (by kernel_rfl) (by kernel_rfl) (by kernel_rfl) (by kernel_rfl)) ?_
  intro W base args ds gs before hval0 hW _ hsz0 _
  have hsz : (DataW.weightsEach Try.prog (Try.f5.params.toList ++ Rows.refsAgainSpec.plain.varTypes Try.prog) (ds ++ gs)).all (· ≤ reachBytes) = true := hsz0
  clear hsz0
  have hval : ∀ (j : Nat) t v, Try.f5.params[j]? = some t → args[j]? = some v → Value.okWide Try.prog W .any base t v := hval0
  have hW' := hW
  obtain ⟨p, q, hA0, hV, rfl, hfz, hnd⟩ := hW
  have hA : DataW.TrodAll enc Try.prog W 0 (fun _ => true) true Try.f5.params.toList args.toList ds p := hA0
  rw [Try.params5] at hA hval hsz
  obtain ⟨v0, vs0, d0, ds0, p0, q0, hargs, rfl, rfl, h0, r0⟩ := trodAll_cons hA
  obtain ⟨rfl, rfl, rfl⟩ := trodAll_nil r0
  obtain rfl : args = #[v0] := by cases args; simp_all
  obtain ⟨rfl, rfl⟩ := trodVars_none hV
  obtain ⟨a0, len0, cap0, rfl⟩ := okWide_slice Try.underlying22 (hval 0 22 v0 rfl rfl)
  have k0 := h0
  have lt0 : ∀ x ∈ p0, x.block < W.heap.size := by obtain ⟨m, hm⟩ := k0; exact DataW.trod_lt m _ _ _ hm
  obtain ⟨x0, hx0⟩ := opens_maps9.arg h0 hsz (j := 0) rfl rfl
  clear hA0 hval0
  refine (lagain_walk a0 len0 cap0 x0 W hx0).mono fun e W' ⟨he, bel⟩ => ?_
  subst he
  exact ⟨_, rfl, _, _, _, [], _, [], hW', trodAll_mk1 (shut_bool Try.underlying4 _), (trodAll_cons_mk (Below.trod laidOut (by kernel_rfl) (of_decide_eq_true (by kernel_rfl)) k0 bel lt0) trodAll_mk0), rfl, bel.frame _, fun h => by cases h⟩
theorem refsAgain_holds : Rows.RefsAgainSaid :=
  OpenClaim.holds_of_wide 5 Try.f5 rfl rfl rfl rfl rfl rfl rfl ⟨rfl, rfl, rfl, rfl, rfl⟩ rfl rfl rfl rfl rfl (by kernel_rfl) Try.func5 (by kernel_rfl)
    (of_decide_eq_true (by kernel_rfl)) (by unfold Func.isWrapper; first | (rw [if_pos (by decide +kernel)]; kernel_rfl) | (rw [if_neg (by decide +kernel)]; exact ⟨rfl, rfl⟩))
    (fun os started H enc _ => lagain_lifted os started H enc)
end Go.Proofs.Ytinlgoljaiolnaa
