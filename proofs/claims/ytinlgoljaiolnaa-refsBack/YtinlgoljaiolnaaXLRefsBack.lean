/-
  The maps of any references are as the page says, at whatever references; they stay. Conditions: none.
-/
import Derived.Test.YtinlgoljaiolnaaBK05
import Derived.Test.YtinlgoljaiolnaaBK08
import Derived.Test.YtinlgoljaiolnaaBK09
import Derived.Test.YtinlgoljaiolnaaBK13
import Derived.Test.YtinlgoljaiolnaaBK14
import Derived.Test.YtinlgoljaiolnaaBK16
import Derived.Test.YtinlgoljaiolnaaBK17
namespace Go.Proofs.Ytinlgoljaiolnaa
open Go.ChangeShapes Go.WideShapes Go.ChangeAt Go.RowKit
set_option linter.unusedVariables false
theorem run_append_rfr2 {w : World} {base : Nat} {v : Value} {l : List Rfr} (hown : OwnR 63 w base v l) {ad : Addr} {c : Nat} {x : Rfr} (hnews : ∀ j u, (rfr4 x)[j]? = some u → w.cell? (ad.add j) = some u) (hX : In4 x) (hb : l.length ≤ 4398046511000) (hbase : base ≤ w.heap.size) (ty : TypeId) :
    ∃ v' w', (Builtin.append_ #[27, 27] ty #[v, .slice (some ad) 1 c]).run Try.prog w = .ok v' w' ∧ OwnR 63 w' base v' (l ++ [x]) ∧ Grew w w' v v' := by
  obtain ⟨ht, i, z, hi, hz, hsize, hby, hzs, hpos⟩ := elem_rfr
  obtain ⟨v', w', hr, k1, k2, -, k4⟩ := run_append_own_at (P := Try.prog) w base 27 ty 63 i z 4 32 ht hi hz hsize hby hzs (by decide) v l.length (rfrCells l) hown.row ad 1 c (rfr4 x) rfl hnews (rRfr.one (rRfr_rd.2 ⟨rfl, hX⟩ : rRfr.rd w (fun _ => True) _ x)) (by unfold maxLen; omega) (by omega) hbase
  refine ⟨v', w', hr, ⟨?_, fun y hy => ?_⟩, ⟨k2, place_of k4⟩⟩
  · rw [rfrCells_append, List.length_append]
    simpa [rfrCells] using k1
  · rcases List.mem_append.1 hy with hy | hy
    · exact hown.fit y hy
    · rw [List.mem_singleton.1 hy]; exact hX
set_option maxRecDepth 20000 in
set_option maxHeartbeats 8000000 in
theorem lback9_walk (a : Option Addr) (n c : Nat) (l : List Rfr) (W : World) (h0 : rRfrs.rd W (fun b => b < W.heap.size) [.slice a n c] l) :
    Calls Try.prog 4 #[.slice a n c] W fun e W' => e = .returned (.bool true) ∧ Below W.heap.size W W' := by
  obtain ⟨hl, -, -, hb⟩ := rList_len h0
  have hn : n ≤ 4398046510976 := by have : n * 32 ≤ 140737488351232 := hb; omega
  have HL : Hid (l.length = n) := hl
  have HMW : Hid (rRfrs.rd W (fun b => b < W.heap.size) [.slice a n c] l) := h0
  clear h0 hl hb
  go_enter Try.func4, Try.ntmps4
  go_wp2
  go_loopw [3, 4] (fun o i wr => ∃ k : Nat, k ≤ n ∧ i = .int .i64 k ∧ Hid (OwnR 63 wr W.heap.size o (l.take k)) ∧ Below W.heap.size W wr) (fun _ i _ => n - (intOf i).toNat)
  case atStart => exact ⟨0, Nat.zero_le _, rfl, OwnR.nil _ _ _, Below.refl _ _⟩
  case round =>
    obtain ⟨k, hk, rfl, HO, bel⟩ := hrel
    by_cases hkn : k < n
    · have hkl : k < l.length := by rw [HL.out]; exact hkn
      obtain ⟨g, off, rfl, -, hgl, hat⟩ := rRfrs_at (Rep.below HMW.out bel) (by omega)
      obtain ⟨c0, c1, c2, c3, hin⟩ := hat k hkl
      have HTk : Hid (l.take (k + 1) = l.take k ++ [l[k]]) := List.take_succ_eq_append_getElem hkl
      obtain ⟨X, hX⟩ : ∃ X, X = l[k] := ⟨_, rfl⟩
      rw [← hX] at c0 c1 c2 c3 hin HTk
      obtain ⟨w5, hw5, V5, b5, z5⟩ := boxedRow wr 63 [.int .i64 X.1, .int .i64 X.2.1, .int .i64 X.2.2.1, .int .i64 X.2.2.2]
      have ho5 := HO.out.below b5
      have hs5 : W.heap.size ≤ w5.heap.size := Nat.le_trans bel.size b5.size
      obtain ⟨v6, w6, hr6, ho6, g6⟩ := run_append_rfr2 ho5 (ad := ⟨wr.heap.size, 0, none⟩) (c := 1) (x := X) (fun j u hj => by rw [Addr.add_lit, Nat.zero_add]; exact V5.cell hj) hin (by rw [List.length_take]; omega) hs5 27
      have HR6 : Hid _ := hr6
      have HO6 : Hid (OwnR 63 w6 W.heap.size v6 (l.take (k + 1))) := by unfold Hid; rw [HTk.out]; exact ho6
      have B6 : Hid (Below W.heap.size W w6) := (on bel b5).trans (ho5.base_below hs5 g6)
      have hkz : (k : Int) < (n : Int) := by omega
      clear hr6 ho6 g6 ho5 hs5 V5 b5 z5 hX hat hin hgl bel HO
      go_wp2_with (at_builtin; refine Lib.wpList_append_run _ rfl _ _ _ _ rfl _ _ rfl rfl _ _ HR6.out ?_)
      go_roundw
      case rel => exact ⟨k + 1, by omega, by go_num, HO6, B6.out⟩
      case measure => simp [intOf]; omega
    · obtain rfl : n = k := by omega
      have HOa : Hid (OwnR 63 wr W.heap.size u3 l) := by
        have h := HO.out
        rw [List.take_of_length_le (by rw [HL.out]; exact Nat.le_refl _)] at h
        exact h
      obtain ⟨a3, c3, hv3, -, -⟩ := HOa.out.slice
      rw [HL.out] at hv3
      subst hv3
      have HI : Hid (rRfrs.rd wr (fun b => W.heap.size ≤ b) [.slice a3 n c3] l) := HOa.out.rd (by rw [HL.out]; exact hn)
      have B0 : Hid (Below W.heap.size W wr) := bel
      clear HO HOa bel
      go_wp2_with fail
      refine (refsBack_u _ _ _ _ _ l HI.out).mono ?_
      rintro e w5 ⟨a5, c5, rfl, hr5, b5⟩
      have H5 : Hid (rMps.rd w5 (fun b => wr.heap.size ≤ b) [.slice a5 (Rf.backL l).length c5] (Rf.backL l)) := hr5
      have HI5 : Hid (rRfrs.rd w5 (fun b => W.heap.size ≤ b) [.slice a3 n c3] l) := Rep.below HI.out b5
      have B5 : Hid (Below W.heap.size W w5) := on B0.out b5
      clear hr5 b5 HI
      go_wp2_with fail
      refine (docBack_u _ _ _ _ _ l (Rep.below HMW.out B5.out)).mono ?_
      rintro e w7 ⟨a7, c7, rfl, hr7, b7⟩
      have H7 : Hid (rMps.rd w7 (fun b => w5.heap.size ≤ b) [.slice a7 (Rf.backL l).length c7] (Rf.backL l)) := hr7
      have H57 : Hid (rMps.rd w7 (fun b => wr.heap.size ≤ b) [.slice a5 (Rf.backL l).length c5] (Rf.backL l)) := Rep.below H5.out b7
      have HI7 : Hid (rRfrs.rd w7 (fun b => W.heap.size ≤ b) [.slice a3 n c3] l) := Rep.below HI5.out b7
      have B7 : Hid (Below W.heap.size W w7) := on B5.out b7
      clear hr7 b7 H5 HI5
      generalize hE : Rf.backE l = E at *
      generalize hLL : Rf.backL l = LL at *
      clear hE hLL
      go_wp2_with fail
      refine (alikeM_u _ _ _ _ _ _ _ _ LL H57.out H7.out).mono ?_
      rintro e w8 ⟨rfl, b8⟩
      have HI8 : Hid (rRfrs.rd w8 (fun b => W.heap.size ≤ b) [.slice a3 n c3] l) := Rep.below HI7.out b8
      have B8 : Hid (Below W.heap.size W w8) := on B7.out b8
      clear b8 HI7 H57 H7
      go_wp2_with (go_at_call 21; refine (num9_u _ _).mono ?_; rintro e w99 ⟨rfl, rfl⟩)
      refine (sameRefs_u _ _ _ _ _ _ _ _ l HI8.out (Rep.below HMW.out B8.out)).mono ?_
      rintro e w9 ⟨rfl, b9⟩
      have B9 : Hid (Below W.heap.size W w9) := on B8.out b9
      clear b9 HI8
      go_wp2_with fail
      refine (alive9_u _).mono ?_
      rintro e w10 ⟨rfl, b10⟩
      go_wp2
      go_ret
      exact ⟨by simp, on B9.out b10⟩
set_option maxRecDepth 100000 in
theorem lback9_lifted (os : Os) (started : os.Started) (H : Type) (enc : TypeId × Value → H) :
    ReturnsInHanded {} Try.checked os 4 .any (Rows.refsBackSpec.pre6 enc Try.prog Try.f4 Rows.refsBackRow.domain false) (Rows.refsBackSpec.post enc Try.prog Try.f4 false true false false) := by
  refine returnsInHanded_of_change_sized (C := Try.checked) own started (by kernel_rfl) Try.func4
    (ChangeSpec.witness6 (enc := enc) (C := Try.checked) false ⟨#[], #[.slice none 0 0], []⟩ 8 (by kernel_rfl) (by kernel_rfl) (by kernel_rfl) (by kernel_rfl)) ?_
  intro W base args ds gs before hval0 hW _ hsz0 _
  have hsz : (DataW.weightsEach Try.prog (Try.f4.params.toList ++ Rows.refsBackSpec.plain.varTypes Try.prog) (ds ++ gs)).all (· ≤ reachBytes) = true := hsz0
  clear hsz0
  have hval : ∀ (j : Nat) t v, Try.f4.params[j]? = some t → args[j]? = some v → Value.okWide Try.prog W .any base t v := hval0
  have hW' := hW
  obtain ⟨p, q, hA0, hV, rfl, hfz, hnd⟩ := hW
  have hA : DataW.TrodAll enc Try.prog W 0 (fun _ => true) true Try.f4.params.toList args.toList ds p := hA0
  rw [Try.params4] at hA hval hsz
  obtain ⟨v0, vs0, d0, ds0, p0, q0, hargs, rfl, rfl, h0, r0⟩ := trodAll_cons hA
  obtain ⟨rfl, rfl, rfl⟩ := trodAll_nil r0
  obtain rfl : args = #[v0] := by cases args; simp_all
  obtain ⟨rfl, rfl⟩ := trodVars_none hV
  obtain ⟨a0, len0, cap0, rfl⟩ := okWide_slice Try.underlying31 (hval 0 31 v0 rfl rfl)
  have k0 := h0
  have lt0 : ∀ x ∈ p0, x.block < W.heap.size := by obtain ⟨m, hm⟩ := k0; exact DataW.trod_lt m _ _ _ hm
  obtain ⟨x0, hx0⟩ := opens_refs9.arg h0 hsz (j := 0) rfl rfl
  clear hA0 hval0
  refine (lback9_walk a0 len0 cap0 x0 W hx0).mono fun e W' ⟨he, bel⟩ => ?_
  subst he
  exact ⟨_, rfl, _, _, _, [], _, [], hW', trodAll_mk1 (shut_bool Try.underlying4 _), (trodAll_cons_mk (Below.trod laidOut (by kernel_rfl) (of_decide_eq_true (by kernel_rfl)) k0 bel lt0) trodAll_mk0), rfl, bel.frame _, fun h => by cases h⟩
theorem refsBack_holds : Rows.RefsBackSaid :=
  OpenClaim.holds_of_wide 4 Try.f4 rfl rfl rfl rfl rfl rfl rfl ⟨rfl, rfl, rfl, rfl, rfl⟩ rfl rfl rfl rfl rfl (by kernel_rfl) Try.func4 (by kernel_rfl)
    (of_decide_eq_true (by kernel_rfl)) (by unfold Func.isWrapper; first | (rw [if_pos (by decide +kernel)]; kernel_rfl) | (rw [if_neg (by decide +kernel)]; exact ⟨rfl, rfl⟩))
    (fun os started H enc _ => lback9_lifted os started H enc)
end Go.Proofs.Ytinlgoljaiolnaa
