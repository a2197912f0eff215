/-
  A sector of which one octet is another is no superblock. Conditions: none.
-/
import Derived.Test.YtdgnkpmjjapmpaaSAlive
import Derived.Test.YtdgnkpmjjapmpaaSFrame
import Derived.Test.YtdgnkpmjjapmpaaSEq
import Derived.Test.YtdgnkpmjjapmpaaSRot
import Derived.Test.YtdgnkpmjjapmpaaSTurn
namespace Go.Proofs.Ytdgnkpmjjapmpaa
open Go.ChangeShapes Go.WideShapes Go.ChangeAt Go.RowKit
set_option linter.unusedVariables false

set_option maxHeartbeats 4000000 in
theorem srot_walk (cs : List Value) (s : Super) (at_ : Int) (t : Int) (W : World) (h0 : rSuper.rd W (fun b => b < W.heap.size) cs s) (hp1 : -9223372036854775808 ≤ at_) (hp2 : at_ ≤ 9223372036854775807) (ht1 : 0 ≤ t) (ht2 : t ≤ 255) :
    Calls Try.prog 8 #[.agg cs.toArray, .int .i64 at_, .int .u8 t] W fun e W' => e = .returned (.bool true) ∧ Below W.heap.size W W' := by
  have HS0 : Hid _ := h0
  obtain rfl := rSuper_cells h0
  clear h0
  obtain ⟨T, rfl⟩ := byte_of t ht1 ht2
  clear ht1 ht2
  obtain ⟨w0, hw0, V0, b0, -⟩ := boxedRow W 23 [.int .i64 s.1, .int .i64 s.2.1, .int .i64 s.2.2.1, .int .i64 s.2.2.2.1, .int .i64 s.2.2.2.2.1, .int .i64 s.2.2.2.2.2.1, .int .i64 s.2.2.2.2.2.2]
  have VS : Hid (Row _ _ _ _) := V0
  have B0 : Hid (Below W.heap.size W w0) := b0
  clear V0 b0
  go_enter Try.func8, Try.ntmps8
  go_wp2_with fail
  refine (alive4_u _).mono ?_
  rintro e w1 ⟨rfl, b1⟩
  have VS1 : Hid (Row _ _ _ _) := VS.out.below b1
  have B1 : Hid (Below W.heap.size W w1) := on B0.out b1
  clear b1 B0 VS hw0
  have X1 := VS1.out
  have cs0 := X1.cell (j := 0) rfl
  have cs1 := X1.cell (j := 1) rfl
  have cs2 := X1.cell (j := 2) rfl
  have cs3 := X1.cell (j := 3) rfl
  have cs4 := X1.cell (j := 4) rfl
  have cs5 := X1.cell (j := 5) rfl
  have cs6 := X1.cell (j := 6) rfl
  clear X1
  go_wp2_with fail
  cases hs : Sup.ok s
  · refine (encode_no _ _ _ s (Rep.below HS0.out B1.out) hs).mono ?_
    rintro e w2 ⟨rfl, b2⟩
    have B2 : Hid (Below W.heap.size W w2) := on B1.out b2
    clear b2 B1 VS1 hs
    clear cs0 cs1 cs2 cs3 cs4 cs5 cs6
    go_wp2
    go_ret
    exact ⟨rfl, B2.out⟩
  · refine (encode_ok _ _ _ s (Rep.below HS0.out B1.out) hs).mono ?_
    rintro e w2 ⟨xa, xc, rfl, ho, b2⟩
    have B2 : Hid (Below W.heap.size W w2) := on B1.out b2
    have HOK : Hid _ := hs
    clear hs VS1
    clear cs0 cs1 cs2 cs3 cs4 cs5 cs6
    by_cases hT : T = 0
    · subst hT
      clear ho
      go_wp2
      go_ret
      exact ⟨rfl, B2.out⟩
    · have hne : ((T.toNat : Int) == 0) = false := beq_eq_false_iff_ne.2 (fun h => hT (UInt8.toNat_inj.1 (by simpa using h)))
      have HT : Hid _ := hT
      clear hT
      obtain ⟨g, rfl, hg⟩ := owns_row64 ho
      have B1s := B1.out.size
      have HG : Hid (W.heap.size ≤ g) := Nat.le_trans B1s hg
      obtain ⟨K, hK, hKe⟩ := turn_at at_
      have hl := Sup.enc_length HOK.out
      have hcell := owned_cell ho (i := K) (by omega)
      have hfro := owned_frozen ho (i := K)
      have ho2 := store_xor T (i := K) (by omega) ho
      have HB2 : Hid (Below W.heap.size W (w2.setCell ⟨g, K, none⟩ (.int .u8 (bits BinOp.xor IntKind.u8 (((Sup.enc s).getD K 0).toNat : Int) (T.toNat : Int))))) := B2.out.setCell (p := ⟨g, K, none⟩) HG.out _
      obtain ⟨hY, hYc, hYn⟩ := owns_isB ho2
      have HY : Hid (IsB _ _ _ _) := hY
      have HD : Hid _ := Sup.decode_turned HOK.out K hK T HT.out
      clear ho ho2 hY B1s hg hl
      have hq : ∀ w, (Op.equalIn 10000 29 (.agg #[.int .i64 0, .int .i64 0, .int .i64 0, .int .i64 0, .int .i64 0, .int .i64 0, .int .i64 0]) (.agg #[.int .i64 0, .int .i64 0, .int .i64 0, .int .i64 0, .int .i64 0, .int .i64 0, .int .i64 0])).run Try.prog w = .ok true w := fun w => equal_sup w Sup.zero Sup.zero
      go_wp2_with (first
        | (go_at_call 17; refine (num4_u _ _).mono ?_; rintro e w5 ⟨rfl, rfl⟩)
        | (go_at_call 12
           refine (decode_u _ _ 64 xc _ (by decide) hYc hYn HY.out).mono ?_
           rintro e w3 ⟨rfl, b3⟩
           rw [HD.out.1, HD.out.2, show (cells7 Sup.zero).toArray = #[.int .i64 0, .int .i64 0, .int .i64 0, .int .i64 0, .int .i64 0, .int .i64 0, .int .i64 0] from rfl]
           have B3 : Hid (Below W.heap.size W w3) := on HB2.out b3
           clear hcell hfro HY hYn hYc b3 HB2))
      go_ret
      exact ⟨rfl, alloc_on B3.out _⟩

set_option maxRecDepth 100000 in
theorem srot_lifted (os : Os) (started : os.Started) (H : Type) (enc : TypeId × Value → H) :
    ReturnsInHanded {} Try.checked os 8 .any (Rows.superRotSpec.pre6 enc Try.prog Try.f8 Rows.superRotRow.domain false) (Rows.superRotSpec.post enc Try.prog Try.f8 false true false false) := by
  refine returnsInHanded_of_change_sized (C := Try.checked) own started (by kernel_rfl) Try.func8
    (ChangeSpec.witness6 (enc := enc) (C := Try.checked) false ⟨#[], #[.agg #[.int .i64 0, .int .i64 0, .int .i64 0, .int .i64 0, .int .i64 0, .int .i64 0, .int .i64 0], .int .i64 0, .int .u8 0], []⟩ 8 (by kernel_rfl) (by kernel_rfl) (by kernel_rfl) (by kernel_rfl)) ?_
  intro W base args ds gs before hval0 hW _ hsz0 _
  have hsz : (DataW.weightsEach Try.prog (Try.f8.params.toList ++ Rows.superRotSpec.plain.varTypes Try.prog) (ds ++ gs)).all (· ≤ reachBytes) = true := hsz0
  clear hsz0
  have hval : ∀ (j : Nat) t v, Try.f8.params[j]? = some t → args[j]? = some v → Value.okWide Try.prog W .any base t v := hval0
  have hW' := hW
  obtain ⟨p, q, hA0, hV, rfl, hfz, hnd⟩ := hW
  have hA : DataW.TrodAll enc Try.prog W 0 (fun _ => true) true Try.f8.params.toList args.toList ds p := hA0
  rw [Try.params8] at hA hval hsz
  obtain ⟨v0, vs0, d0, ds0, p0, q0, hargs, rfl, rfl, h0, r0⟩ := trodAll_cons hA
  obtain ⟨v1, vs1, d1, ds1, p1, q1, rfl, rfl, rfl, h1, r1⟩ := trodAll_cons r0
  obtain ⟨v2, vs2, d2, ds2, p2, q2, rfl, rfl, rfl, h2, r2⟩ := trodAll_cons r1
  obtain ⟨rfl, rfl, rfl⟩ := trodAll_nil r2
  obtain rfl : args = #[v0, v1, v2] := by cases args; simp_all
  obtain ⟨rfl, rfl⟩ := trodVars_none hV
  obtain ⟨c0, rfl, -⟩ := okWide_struct Try.underlying23 (hval 0 23 v0 rfl rfl)
  have k0 := h0
  have lt0 : ∀ x ∈ p0, x.block < W.heap.size := by obtain ⟨m, hm⟩ := k0; exact DataW.trod_lt m _ _ _ hm
  obtain ⟨x0, hx0⟩ := opens_super.arg h0 hsz (j := 0) rfl rfl
  obtain ⟨a1, rfl, rfl, rfl, w1⟩ := open_int Try.underlying3 (hval 1 3 v1 rfl rfl) h1
  have i1 := bounds_i64 w1
  obtain ⟨a2, rfl, rfl, rfl, w2⟩ := open_int Try.underlying5 (hval 2 5 v2 rfl rfl) h2
  have i2 := bounds_u8 w2
  clear hA0 hval0
  refine (srot_walk c0.toList x0 a1 a2 W hx0 (by omega) (by omega) (by omega) (by omega)).mono fun e W' ⟨he, bel⟩ => ?_
  subst he
  exact ⟨_, rfl, _, _, _, [], _, [], hW', trodAll_mk1 (shut_bool Try.underlying4 _), (trodAll_cons_mk (Below.trod laidOut (by kernel_rfl) (of_decide_eq_true (by kernel_rfl)) k0 bel lt0) (trodAll_cons_mk (shut_int Try.underlying3 w1) (trodAll_cons_mk (shut_int Try.underlying5 w2) trodAll_mk0))), rfl, bel.frame _, fun h => by cases h⟩

theorem superRot_holds : Rows.SuperRotSaid :=
  OpenClaim.holds_of_wide 8 Try.f8 rfl rfl rfl rfl rfl rfl rfl ⟨rfl, rfl, rfl, rfl, rfl⟩ rfl rfl rfl rfl rfl (by kernel_rfl) Try.func8 (by kernel_rfl)
    (of_decide_eq_true (by kernel_rfl)) (by unfold Func.isWrapper; first | (rw [if_pos (by decide +kernel)]; kernel_rfl) | (rw [if_neg (by decide +kernel)]; exact ⟨rfl, rfl⟩))
    (fun os started H enc _ => srot_lifted os started H enc)

end Go.Proofs.Ytdgnkpmjjapmpaa
