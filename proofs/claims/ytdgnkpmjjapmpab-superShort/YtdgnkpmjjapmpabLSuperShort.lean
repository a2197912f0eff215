/-
  Octets that are not one sector are none. Conditions: none.
-/
import Derived.Test.YtdgnkpmjjapmpabSAlive
import Derived.Test.YtdgnkpmjjapmpabSFrame
import Derived.Test.YtdgnkpmjjapmpabSTurn
import Derived.Test.YtdgnkpmjjapmpabSNew
import Derived.Test.YtdgnkpmjjapmpabBCopy
namespace Go.Proofs.Ytdgnkpmjjapmpab
open Go.ChangeShapes Go.WideShapes Go.ChangeAt Go.RowKit
set_option linter.unusedVariables false

theorem Sup.newest_no {a b : List UInt8} (ha : Sup.decodeE a ≠ 0) (hb : Sup.decodeE b ≠ 0) : Sup.newestE a b = 21 ∧ Sup.newestS a b = Sup.zero ∧ Sup.newestN a b = 0 := by
  have hE : Sup.newestE a b = 21 := by unfold Sup.newestE; rw [if_pos ⟨ha, hb⟩]
  refine ⟨hE, ?_, ?_⟩
  · unfold Sup.newestS; rw [if_neg (by rw [hE]; decide)]
  · unfold Sup.newestN; rw [if_neg (by rw [hE]; decide)]

theorem isB_none (w : World) : IsB w none 0 [] := ⟨rfl, fun _ => rfl, fun _ e => by cases e⟩

set_option maxHeartbeats 8000000 in
theorem sshort_walk (cs : List Value) (s : Super) (k : Int) (W : World) (h0 : rSuper.rd W (fun b => b < W.heap.size) cs s) (hp1 : -9223372036854775808 ≤ k) (hp2 : k ≤ 9223372036854775807) :
    Calls Try.prog 3 #[.agg cs.toArray, .int .i64 k] W fun e W' => e = .returned (.bool true) ∧ Below W.heap.size W W' := by
  have HS0 : Hid _ := h0
  obtain rfl := rSuper_cells h0
  clear h0
  obtain ⟨w0, hw0, V0, b0, -⟩ := boxedRow W 23 [.int .i64 s.1, .int .i64 s.2.1, .int .i64 s.2.2.1, .int .i64 s.2.2.2.1, .int .i64 s.2.2.2.2.1, .int .i64 s.2.2.2.2.2.1, .int .i64 s.2.2.2.2.2.2]
  have VS : Hid (Row _ _ _ _) := V0
  have B0 : Hid (Below W.heap.size W w0) := b0
  clear V0 b0
  go_enter Try.func3, Try.ntmps3
  go_wp2_with fail
  refine (alive4_u _).mono ?_
  rintro e w1 ⟨rfl, b1⟩
  have VS1 : Hid (Row _ _ _ _) := VS.out.below b1
  have B1 : Hid (Below W.heap.size W w1) := on B0.out b1
  clear b1 B0 VS hw0
  have X1 := VS1.out
  have cs0 := X1.cell (j := 0) rfl
  have cs1 := X1.cell (j := 1) rfl
  have cs2 := X1.cell (j := 2) rfl
  have cs3 := X1.cell (j := 3) rfl
  have cs4 := X1.cell (j := 4) rfl
  have cs5 := X1.cell (j := 5) rfl
  have cs6 := X1.cell (j := 6) rfl
  clear X1
  go_wp2_with fail
  cases hs : Sup.ok s
  · refine (encode_no _ _ _ s (Rep.below HS0.out B1.out) hs).mono ?_
    rintro e w2 ⟨rfl, b2⟩
    have B2 : Hid (Below W.heap.size W w2) := on B1.out b2
    clear b2 B1 VS1 hs
    clear cs0 cs1 cs2 cs3 cs4 cs5 cs6
    go_wp2
    go_ret
    exact ⟨rfl, B2.out⟩
  · refine (encode_ok _ _ _ s (Rep.below HS0.out B1.out) hs).mono ?_
    rintro e w2 ⟨xa, xc, rfl, ho, b2⟩
    have B2 : Hid (Below W.heap.size W w2) := on B1.out b2
    have HL : Hid _ := Sup.enc_length hs
    obtain ⟨g, rfl, -⟩ := owns_row64 ho
    obtain ⟨hX, hXc, -⟩ := owns_isB ho
    have HX : Hid (IsB _ _ _ _) := hX
    obtain ⟨K, hK, hKe⟩ := turn_at k
    have hKc : (K : Int) ≤ (xc : Int) := by omega
    have HXK : Hid (IsB w2 (some ⟨g, 0, none⟩) K ((Sup.enc s).take K)) := hX.head K (by omega) (by decide)
    have HT : Hid (Sup.decodeE ((Sup.enc s).take K) = 8 ∧ Sup.decodeS ((Sup.enc s).take K) = Sup.zero) := Sup.decode_length (by rw [List.length_take, HL.out]; omega)
    have HT2 : Hid (Sup.decodeE (Sup.enc s ++ [0]) = 8 ∧ Sup.decodeS (Sup.enc s ++ [0]) = Sup.zero) := Sup.decode_length (by rw [List.length_append, HL.out]; decide)
    have HT3 : Hid (Sup.decodeE [] = 8) := (Sup.decode_length (by decide)).1
    have HN : Hid _ := Sup.newest_no (a := (Sup.enc s).take K) (b := []) (by rw [HT.out.1]; decide) (by rw [HT3.out]; decide)
    clear hs VS1 ho hX b2 B1
    clear cs0 cs1 cs2 cs3 cs4 cs5 cs6
    go_wp2_with fail
    refine (num4_u _ _).mono ?_
    rintro e w99 ⟨rfl, rfl⟩
    go_wp2_with fail
    refine (decode_u _ _ K xc _ (by omega) (by omega) (fun h => by cases h) HXK.out).mono ?_
    rintro e w3 ⟨rfl, b3⟩
    rw [HT.out.1, HT.out.2, show (cells7 Sup.zero).toArray = #[.int .i64 0, .int .i64 0, .int .i64 0, .int .i64 0, .int .i64 0, .int .i64 0, .int .i64 0] from rfl]
    have B23 : Hid (Below w2.heap.size w2 (w3.alloc (.cells #[.int .i64 0, .int .i64 0, .int .i64 0, .int .i64 0, .int .i64 0, .int .i64 0, .int .i64 0] 29))) := alloc_on b3 _
    clear b3
    go_wp2_with fail
    refine (copy_u _ _ 64 xc _ (by decide) (fun h => by cases h) (HX.out.below B23.out)).mono ?_
    rintro e w4 ⟨ca, cc, rfl, ho4, b4⟩
    have B24 : Hid (Below w2.heap.size w2 w4) := on B23.out b4
    have hb4 := B23.out.size
    have ho5 : (w4.alloc (.cells #[.int .u8 0] 5)).ownsRow w2.heap.size 5 1 (.slice ca 64 cc) 64 (cellsOf (Sup.enc s)) := owns_below (owns_mono ho4 hb4) ((Below.refl _ _).alloc (Nat.le_refl _) _)
    have HO5 : Hid (World.ownsRow _ _ _ _ _ _ _) := ho5
    have B25 : Hid (Below w2.heap.size w2 (w4.alloc (.cells #[.int .u8 0] 5))) := alloc_on B24.out _
    have hz1 : IsB (w4.alloc (.cells #[.int .u8 0] 5)) (some ⟨w4.heap.size, 0, none⟩) 1 [0] := isB_lit w4 [0] (0, 0)
    have HZ1 : Hid (IsB _ _ _ _) := hz1
    clear ho4 b4 ho5 hz1 hb4 B23
    go_wp2_with (at_builtin; refine append_two rfl _ _ rfl w2.heap.size (.slice ca 64 cc) 64 (Sup.enc s) rfl HO5.out (some ⟨w4.heap.size, 0, none⟩) 1 1 [0] rfl HZ1.out (fun h => by cases h) (by decide) B25.out.size ?_; intro da dc w6 ho6 hg6)
    have B26 : Hid (Below w2.heap.size w2 w6) := B25.out.grown hg6 B25.out.size (fun q hq => own_base HO5.out q hq)
    obtain ⟨hD, hDc, hDn⟩ := owns_isB ho6
    have HD : Hid (IsB _ _ _ _) := hD
    clear ho6 hg6 hD B25 HO5 HZ1 B24
    refine (decode_u _ da 65 dc (Sup.enc s ++ [0]) (by decide) hDc hDn HD.out).mono ?_
    rintro e w7 ⟨rfl, b7⟩
    rw [HT2.out.1, HT2.out.2, show (cells7 Sup.zero).toArray = #[.int .i64 0, .int .i64 0, .int .i64 0, .int .i64 0, .int .i64 0, .int .i64 0, .int .i64 0] from rfl]
    have B27 : Hid (Below w2.heap.size w2 (w7.alloc (.cells #[.int .i64 0, .int .i64 0, .int .i64 0, .int .i64 0, .int .i64 0, .int .i64 0, .int .i64 0] 29))) := alloc_on (on B26.out b7) _
    clear b7 B26 HD hDc hDn
    go_wp2_with fail
    refine (newest_u _ _ none K xc 0 0 _ [] (by omega) (by omega) (fun h => by cases h) (HXK.out.below B27.out) (by decide) (by decide) (fun _ => rfl) (isB_none _)).mono ?_
    rintro e w8 ⟨rfl, b8⟩
    rw [HN.out.1, HN.out.2.1, HN.out.2.2, show (cells7 Sup.zero).toArray = #[.int .i64 0, .int .i64 0, .int .i64 0, .int .i64 0, .int .i64 0, .int .i64 0, .int .i64 0] from rfl]
    have B8 : Hid (Below W.heap.size W w8) := on (on B2.out B27.out) b8
    clear b8 B27
    go_wp2
    go_ret
    exact ⟨rfl, alloc_on B8.out _⟩

set_option maxRecDepth 100000 in
theorem sshort_lifted (os : Os) (started : os.Started) (H : Type) (enc : TypeId × Value → H) :
    ReturnsInHanded {} Try.checked os 3 .any (Rows.superShortSpec.pre6 enc Try.prog Try.f3 Rows.superShortRow.domain false) (Rows.superShortSpec.post enc Try.prog Try.f3 false true false false) := by
  refine returnsInHanded_of_change_sized (C := Try.checked) own started (by kernel_rfl) Try.func3
    (ChangeSpec.witness6 (enc := enc) (C := Try.checked) false ⟨#[], #[.agg #[.int .i64 0, .int .i64 0, .int .i64 0, .int .i64 0, .int .i64 0, .int .i64 0, .int .i64 0], .int .i64 0], []⟩ 8 (by kernel_rfl) (by kernel_rfl) (by kernel_rfl) (by kernel_rfl)) ?_
  intro W base args ds gs before hval0 hW _ hsz0 _
  have hsz : (DataW.weightsEach Try.prog (Try.f3.params.toList ++ Rows.superShortSpec.plain.varTypes Try.prog) (ds ++ gs)).all (· ≤ reachBytes) = true := hsz0
  clear hsz0
  have hval : ∀ (j : Nat) t v, Try.f3.params[j]? = some t → args[j]? = some v → Value.okWide Try.prog W .any base t v := hval0
  have hW' := hW
  obtain ⟨p, q, hA0, hV, rfl, hfz, hnd⟩ := hW
  have hA : DataW.TrodAll enc Try.prog W 0 (fun _ => true) true Try.f3.params.toList args.toList ds p := hA0
  rw [Try.params3] at hA hval hsz
  obtain ⟨v0, vs0, d0, ds0, p0, q0, hargs, rfl, rfl, h0, r0⟩ := trodAll_cons hA
  obtain ⟨v1, vs1, d1, ds1, p1, q1, rfl, rfl, rfl, h1, r1⟩ := trodAll_cons r0
  obtain ⟨rfl, rfl, rfl⟩ := trodAll_nil r1
  obtain rfl : args = #[v0, v1] := by cases args; simp_all
  obtain ⟨rfl, rfl⟩ := trodVars_none hV
  obtain ⟨c0, rfl, -⟩ := okWide_struct Try.underlying23 (hval 0 23 v0 rfl rfl)
  have k0 := h0
  have lt0 : ∀ x ∈ p0, x.block < W.heap.size := by obtain ⟨m, hm⟩ := k0; exact DataW.trod_lt m _ _ _ hm
  obtain ⟨x0, hx0⟩ := opens_super.arg h0 hsz (j := 0) rfl rfl
  obtain ⟨a1, rfl, rfl, rfl, w1⟩ := open_int Try.underlying3 (hval 1 3 v1 rfl rfl) h1
  have i1 := bounds_i64 w1
  clear hA0 hval0
  refine (sshort_walk c0.toList x0 a1 W hx0 (by omega) (by omega)).mono fun e W' ⟨he, bel⟩ => ?_
  subst he
  exact ⟨_, rfl, _, _, _, [], _, [], hW', trodAll_mk1 (shut_bool Try.underlying4 _), (trodAll_cons_mk (Below.trod laidOut (by kernel_rfl) (of_decide_eq_true (by kernel_rfl)) k0 bel lt0) (trodAll_cons_mk (shut_int Try.underlying3 w1) trodAll_mk0)), rfl, bel.frame _, fun h => by cases h⟩

theorem superShort_holds : Rows.SuperShortSaid :=
  OpenClaim.holds_of_wide 3 Try.f3 rfl rfl rfl rfl rfl rfl rfl ⟨rfl, rfl, rfl, rfl, rfl⟩ rfl rfl rfl rfl rfl (by kernel_rfl) Try.func3 (by kernel_rfl)
    (of_decide_eq_true (by kernel_rfl)) (by unfold Func.isWrapper; first | (rw [if_pos (by decide +kernel)]; kernel_rfl) | (rw [if_neg (by decide +kernel)]; exact ⟨rfl, rfl⟩))
    (fun os started H enc _ => sshort_lifted os started H enc)

end Go.Proofs.Ytdgnkpmjjapmpab
