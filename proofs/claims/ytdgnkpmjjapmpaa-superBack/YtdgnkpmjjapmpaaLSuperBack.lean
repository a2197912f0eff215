/-
  A superblock comes back from its sector; what is read is made again of what was read. Conditions: none.
-/
import Derived.Test.YtdgnkpmjjapmpaaSAlive
import Derived.Test.YtdgnkpmjjapmpaaSFrame
import Derived.Test.YtdgnkpmjjapmpaaSEq
import Derived.Test.YtdgnkpmjjapmpaaBSame
import Derived.Test.YtdgnkpmjjapmpaaRBytes
namespace Go.Proofs.Ytdgnkpmjjapmpaa
open Go.ChangeShapes Go.WideShapes Go.ChangeAt Go.RowKit
set_option linter.unusedVariables false

theorem rSuper_ok (w : World) (P : Nat → Prop) {s : Super} (h : Sup.ok s = true) : rSuper.rd w P (cells7 s) s := by
  obtain ⟨⟨a1, a2⟩, ⟨b1, b2⟩, ⟨c1, c2⟩, ⟨d1, d2⟩, ⟨e1, e2⟩, ⟨f1, f2⟩, g1, g2⟩ := Sup.ok_iff.1 h
  refine rSuper_of w P s (fun x hx => ?_)
  simp only [List.mem_cons, List.not_mem_nil, or_false] at hx
  rcases hx with rfl | rfl | rfl | rfl | rfl | rfl | rfl <;> omega


set_option maxHeartbeats 8000000 in
theorem sback_walk (cs : List Value) (s : Super) (a : Option Addr) (n c : Nat) (l : List UInt8) (W : World) (h0 : rSuper.rd W (fun b => b < W.heap.size) cs s) (h1 : rBytes.rd W (fun b => b < W.heap.size) [.slice a n c] l) :
    Calls Try.prog 5 #[.agg cs.toArray, .slice a n c] W fun e W' => e = .returned (.bool true) ∧ Below W.heap.size W W' := by
  have HS0 : Hid _ := h0
  obtain rfl := rSuper_cells h0
  obtain ⟨hB, hnc, hnil, hn⟩ := rBytes_isB h1
  have HB : Hid (IsB _ _ _ _) := hB
  have Hnc : Hid _ := hnc
  have Hnil : Hid _ := hnil
  have Hn : Hid _ := hn
  clear h0 h1 hB hnc hnil hn
  have hq : ∀ w, (Op.equalIn 10000 29 (.agg #[.int .i64 s.1, .int .i64 s.2.1, .int .i64 s.2.2.1, .int .i64 s.2.2.2.1, .int .i64 s.2.2.2.2.1, .int .i64 s.2.2.2.2.2.1, .int .i64 s.2.2.2.2.2.2]) (.agg #[.int .i64 s.1, .int .i64 s.2.1, .int .i64 s.2.2.1, .int .i64 s.2.2.2.1, .int .i64 s.2.2.2.2.1, .int .i64 s.2.2.2.2.2.1, .int .i64 s.2.2.2.2.2.2])).run Try.prog w = .ok true w := fun w => (equal_sup w s s).trans (by simp)
  have hz : ∀ w, (Op.equalIn 10000 29 (.agg #[.int .i64 0, .int .i64 0, .int .i64 0, .int .i64 0, .int .i64 0, .int .i64 0, .int .i64 0]) (.agg #[.int .i64 0, .int .i64 0, .int .i64 0, .int .i64 0, .int .i64 0, .int .i64 0, .int .i64 0])).run Try.prog w = .ok true w := fun w => equal_sup w Sup.zero Sup.zero
  obtain ⟨w0, hw0, V0, b0, -⟩ := boxedRow W 23 [.int .i64 s.1, .int .i64 s.2.1, .int .i64 s.2.2.1, .int .i64 s.2.2.2.1, .int .i64 s.2.2.2.2.1, .int .i64 s.2.2.2.2.2.1, .int .i64 s.2.2.2.2.2.2]
  have VS : Hid (Row _ _ _ _) := V0
  have B0 : Hid (Below W.heap.size W w0) := b0
  clear V0 b0
  go_enter Try.func5, Try.ntmps5
  go_wp2_with fail
  refine (alive4_u _).mono ?_
  rintro e w1 ⟨rfl, b1⟩
  have VS1 : Hid (Row _ _ _ _) := VS.out.below b1
  have B1 : Hid (Below W.heap.size W w1) := on B0.out b1
  clear b1 B0 VS hw0
  have X1 := VS1.out
  have cs0 := X1.cell (j := 0) rfl
  have cs1 := X1.cell (j := 1) rfl
  have cs2 := X1.cell (j := 2) rfl
  have cs3 := X1.cell (j := 3) rfl
  have cs4 := X1.cell (j := 4) rfl
  have cs5 := X1.cell (j := 5) rfl
  have cs6 := X1.cell (j := 6) rfl
  clear X1
  go_wp2_with fail
  cases hs : Sup.ok s
  · refine (encode_no _ _ _ s (Rep.below HS0.out B1.out) hs).mono ?_
    rintro e w2 ⟨rfl, b2⟩
    have B2 : Hid (Below W.heap.size W w2) := on B1.out b2
    clear b2 B1 VS1 hs
    clear cs0 cs1 cs2 cs3 cs4 cs5 cs6
    go_wp2_with fail
    refine (num4_u _ _).mono ?_
    rintro e w5 ⟨rfl, rfl⟩
    go_wp2_with fail
    refine (decode_u _ a n c l Hn.out Hnc.out Hnil.out (HB.out.below B2.out)).mono ?_
    rintro e w3 ⟨rfl, b3⟩
    have B3 : Hid (Below W.heap.size W w3) := on B2.out b3
    clear b3
    by_cases hE : Sup.decodeE l = 0
    · obtain ⟨hok, henc⟩ := Sup.enc_decode hE
      rw [hE]
      obtain ⟨D, hD⟩ : ∃ D, D = Sup.decodeS l := ⟨_, rfl⟩
      rw [← hD] at hok henc ⊢
      rw [show (cells7 D).toArray = #[.int .i64 D.1, .int .i64 D.2.1, .int .i64 D.2.2.1, .int .i64 D.2.2.2.1, .int .i64 D.2.2.2.2.1, .int .i64 D.2.2.2.2.2.1, .int .i64 D.2.2.2.2.2.2] from rfl]
      have HOKD : Hid _ := hok
      have HENC : Hid _ := henc
      clear hok henc hD hE
      obtain ⟨wd, hwd, VD, bd, -⟩ := boxedRow w3 29 [.int .i64 D.1, .int .i64 D.2.1, .int .i64 D.2.2.1, .int .i64 D.2.2.2.1, .int .i64 D.2.2.2.2.1, .int .i64 D.2.2.2.2.2.1, .int .i64 D.2.2.2.2.2.2]
      have cd0 := VD.cell (j := 0) rfl
      have cd1 := VD.cell (j := 1) rfl
      have cd2 := VD.cell (j := 2) rfl
      have cd3 := VD.cell (j := 3) rfl
      have cd4 := VD.cell (j := 4) rfl
      have cd5 := VD.cell (j := 5) rfl
      have cd6 := VD.cell (j := 6) rfl
      have BD : Hid (Below W.heap.size W wd) := on B3.out bd
      clear VD bd
      go_wp2_with fail
      refine (num4_u _ _).mono ?_
      rintro e w5 ⟨rfl, rfl⟩
      go_wp2_with fail
      refine (encode_ok _ (fun _ => True) _ D (rSuper_ok _ _ HOKD.out) HOKD.out).mono ?_
      rintro e wy ⟨ya, yc, rfl, hoy, by_⟩
      have BY : Hid (Below W.heap.size W wy) := on BD.out by_
      obtain ⟨hY, -, -⟩ := owns_isB hoy
      have HY : Hid (IsB _ _ _ _) := hY
      rw [HENC.out] at HY
      clear hoy hY by_ BD
      clear cd0 cd1 cd2 cd3 cd4 cd5 cd6
      go_wp2_with fail
      refine (num4_u _ _).mono ?_
      rintro e w5 ⟨rfl, rfl⟩
      go_wp2_with fail
      refine (sameBytes_any _ ya a 64 yc n c l l HY.out (HB.out.below BY.out)).mono ?_
      rintro e wz ⟨rfl, rfl⟩
      rw [beq_self_eq_true]
      go_wp2
      go_ret
      exact ⟨rfl, BY.out⟩
    · have hS : Sup.decodeS l = Sup.zero := by unfold Sup.decodeS; rw [if_neg hE]
      have hne : (Sup.decodeE l != 0) = true := bne_iff_ne.2 hE
      rw [hS, show (cells7 Sup.zero).toArray = #[.int .i64 0, .int .i64 0, .int .i64 0, .int .i64 0, .int .i64 0, .int .i64 0, .int .i64 0] from rfl]
      clear hS hE
      go_wp2_with fail
      refine (num4_u _ _).mono ?_
      rintro e w5 ⟨rfl, rfl⟩
      go_wp2
      go_ret
      exact ⟨rfl, alloc_on B3.out _⟩
  · refine (encode_ok _ _ _ s (Rep.below HS0.out B1.out) hs).mono ?_
    rintro e w2 ⟨xa, xc, rfl, ho, b2⟩
    have B2 : Hid (Below W.heap.size W w2) := on B1.out b2
    have HOK : Hid _ := hs
    obtain ⟨hX, hXc, hXn⟩ := owns_isB ho
    have HX : Hid (IsB _ _ _ _) := hX
    have VS2 : Hid (Row _ _ _ _) := VS1.out.below b2
    have HD : Hid _ := Sup.decode_enc hs
    clear hs VS1 hX ho b2 B1
    clear cs0 cs1 cs2 cs3 cs4 cs5 cs6
    go_wp2_with fail
    refine (num4_u _ _).mono ?_
    rintro e w5 ⟨rfl, rfl⟩
    go_wp2_with fail
    refine (decode_u _ xa 64 xc _ (by decide) hXc hXn HX.out).mono ?_
    rintro e w3 ⟨rfl, b3⟩
    rw [HD.out.1, HD.out.2, show (cells7 s).toArray = #[.int .i64 s.1, .int .i64 s.2.1, .int .i64 s.2.2.1, .int .i64 s.2.2.2.1, .int .i64 s.2.2.2.2.1, .int .i64 s.2.2.2.2.2.1, .int .i64 s.2.2.2.2.2.2] from rfl]
    have B3 : Hid (Below W.heap.size W w3) := on B2.out b3
    obtain ⟨wt, hwt, VT, bt, -⟩ := boxedRow w3 29 [.int .i64 s.1, .int .i64 s.2.1, .int .i64 s.2.2.1, .int .i64 s.2.2.2.1, .int .i64 s.2.2.2.2.1, .int .i64 s.2.2.2.2.2.1, .int .i64 s.2.2.2.2.2.2]
    have VS3 := (VS2.out.below b3).below bt
    have BT : Hid (Below W.heap.size W wt) := on B3.out bt
    have cs0 := VS3.cell (j := 0) rfl
    have cs1 := VS3.cell (j := 1) rfl
    have cs2 := VS3.cell (j := 2) rfl
    have cs3 := VS3.cell (j := 3) rfl
    have cs4 := VS3.cell (j := 4) rfl
    have cs5 := VS3.cell (j := 5) rfl
    have cs6 := VS3.cell (j := 6) rfl
    have ct0 := VT.cell (j := 0) rfl
    have ct1 := VT.cell (j := 1) rfl
    have ct2 := VT.cell (j := 2) rfl
    have ct3 := VT.cell (j := 3) rfl
    have ct4 := VT.cell (j := 4) rfl
    have ct5 := VT.cell (j := 5) rfl
    have ct6 := VT.cell (j := 6) rfl
    clear VS3 VT bt b3 VS2 HX hXc hXn B2 B3 HD
    go_wp2_with fail
    refine (num4_u _ _).mono ?_
    rintro e w5 ⟨rfl, rfl⟩
    go_wp2_with fail
    refine (decode_u _ a n c l Hn.out Hnc.out Hnil.out (HB.out.below BT.out)).mono ?_
    rintro e w4 ⟨rfl, b4⟩
    have B4 : Hid (Below W.heap.size W w4) := on BT.out b4
    clear b4
    by_cases hE : Sup.decodeE l = 0
    · obtain ⟨hok, henc⟩ := Sup.enc_decode hE
      rw [hE]
      obtain ⟨D, hD⟩ : ∃ D, D = Sup.decodeS l := ⟨_, rfl⟩
      rw [← hD] at hok henc ⊢
      rw [show (cells7 D).toArray = #[.int .i64 D.1, .int .i64 D.2.1, .int .i64 D.2.2.1, .int .i64 D.2.2.2.1, .int .i64 D.2.2.2.2.1, .int .i64 D.2.2.2.2.2.1, .int .i64 D.2.2.2.2.2.2] from rfl]
      have HOKD : Hid _ := hok
      have HENC : Hid _ := henc
      clear hok henc hD hE
      obtain ⟨wd, hwd, VD, bd, -⟩ := boxedRow w4 29 [.int .i64 D.1, .int .i64 D.2.1, .int .i64 D.2.2.1, .int .i64 D.2.2.2.1, .int .i64 D.2.2.2.2.1, .int .i64 D.2.2.2.2.2.1, .int .i64 D.2.2.2.2.2.2]
      have cd0 := VD.cell (j := 0) rfl
      have cd1 := VD.cell (j := 1) rfl
      have cd2 := VD.cell (j := 2) rfl
      have cd3 := VD.cell (j := 3) rfl
      have cd4 := VD.cell (j := 4) rfl
      have cd5 := VD.cell (j := 5) rfl
      have cd6 := VD.cell (j := 6) rfl
      have BD : Hid (Below W.heap.size W wd) := on B4.out bd
      clear VD bd
      go_wp2_with fail
      refine (num4_u _ _).mono ?_
      rintro e w5 ⟨rfl, rfl⟩
      go_wp2_with fail
      refine (encode_ok _ (fun _ => True) _ D (rSuper_ok _ _ HOKD.out) HOKD.out).mono ?_
      rintro e wy ⟨ya, yc, rfl, hoy, by_⟩
      have BY : Hid (Below W.heap.size W wy) := on BD.out by_
      obtain ⟨hY, -, -⟩ := owns_isB hoy
      have HY : Hid (IsB _ _ _ _) := hY
      rw [HENC.out] at HY
      clear hoy hY by_ BD
      clear cd0 cd1 cd2 cd3 cd4 cd5 cd6
      go_wp2_with fail
      refine (num4_u _ _).mono ?_
      rintro e w5 ⟨rfl, rfl⟩
      go_wp2_with fail
      refine (sameBytes_any _ ya a 64 yc n c l l HY.out (HB.out.below BY.out)).mono ?_
      rintro e wz ⟨rfl, rfl⟩
      rw [beq_self_eq_true]
      go_wp2
      go_ret
      exact ⟨rfl, BY.out⟩
    · have hS : Sup.decodeS l = Sup.zero := by unfold Sup.decodeS; rw [if_neg hE]
      have hne : (Sup.decodeE l != 0) = true := bne_iff_ne.2 hE
      rw [hS, show (cells7 Sup.zero).toArray = #[.int .i64 0, .int .i64 0, .int .i64 0, .int .i64 0, .int .i64 0, .int .i64 0, .int .i64 0] from rfl]
      clear hS hE
      go_wp2_with fail
      refine (num4_u _ _).mono ?_
      rintro e w5 ⟨rfl, rfl⟩
      go_wp2
      go_ret
      exact ⟨rfl, alloc_on B4.out _⟩

set_option maxRecDepth 100000 in
theorem sback_lifted (os : Os) (started : os.Started) (H : Type) (enc : TypeId × Value → H) :
    ReturnsInHanded {} Try.checked os 5 .any (Rows.superBackSpec.pre6 enc Try.prog Try.f5 Rows.superBackRow.domain false) (Rows.superBackSpec.post enc Try.prog Try.f5 false true false false) := by
  refine returnsInHanded_of_change_sized (C := Try.checked) own started (by kernel_rfl) Try.func5
    (ChangeSpec.witness6 (enc := enc) (C := Try.checked) false ⟨#[], #[.agg #[.int .i64 0, .int .i64 0, .int .i64 0, .int .i64 0, .int .i64 0, .int .i64 0, .int .i64 0], .slice none 0 0], []⟩ 8 (by kernel_rfl) (by kernel_rfl) (by kernel_rfl) (by kernel_rfl)) ?_
  intro W base args ds gs before hval0 hW _ hsz0 _
  have hsz : (DataW.weightsEach Try.prog (Try.f5.params.toList ++ Rows.superBackSpec.plain.varTypes Try.prog) (ds ++ gs)).all (· ≤ reachBytes) = true := hsz0
  clear hsz0
  have hval : ∀ (j : Nat) t v, Try.f5.params[j]? = some t → args[j]? = some v → Value.okWide Try.prog W .any base t v := hval0
  have hW' := hW
  obtain ⟨p, q, hA0, hV, rfl, hfz, hnd⟩ := hW
  have hA : DataW.TrodAll enc Try.prog W 0 (fun _ => true) true Try.f5.params.toList args.toList ds p := hA0
  rw [Try.params5] at hA hval hsz
  obtain ⟨v0, vs0, d0, ds0, p0, q0, hargs, rfl, rfl, h0, r0⟩ := trodAll_cons hA
  obtain ⟨v1, vs1, d1, ds1, p1, q1, rfl, rfl, rfl, h1, r1⟩ := trodAll_cons r0
  obtain ⟨rfl, rfl, rfl⟩ := trodAll_nil r1
  obtain rfl : args = #[v0, v1] := by cases args; simp_all
  obtain ⟨rfl, rfl⟩ := trodVars_none hV
  obtain ⟨c0, rfl, -⟩ := okWide_struct Try.underlying23 (hval 0 23 v0 rfl rfl)
  have k0 := h0
  have lt0 : ∀ x ∈ p0, x.block < W.heap.size := by obtain ⟨m, hm⟩ := k0; exact DataW.trod_lt m _ _ _ hm
  obtain ⟨x0, hx0⟩ := opens_super.arg h0 hsz (j := 0) rfl rfl
  obtain ⟨a1, len1, cap1, rfl⟩ := okWide_slice Try.underlying24 (hval 1 24 v1 rfl rfl)
  have k1 := h1
  have lt1 : ∀ x ∈ p1, x.block < W.heap.size := by obtain ⟨m, hm⟩ := k1; exact DataW.trod_lt m _ _ _ hm
  obtain ⟨x1, hx1⟩ := opens_octets.arg h1 hsz (j := 1) rfl rfl
  clear hA0 hval0
  refine (sback_walk c0.toList x0 a1 len1 cap1 x1 W hx0 hx1).mono fun e W' ⟨he, bel⟩ => ?_
  subst he
  exact ⟨_, rfl, _, _, _, [], _, [], hW', trodAll_mk1 (shut_bool Try.underlying4 _), (trodAll_cons_mk (Below.trod laidOut (by kernel_rfl) (of_decide_eq_true (by kernel_rfl)) k0 bel lt0) (trodAll_cons_mk (Below.trod laidOut (by kernel_rfl) (of_decide_eq_true (by kernel_rfl)) k1 bel lt1) trodAll_mk0)), rfl, bel.frame _, fun h => by cases h⟩

theorem superBack_holds : Rows.SuperBackSaid :=
  OpenClaim.holds_of_wide 5 Try.f5 rfl rfl rfl rfl rfl rfl rfl ⟨rfl, rfl, rfl, rfl, rfl⟩ rfl rfl rfl rfl rfl (by kernel_rfl) Try.func5 (by kernel_rfl)
    (of_decide_eq_true (by kernel_rfl)) (by unfold Func.isWrapper; first | (rw [if_pos (by decide +kernel)]; kernel_rfl) | (rw [if_neg (by decide +kernel)]; exact ⟨rfl, rfl⟩))
    (fun os started H enc _ => sback_lifted os started H enc)

end Go.Proofs.Ytdgnkpmjjapmpaa
