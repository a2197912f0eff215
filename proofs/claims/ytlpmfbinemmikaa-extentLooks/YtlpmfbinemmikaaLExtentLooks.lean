/-
  What some sectors are, piece by piece, is where each of them stands, at whatever map and sectors. Conditions: none.
-/
import Derived.Test.YtlpmfbinemmikaaEAlive
import Derived.Test.YtlpmfbinemmikaaEFrame
import Derived.Test.YtlpmfbinemmikaaXR
namespace Go.Proofs.Ytlpmfbinemmikaa
open Go.ChangeShapes Go.WideShapes Go.ChangeAt Go.RowKit
set_option linter.unusedVariables false

theorem Ex.at_ok {l : List Ext} (h : Ex.Ok l) (u : Int) : Ex.at_ l u ≤ 65536 := by
  unfold Ex.at_
  cases hg : Ex.get l u with
  | none => show (-1 : Int) ≤ 65536; decide
  | some p =>
    obtain ⟨x, hx, h1, h2, rfl⟩ := Ex.get_mem hg
    have ho := Ex.good_phys h.good hx
    unfold Ex.One Ex.Fits at ho
    show Ex.val x u ≤ 65536
    unfold Ex.val
    split
    · decide
    · omega

theorem Ex.rest_step {l R : List Ext} {A b : Int} (hf : Ex.From A R) (hg : ∀ u, Ex.get R u = if A ≤ u ∧ u < b then some (Ex.at_ l u) else none) (hab : A ≤ b) :
    match R with
    | [] => A = b
    | x :: R' => x.1 = A ∧ 1 ≤ x.2.2 ∧ A + x.2.2 ≤ b ∧ Ex.at_ l A = x.2.1 ∧ (Ex.at_ l (A + x.2.2 - 1) = if x.2.1 = -1 then -1 else x.2.1 + x.2.2 - 1) ∧ -1 ≤ x.2.1 ∧ Ex.From (A + x.2.2) R' ∧ ∀ u, Ex.get R' u = if A + x.2.2 ≤ u ∧ u < b then some (Ex.at_ l u) else none := by
  have hp := Ex.pieces (a := A) (b := b) hf (fun u => by
    rw [hg u]
    by_cases c : A ≤ u ∧ u < b
    · rw [if_pos c]; exact ⟨fun _ => c, fun _ => ⟨_, rfl⟩⟩
    · rw [if_neg c]; exact ⟨(fun ⟨p, h⟩ => by cases h), fun h => absurd h c⟩) hab
  cases R with
  | nil => exact hp
  | cons x R =>
    obtain ⟨p1, p2, p3, p4, p5, p6, p7, p8⟩ := hp
    rw [hg A, if_pos (by omega)] at p4
    rw [hg (A + x.2.2 - 1), if_pos (by omega)] at p5
    have e4 := Option.some.inj p4
    have e5 := Option.some.inj p5
    unfold Ex.val at e4 e5
    refine ⟨p1, p2, p3, ?_, ?_, hf.2.2.1, p6, fun u => ?_⟩
    · rw [e4]
      split
      · omega
      · omega
    · rw [e5]
      split
      · rfl
      · omega
    · by_cases c : A + x.2.2 ≤ u
      · rw [← p8 u c, hg u]
        by_cases c2 : u < b
        · rw [if_pos (by omega), if_pos (by omega)]
        · rw [if_neg (by omega), if_neg (by omega)]
      · rw [if_neg (by omega)]
        exact Ex.get_low p6.loose (by omega)

theorem Ex.rest_cons {l R : List Ext} {x : Ext} {A b : Int} (hf : Ex.From A (x :: R)) (hg : ∀ u, Ex.get (x :: R) u = if A ≤ u ∧ u < b then some (Ex.at_ l u) else none) (hab : A ≤ b) :
    x.1 = A ∧ 1 ≤ x.2.2 ∧ A + x.2.2 ≤ b ∧ Ex.at_ l A = x.2.1 ∧ (Ex.at_ l (A + x.2.2 - 1) = if x.2.1 = -1 then -1 else x.2.1 + x.2.2 - 1) ∧ -1 ≤ x.2.1 ∧ Ex.From (A + x.2.2) R ∧ ∀ u, Ex.get R u = if A + x.2.2 ≤ u ∧ u < b then some (Ex.at_ l u) else none := Ex.rest_step hf hg hab

theorem Ex.rest_nil {l : List Ext} {A b : Int} (hg : ∀ u, Ex.get [] u = if A ≤ u ∧ u < b then some (Ex.at_ l u) else none) (hab : A ≤ b) : A = b := Ex.rest_step (l := l) (R := []) trivial hg hab

theorem Ex.findV_at {l : List Ext} (h : Ex.Ok l) {u : Int} (h0 : 0 ≤ u) (h1 : u < 65536) : Ex.findE l u = 0 ∧ Ex.findV l u = Ex.at_ l u := by
  have e := Ex.findE_zero.2 ⟨h, h0, h1⟩
  exact ⟨e, if_pos e⟩

theorem three_cells {w w' : World} {g off j : Nat} {x : Ext} (hg : g < w.heap.size) (c0 : w.cell? ⟨g, off + j * 3, none⟩ = some (.int .i64 x.1)) (c1 : w.cell? ⟨g, off + j * 3 + 1, none⟩ = some (.int .i64 x.2.1)) (c2 : w.cell? ⟨g, off + j * 3 + 2, none⟩ = some (.int .i64 x.2.2)) (b : Below w.heap.size w w') :
    w'.cell? ⟨g, off + j * 3, none⟩ = some (.int .i64 x.1) ∧ w'.cell? ⟨g, off + j * 3 + 1, none⟩ = some (.int .i64 x.2.1) ∧ w'.cell? ⟨g, off + j * 3 + 2, none⟩ = some (.int .i64 x.2.2) :=
  ⟨(b.cell (p := ⟨g, off + j * 3, none⟩) hg).trans c0, (b.cell (p := ⟨g, off + j * 3 + 1, none⟩) hg).trans c1, (b.cell (p := ⟨g, off + j * 3 + 2, none⟩) hg).trans c2⟩

set_option maxRecDepth 20000 in
set_option maxHeartbeats 4000000 in
theorem elooks_walk (a : Option Addr) (n c : Nat) (l : List Ext) (v k : Int) (W : World) (h0 : rExts.rd W (fun b => b < W.heap.size) [.slice a n c] l) (hv1 : -9223372036854775808 ≤ v) (hv2 : v ≤ 9223372036854775807) (hk1 : -9223372036854775808 ≤ k) (hk2 : k ≤ 9223372036854775807) :
    Calls Try.prog 8 #[.slice a n c, .int .i64 v, .int .i64 k] W fun e W' => e = .returned (.bool true) ∧ Below W.heap.size W W' := by
  have HR : Hid _ := h0
  clear h0
  go_enter Try.func8, Try.ntmps8
  go_wp2_with fail
  refine (alive5_u _).mono ?_
  rintro e w1 ⟨rfl, b1⟩
  have B1 : Hid (Below W.heap.size W w1) := b1
  clear b1
  go_wp2_with fail
  refine (extLook_u _ _ _ _ _ l (Rep.below HR.out B1.out) v k hk2).mono ?_
  rintro e w2 ⟨b, rfl, ho, b2⟩
  obtain ⟨a2, c2, rfl, -, -⟩ := ho.slice
  have HO : Hid (OwnE _ _ _ _ _) := ho
  have B2 : Hid (Below W.heap.size W w2) := on B1.out b2
  clear ho b2
  by_cases hE : Ex.lookE l v k = 0
  · obtain ⟨hOk, hf⟩ := Ex.lookE_zero.1 hE
    have HOk : Hid (Ex.Ok l) := hOk
    have hbits := (Ex.within_pieces hOk (v := v) (en := v + k) hf.1 (by have := hf.2.1; omega) (by have := hf.2.2.2; omega))
    have hlk : (Ex.lookL l v k) = Ex.look l v k := if_pos hE
    obtain ⟨m1, m2, m3, m4⟩ := Ex.look_ok hOk.good (v := v) (n := k) hf.2.1
    have hlen : ((Ex.lookL l v k)).length ≤ 300000 := by
      rw [hlk, ← Ex.lookF_eq hOk hf]
      unfold Ex.lookF
      rw [List.length_append]
      have h1 := Ex.holes_len (Ex.within l v (v + k)) v
      have h2 := Ex.hole_len (Ex.last v (Ex.within l v (v + k))) (v + k)
      have h3 := hbits.pieces.len
      omega
    rw [← hlk] at m1 m4
    have HM1 : Hid (Ex.From v (Ex.lookL l v k)) := m1
    have HM4 : Hid (∀ u, Ex.get (Ex.lookL l v k) u = if v ≤ u ∧ u < v + k then some (Ex.at_ l u) else none) := m4
    unfold Ex.Fits at hf
    obtain ⟨f1, f2, f3, f4⟩ := hf
    obtain ⟨m, hm⟩ : ∃ m, m = ((Ex.lookL l v k)).length := ⟨_, rfl⟩
    have HML : Hid (((Ex.lookL l v k)).length = m) := hm.symm
    rw [← hm] at HO hlen ⊢
    have HA2 : Hid (rExts.rd w2 (fun b => w1.heap.size ≤ b) [.slice a2 m c2] (Ex.lookL l v k)) := HO.out.rd (by rw [HML.out]; omega)
    rw [hE]
    clear hE hOk hbits hlk m1 m2 m3 m4 hm HO
    go_wp2_with (go_at_call 18; refine (num5_u _ _).mono ?_; rintro e w9 ⟨rfl, rfl⟩)
    go_loopw [9, 10] (fun s9 s10 wr => ∃ (j : Nat) (A : Int), j ≤ m ∧ s9 = .int .i64 A ∧ s10 = .int .i64 j ∧ v ≤ A ∧ A ≤ v + k ∧ Hid (Ex.From A (((Ex.lookL l v k)).drop j) ∧ ∀ u, Ex.get (((Ex.lookL l v k)).drop j) u = if A ≤ u ∧ u < v + k then some (Ex.at_ l u) else none) ∧ Below w2.heap.size w2 wr) (fun _ i _ => m - (intOf i).toNat)
    case atStart => exact ⟨0, v, Nat.zero_le _, rfl, rfl, Int.le_refl _, by omega, ⟨HM1.out, HM4.out⟩, Below.refl _ _⟩
    case round =>
      obtain ⟨j, A, hj, rfl, rfl, hA1, hA2, HI, bel⟩ := hrel
      have BW : Hid (Below W.heap.size W wr) := on B2.out bel
      have HA3 : Hid (rExts.rd wr (fun b => w1.heap.size ≤ b) [.slice a2 m c2] (Ex.lookL l v k)) := Rep.below HA2.out bel
      have hi1 := HI.out.1
      have hi2 := HI.out.2
      by_cases hlt : j < m
      · have hkl : j < ((Ex.lookL l v k)).length := by rw [HML.out]; exact hlt
        rw [List.drop_eq_getElem_cons hkl] at hi1 hi2
        obtain ⟨p1, p2, p3, p4, p5, p6, p7, p8⟩ := Ex.rest_cons hi1 hi2 hA2
        clear hi1 hi2
        obtain ⟨g, off, rfl, -, hgl, hat⟩ := rExts_at HA3.out (by omega)
        obtain ⟨c0, c1, c3, -⟩ := hat j hkl
        obtain ⟨X, hX⟩ : ∃ X, X = ((Ex.lookL l v k))[j] := ⟨_, rfl⟩
        rw [← hX] at p1 p2 p3 p4 p5 p6 p7 p8 c0 c1 c3
        clear hX hat HI
        subst p1
        obtain ⟨q1, q2⟩ := Ex.findV_at HOk.out (u := X.1) (by omega) (by omega)
        obtain ⟨q3, q4⟩ := Ex.findV_at HOk.out (u := X.1 + X.2.2 - 1) (by omega) (by omega)
        rw [p4] at q2
        rw [p5] at q4
        have HF1 : Hid _ := q1
        have HV1 : Hid _ := q2
        have HF2 : Hid _ := q3
        have HNext : Hid (Ex.From (X.1 + X.2.2) (((Ex.lookL l v k)).drop (j + 1)) ∧ ∀ u, Ex.get (((Ex.lookL l v k)).drop (j + 1)) u = if X.1 + X.2.2 ≤ u ∧ u < v + k then some (Ex.at_ l u) else none) := ⟨p7, p8⟩
        have HCell : Hid (∀ {w'}, Below wr.heap.size wr w' → w'.cell? ⟨g, off + j * 3, none⟩ = some (.int .i64 X.1) ∧ w'.cell? ⟨g, off + j * 3 + 1, none⟩ = some (.int .i64 X.2.1) ∧ w'.cell? ⟨g, off + j * 3 + 2, none⟩ = some (.int .i64 X.2.2)) := fun b => three_cells hgl c0 c1 c3 b
        have hjz : (j : Int) < (m : Int) := by omega
        by_cases hh : X.2.1 = -1
        · rw [if_pos hh] at q4
          have HV2 : Hid _ := q4
          rw [hh] at HV1
          clear q1 q2 q3 q4 p4 p5 p7 p8
          have c1' : wr.cell? ⟨g, off + j * 3 + 1, none⟩ = some (.int .i64 (-1)) := by rw [← hh]; exact c1
          have HCell2 : Hid (∀ {w'}, Below wr.heap.size wr w' → w'.cell? ⟨g, off + j * 3, none⟩ = some (.int .i64 X.1) ∧ w'.cell? ⟨g, off + j * 3 + 1, none⟩ = some (.int .i64 (-1)) ∧ w'.cell? ⟨g, off + j * 3 + 2, none⟩ = some (.int .i64 X.2.2)) := fun b => by have h := HCell.out b; rw [hh] at h; exact h
          clear c1 HCell hh
          go_wp2_with fail
          refine (extFind_u _ _ _ _ _ l (Rep.below HR.out BW.out) X.1).mono ?_
          rintro e w3 ⟨rfl, b3⟩
          rw [HF1.out, HV1.out]
          have B3 : Hid (Below W.heap.size W w3) := on BW.out b3
          have D3 : Hid (Below wr.heap.size wr w3) := b3
          have C3 : Hid (Below w2.heap.size w2 w3) := on bel b3
          obtain ⟨c0, c1, c3⟩ := HCell2.out b3
          clear b3
          go_wp2_with (go_at_call 18; refine (num5_u _ _).mono ?_; rintro e w9 ⟨rfl, rfl⟩)
          refine (extFind_u _ _ _ _ _ l (Rep.below HR.out B3.out) (X.1 + X.2.2 - 1)).mono ?_
          rintro e w4 ⟨rfl, b4⟩
          rw [HF2.out, HV2.out]
          have B4 : Hid (Below W.heap.size W w4) := on B3.out b4
          have C4 : Hid (Below w2.heap.size w2 w4) := on C3.out b4
          clear c0 c1 c3
          obtain ⟨c0, c1, c3⟩ := HCell2.out (on D3.out b4)
          clear b4
          go_wp2_with (go_at_call 18; refine (num5_u _ _).mono ?_; rintro e w9 ⟨rfl, rfl⟩)
          go_roundw
          case rel => exact ⟨j + 1, X.1 + X.2.2, by omega, rfl, by go_num, by omega, by omega, HNext, C4.out⟩
          case measure => simp [intOf]; omega
        · rw [if_neg hh] at q4
          have HV2 : Hid _ := q4
          have HCell2 : Hid (∀ {w'}, Below wr.heap.size wr w' → w'.cell? ⟨g, off + j * 3, none⟩ = some (.int .i64 X.1) ∧ w'.cell? ⟨g, off + j * 3 + 1, none⟩ = some (.int .i64 X.2.1) ∧ w'.cell? ⟨g, off + j * 3 + 2, none⟩ = some (.int .i64 X.2.2)) := HCell.out
          have hp0 : 0 ≤ X.2.1 := by omega
          have hp1 : X.2.1 ≤ 65536 := by
            have h := Ex.at_ok HOk.out X.1
            rw [p4] at h
            exact h
          clear q1 q2 q3 q4 p4 p5 p7 p8 HCell hh
          go_wp2_with fail
          refine (extFind_u _ _ _ _ _ l (Rep.below HR.out BW.out) X.1).mono ?_
          rintro e w3 ⟨rfl, b3⟩
          rw [HF1.out, HV1.out]
          have B3 : Hid (Below W.heap.size W w3) := on BW.out b3
          have D3 : Hid (Below wr.heap.size wr w3) := b3
          have C3 : Hid (Below w2.heap.size w2 w3) := on bel b3
          obtain ⟨c0, c1, c3⟩ := HCell2.out b3
          clear b3
          go_wp2_with (go_at_call 18; refine (num5_u _ _).mono ?_; rintro e w9 ⟨rfl, rfl⟩)
          refine (extFind_u _ _ _ _ _ l (Rep.below HR.out B3.out) (X.1 + X.2.2 - 1)).mono ?_
          rintro e w4 ⟨rfl, b4⟩
          rw [HF2.out, HV2.out]
          have B4 : Hid (Below W.heap.size W w4) := on B3.out b4
          have C4 : Hid (Below w2.heap.size w2 w4) := on C3.out b4
          clear c0 c1 c3
          obtain ⟨c0, c1, c3⟩ := HCell2.out (on D3.out b4)
          clear b4
          go_wp2_with (go_at_call 18; refine (num5_u _ _).mono ?_; rintro e w9 ⟨rfl, rfl⟩)
          go_roundw
          case rel => exact ⟨j + 1, X.1 + X.2.2, by omega, rfl, by go_num, by omega, by omega, HNext, C4.out⟩
          case measure => simp [intOf]; omega
      · obtain rfl : j = m := by omega
        rw [List.drop_eq_nil_of_le (by rw [HML.out]; exact Nat.le_refl _)] at hi2
        have hst' : A = v + k := Ex.rest_nil hi2 hA2
        subst hst'
        clear hi1 hi2 HI
        go_wp2_with (go_at_call 18; refine (num5_u _ _).mono ?_; rintro e w9 ⟨rfl, rfl⟩)
        go_ret
        exact ⟨by first | rfl | simp, BW.out⟩
  · have hL : (Ex.lookL l v k) = [] := if_neg hE
    rw [hL]
    have hE' : (Ex.lookE l v k == 0) = false := beq_eq_false_iff_ne.2 hE
    go_wp2_with (go_at_call 18; refine (num5_u _ _).mono ?_; rintro e w9 ⟨rfl, rfl⟩)
    go_ret
    exact ⟨rfl, B2.out⟩

set_option maxRecDepth 100000 in
theorem elooks_lifted (os : Os) (started : os.Started) (H : Type) (enc : TypeId × Value → H) :
    ReturnsInHanded {} Try.checked os 8 .any (Rows.extentLooksSpec.pre6 enc Try.prog Try.f8 Rows.extentLooksRow.domain false) (Rows.extentLooksSpec.post enc Try.prog Try.f8 false true false false) := by
  refine returnsInHanded_of_change_sized (C := Try.checked) own started (by kernel_rfl) Try.func8
    (ChangeSpec.witness6 (enc := enc) (C := Try.checked) false ⟨#[], #[.slice none 0 0, .int .i64 0, .int .i64 0], []⟩ 8 (by kernel_rfl) (by kernel_rfl) (by kernel_rfl) (by kernel_rfl)) ?_
  intro W base args ds gs before hval0 hW _ hsz0 _
  have hsz : (DataW.weightsEach Try.prog (Try.f8.params.toList ++ Rows.extentLooksSpec.plain.varTypes Try.prog) (ds ++ gs)).all (· ≤ reachBytes) = true := hsz0
  clear hsz0
  have hval : ∀ (j : Nat) t v, Try.f8.params[j]? = some t → args[j]? = some v → Value.okWide Try.prog W .any base t v := hval0
  have hW' := hW
  obtain ⟨p, q, hA0, hV, rfl, hfz, hnd⟩ := hW
  have hA : DataW.TrodAll enc Try.prog W 0 (fun _ => true) true Try.f8.params.toList args.toList ds p := hA0
  rw [Try.params8] at hA hval hsz
  obtain ⟨v0, vs0, d0, ds0, p0, q0, hargs, rfl, rfl, h0, r0⟩ := trodAll_cons hA
  obtain ⟨v1, vs1, d1, ds1, p1, q1, rfl, rfl, rfl, h1, r1⟩ := trodAll_cons r0
  obtain ⟨v2, vs2, d2, ds2, p2, q2, rfl, rfl, rfl, h2, r2⟩ := trodAll_cons r1
  obtain ⟨rfl, rfl, rfl⟩ := trodAll_nil r2
  obtain rfl : args = #[v0, v1, v2] := by cases args; simp_all
  obtain ⟨rfl, rfl⟩ := trodVars_none hV
  obtain ⟨a0, len0, cap0, rfl⟩ := okWide_slice Try.underlying22 (hval 0 22 v0 rfl rfl)
  have k0 := h0
  have lt0 : ∀ x ∈ p0, x.block < W.heap.size := by obtain ⟨m, hm⟩ := k0; exact DataW.trod_lt m _ _ _ hm
  obtain ⟨x0, hx0⟩ := opens_exts.arg h0 hsz (j := 0) rfl rfl
  obtain ⟨a1, rfl, rfl, rfl, w1⟩ := open_int Try.underlying3 (hval 1 3 v1 rfl rfl) h1
  have i1 := bounds_i64 w1
  obtain ⟨a2, rfl, rfl, rfl, w2⟩ := open_int Try.underlying3 (hval 2 3 v2 rfl rfl) h2
  have i2 := bounds_i64 w2
  clear hA0 hval0
  refine (elooks_walk a0 len0 cap0 x0 a1 a2 W hx0 (by omega) (by omega) (by omega) (by omega)).mono fun e W' ⟨he, bel⟩ => ?_
  subst he
  exact ⟨_, rfl, _, _, _, [], _, [], hW', trodAll_mk1 (shut_bool Try.underlying4 _), (trodAll_cons_mk (Below.trod laidOut (by kernel_rfl) (of_decide_eq_true (by kernel_rfl)) k0 bel lt0) (trodAll_cons_mk (shut_int Try.underlying3 w1) (trodAll_cons_mk (shut_int Try.underlying3 w2) trodAll_mk0))), rfl, bel.frame _, fun h => by cases h⟩

theorem extentLooks_holds : Rows.ExtentLooksSaid :=
  OpenClaim.holds_of_wide 8 Try.f8 rfl rfl rfl rfl rfl rfl rfl ⟨rfl, rfl, rfl, rfl, rfl⟩ rfl rfl rfl rfl rfl (by kernel_rfl) Try.func8 (by kernel_rfl)
    (of_decide_eq_true (by kernel_rfl)) (by unfold Func.isWrapper; first | (rw [if_pos (by decide +kernel)]; kernel_rfl) | (rw [if_neg (by decide +kernel)]; exact ⟨rfl, rfl⟩))
    (fun os started H enc _ => elooks_lifted os started H enc)

end Go.Proofs.Ytlpmfbinemmikaa
