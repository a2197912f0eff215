/-
  No free span that has as many sectors below the line is shorter there than the one that was chosen: at whatever state, number and line. Conditions: none.
-/
import Derived.Test.YtbbjbajdoekheaaFAlive
import Derived.Test.YtbbjbajdoekheaaFFrame
import Derived.Test.YtbbjbajdoekheaaFBack
namespace Go.Proofs.Ytbbjbajdoekheaa
open Go.ChangeShapes Go.WideShapes Go.ChangeAt Go.RowKit
set_option linter.unusedVariables false

theorem Fr.at_one {l : List Spn} {b : Int} (h : Ex.Gaps b l) : ∀ {y t : Spn}, y ∈ l → t ∈ l → y.1 = t.1 → y = t := by
  induction l generalizing b with
  | nil => intro y t hy; cases hy
  | cons x l ih =>
    intro y t hy ht e
    rcases List.mem_cons.1 hy with e1 | h1
    · rcases List.mem_cons.1 ht with e2 | h2
      · rw [e1, e2]
      · subst e1; have := Fr.Gaps_mem h.2.2 h2; have := h.2.1; omega
    · rcases List.mem_cons.1 ht with e2 | h2
      · subst e2; have := Fr.Gaps_mem h.2.2 h1; have := h.2.1; omega
      · exact ih h.2.2 h1 h2 e

theorem Fr.fits_said (z : Int) (l : List Spn) (q line : Int) : (Fr.bestE z l q line = 9 ∧ Fr.bestA z l q line = 0) ∨ (Fr.bestE z l q line = 4 ∧ Fr.bestA z l q line = 0) ∨ (Fr.bestE z l q line = 51 ∧ Fr.Ok z l ∧ 1 ≤ q ∧ 0 ≤ line ∧ ∀ y ∈ l, Fr.room line y < q) ∨
    (Fr.bestE z l q line = 0 ∧ Fr.Ok z l ∧ ∃ M, 1 ≤ q ∧ 0 ≤ line ∧ (∀ y ∈ l, (y.1 = Fr.bestA z l q line → Fr.room line y = M) ∧ (q ≤ Fr.room line y → M < Fr.room line y ∨ M = Fr.room line y ∧ Fr.bestA z l q line ≤ y.1)) ∧ (∃ y ∈ l, y.1 = Fr.bestA z l q line) ∧ q ≤ M) := by
  cases ho : Fr.okB z l with
  | false => exact .inl (Fr.best_no ho)
  | true =>
    have hO := Fr.ok_iff.1 ho
    by_cases hr : 1 ≤ q ∧ 0 ≤ line
    · obtain ⟨s1, s2⟩ := Fr.best_said ho hr.1 hr.2
      rcases Fr.best_ok (n := q) (line := line) hO.fit.gaps with hb | hb
      · exact .inr (.inr (.inl ⟨by rw [s1, if_pos hb.1], hO, hr.1, hr.2, hb.2⟩))
      · have h0 : Fr.bestE z l q line = 0 := by rw [s1, if_neg (by omega)]
        obtain ⟨-, -, -, y, hy, e, hq, hall⟩ := Fr.best_is h0
        refine .inr (.inr (.inr ⟨h0, hO, Fr.room line y, hr.1, hr.2, fun t ht => ⟨fun et => ?_, fun hg => ?_⟩, ⟨y, hy, e⟩, hq⟩))
        · rw [Fr.at_one hO.fit.gaps ht hy (by omega)]
        · have := hall t ht hg
          omega
    · exact .inr (.inl (Fr.best_range ho hr))

set_option maxRecDepth 20000 in
set_option maxHeartbeats 8000000 in
theorem ffits_walk (cs : List Value) (st : Int × List Spn) (q line : Int) (W : World) (h0 : rState.rd W (fun b => b < W.heap.size) cs st) (hq0 : -9223372036854775808 ≤ q) (hq : q ≤ 9223372036854775807) (hl0 : -9223372036854775808 ≤ line) (hl2 : line ≤ 9223372036854775807) :
    Calls Try.prog 6 #[.agg cs.toArray, .int .i64 q, .int .i64 line] W fun e W' => e = .returned (.bool true) ∧ Below W.heap.size W W' := by
  obtain ⟨a, n, c, rfl, hz, hL⟩ := rState_rd h0
  obtain ⟨z, l⟩ := st
  simp only at hz hL
  have HL : Hid (l.length = n) := (rList_len hL).1
  have HLB : Hid (l.length ≤ 8796093021952) := by unfold Hid; rw [HL.out]; have h : n * 16 ≤ 140737488351232 := (rList_len hL).2.2.2; omega
  have HZI : Hid (In64 z) := hz
  rw [show ([.int .i64 z, .slice a n c] : List Value).toArray = #[.int .i64 z, .slice a n c] from rfl]
  obtain ⟨w0, hw0, V0, b0, z0⟩ := boxedRow W 24 [.int .i64 z, .slice a n c]
  obtain ⟨w1, hw1⟩ : ∃ w1, w1 = w0 := ⟨_, rfl⟩
  rw [← hw1] at hw0 V0 b0
  have Rs_1 : Hid (Row w1 W.heap.size 24 [.int .i64 z, .slice a n c]) := V0
  have B_1 : Hid (Below W.heap.size W w1) := b0
  have Ls_1 : Hid (rSpns.rd w1 (fun b => b < W.heap.size) [.slice a n c] (l)) := Rep.below hL B_1.out
  clear V0 b0 z0 h0 hL hz hw1
  go_enter Try.func6, Try.ntmps6
  go_wp2_with fail
  refine (alive6_u _).mono ?_
  rintro e w2 ⟨rfl, b2⟩
  have Rs_2 : Hid (Row w2 (W.heap.size) 24 [.int .i64 z, .slice a n c]) := Rs_1.out.below b2
  have Ls_2 : Hid (rSpns.rd w2 (fun b => b < W.heap.size) [.slice a n c] (l)) := Rep.below Ls_1.out b2
  have B_2 : Hid (Below W.heap.size W w2) := on B_1.out b2
  clear Rs_1 Ls_1
  clear b2
  obtain ⟨qs0, qs1⟩ := Rs_2.out.two
  go_wp2_with (go_at_call 18; refine (num6_u _ _).mono ?_; rintro e w99 ⟨rfl, rfl⟩)
  refine (of_u _ _ z _ _ _ l Ls_2.out).mono ?_
  rintro e w3 ⟨v3, rfl, ho3, b3⟩
  obtain ⟨ao, co, hv3, -, -⟩ := ho3.slice
  subst hv3
  have Lo_3 : Hid (rSpns.rd w3 (fun b => w2.heap.size ≤ b) [.slice ao (l).length co] (l)) := ho3.rd (HLB.out)
  have Rs_3 : Hid (Row w3 (W.heap.size) 24 [.int .i64 z, .slice a n c]) := Rs_2.out.below b3
  have Ls_3 : Hid (rSpns.rd w3 (fun b => b < W.heap.size) [.slice a n c] (l)) := Rep.below Ls_2.out b3
  have B_3 : Hid (Below W.heap.size W w3) := on B_2.out b3
  clear qs0 qs1
  clear Rs_2 Ls_2
  clear ho3 b3
  go_wp2_with (go_at_call 18; refine (num6_u _ _).mono ?_; rintro e w99 ⟨rfl, rfl⟩)
  refine (freeBest_u _ _ z _ _ _ l Lo_3.out q line hq hl2).mono ?_
  rintro e w4 ⟨rfl, b4⟩
  have Rs_4 : Hid (Row w4 (W.heap.size) 24 [.int .i64 z, .slice a n c]) := Rs_3.out.below b4
  have Ls_4 : Hid (rSpns.rd w4 (fun b => b < W.heap.size) [.slice a n c] (l)) := Rep.below Ls_3.out b4
  have Lo_4 : Hid (rSpns.rd w4 (fun b => w2.heap.size ≤ b) [.slice ao (l).length co] (l)) := Rep.below Lo_3.out b4
  have B_4 : Hid (Below W.heap.size W w4) := on B_3.out b4
  clear Rs_3 Ls_3 Lo_3
  clear b4
  clear Lo_4
  have hmn := min_fact 3
  rcases Fr.fits_said z l q line with ⟨hE, hA⟩ | ⟨hE, hA⟩ | ⟨hE, hO, hN⟩ | ⟨hE, hO, M, hM⟩
  · rw [hE, hA]
    clear hE hA
    go_wp2_with (go_at_call 18; refine (num6_u _ _).mono ?_; rintro e w99 ⟨rfl, rfl⟩)
    go_ret
    exact ⟨rfl, B_4.out⟩
  · rw [hE, hA]
    clear hE hA
    go_wp2_with (go_at_call 18; refine (num6_u _ _).mono ?_; rintro e w99 ⟨rfl, rfl⟩)
    go_ret
    exact ⟨rfl, B_4.out⟩
  · rw [hE]
    have HO : Hid (Fr.Ok z l) := hO
    have hn : n ≤ 1024 := by have h := hO.len; rw [HL.out] at h; exact h
    have HN : Hid (∀ y ∈ l, Fr.room line y < q) := hN.2.2
    have hq1 : 1 ≤ q := hN.1
    have hli : 0 ≤ line := hN.2.1
    clear hE hO hN
    obtain ⟨qs0, qs1⟩ := Rs_4.out.two
    go_wp2_with (go_at_call 18; refine (num6_u _ _).mono ?_; rintro e w99 ⟨rfl, rfl⟩)
    go_loopw [9, 10, 11] (fun p s i wr => ∃ k : Nat, k ≤ n ∧ i = .int .i64 k ∧ p = .int .i64 0 ∧ s = .bool false ∧ Below w4.heap.size w4 wr) (fun _ _ i _ => n - (intOf i).toNat)
    case atStart => exact ⟨0, Nat.zero_le _, rfl, rfl, rfl, Below.refl _ _⟩
    case round =>
      obtain ⟨k, hk, rfl, rfl, rfl, bel⟩ := hrel
      obtain ⟨r0, r1⟩ := (Rs_4.out.below bel).two
      by_cases hlt : k < n
      · have hkl : k < l.length := by rw [HL.out]; exact hlt
        obtain ⟨g, off, rfl, -, hgl, hat⟩ := rSpns_at (Rep.below Ls_4.out bel) (by omega)
        obtain ⟨c0, c1, -⟩ := hat k hkl
        have hm := HO.out.mid l[k] (List.getElem_mem hkl)
        have hmem : l[k] ∈ l := List.getElem_mem hkl
        have hst : ∀ j (hj : j < l.length), j < k + 1 → j < k ∨ j = k := fun j _ h => by omega
        obtain ⟨y, hX⟩ : ∃ y, y = l[k] := ⟨_, rfl⟩
        rw [← hX] at c0 c1 hm hmem
        unfold Fr.Mid at hm
        obtain ⟨m1, m2, m3⟩ := hm
        have hkz : (k : Int) < (n : Int) := by omega
        obtain ⟨rm, hrm⟩ : ∃ rm, Fr.room line y = rm := ⟨_, rfl⟩
        have hrm2 : min (y.1 + y.2) line - y.1 = rm := hrm
        have HRm : Hid (Fr.room line y = rm) := hrm
        have hlo : rm < q := by have h := HN.out y hmem; rw [HRm.out] at h; exact h
        have hrm3 : IntKind.i64.wrap (min (y.1 + y.2) line - y.1) = rm := by rw [IntKind.wrap_i64, ← hrm2]; omega
        have ewy : IntKind.i64.wrap (y.1 + y.2) = y.1 + y.2 := by rw [IntKind.wrap_i64]; omega
        have HB : Hid (Below w4.heap.size w4 wr) := bel
        clear hat bel hgl hrm
        have hge : decide (q ≤ rm) = false := decide_eq_false (by omega)
        clear hX hst
        go_wp2_with fail
        go_quiet (fail)
        go_wp2_with (go_at_call 18; refine (num6_u _ _).mono ?_; rintro e w99 ⟨rfl, rfl⟩)
        go_roundw
        case rel => exact ⟨k + 1, by omega, by go_num, rfl, rfl, same_drewN HB.out _⟩
        case measure => simp [intOf]; omega
      · obtain rfl : k = n := by omega
        go_wp2_with (go_at_call 18; refine (num6_u _ _).mono ?_; rintro e w99 ⟨rfl, rfl⟩)
        go_ret
        exact ⟨rfl, on B_4.out bel⟩
  · rw [hE]
    have HO : Hid (Fr.Ok z l) := hO
    have hn : n ≤ 1024 := by have h := hO.len; rw [HL.out] at h; exact h
    obtain ⟨A, hA⟩ : ∃ A, Fr.bestA z l q line = A := ⟨_, rfl⟩
    rw [hA] at hM ⊢
    have HM : Hid _ := hM.2.2
    have hq1 : 1 ≤ q := hM.1
    have hli : 0 ≤ line := hM.2.1
    clear hE hO hM hA
    obtain ⟨qs0, qs1⟩ := Rs_4.out.two
    go_wp2_with (go_at_call 18; refine (num6_u _ _).mono ?_; rintro e w99 ⟨rfl, rfl⟩)
    go_loopw [9, 10, 11] (fun p s i wr => ∃ (k : Nat) (m : Int) (b : Bool), k ≤ n ∧ i = .int .i64 k ∧ p = .int .i64 m ∧ s = .bool b ∧ Hid ((∃ j, ∃ h : j < l.length, j < k ∧ l[j].1 = A) → m = M) ∧ Below w4.heap.size w4 wr) (fun _ _ i _ => n - (intOf i).toNat)
    case atStart => exact ⟨0, 0, false, Nat.zero_le _, rfl, rfl, rfl, (fun h => by obtain ⟨j, _, h, _⟩ := h; omega), Below.refl _ _⟩
    case round =>
      obtain ⟨k, m, b, hk, rfl, rfl, rfl, HI, bel⟩ := hrel
      obtain ⟨r0, r1⟩ := (Rs_4.out.below bel).two
      by_cases hlt : k < n
      · have hkl : k < l.length := by rw [HL.out]; exact hlt
        obtain ⟨g, off, rfl, -, hgl, hat⟩ := rSpns_at (Rep.below Ls_4.out bel) (by omega)
        obtain ⟨c0, c1, -⟩ := hat k hkl
        have hm := HO.out.mid l[k] (List.getElem_mem hkl)
        have hmem : l[k] ∈ l := List.getElem_mem hkl
        have hst : ∀ j (hj : j < l.length), j < k + 1 → j < k ∨ j = k := fun j _ h => by omega
        obtain ⟨y, hX⟩ : ∃ y, y = l[k] := ⟨_, rfl⟩
        rw [← hX] at c0 c1 hm hmem
        unfold Fr.Mid at hm
        obtain ⟨m1, m2, m3⟩ := hm
        have hkz : (k : Int) < (n : Int) := by omega
        obtain ⟨rm, hrm⟩ : ∃ rm, Fr.room line y = rm := ⟨_, rfl⟩
        have hrm2 : min (y.1 + y.2) line - y.1 = rm := hrm
        have HRm : Hid (Fr.room line y = rm) := hrm
        have hrm3 : IntKind.i64.wrap (min (y.1 + y.2) line - y.1) = rm := by rw [IntKind.wrap_i64, ← hrm2]; omega
        have ewy : IntKind.i64.wrap (y.1 + y.2) = y.1 + y.2 := by rw [IntKind.wrap_i64]; omega
        have HB : Hid (Below w4.heap.size w4 wr) := bel
        clear hat bel hgl hrm
        by_cases hya : y.1 = A
        · have hyb : (y.1 == A) = true := beq_iff_eq.2 hya
          have HN2 : Hid ((∃ j, ∃ h : j < l.length, j < k + 1 ∧ l[j].1 = A) → rm = M) := fun _ => by
            rw [← HRm.out]
            exact (HM.out.1 y hmem).1 hya
          clear hX hst hya
          cases b with
          | true =>
            go_wp2_with fail
            go_quiet (fail)
            go_wp2_with (go_at_call 18; refine (num6_u _ _).mono ?_; rintro e w99 ⟨rfl, rfl⟩)
            go_roundw
            case rel => exact ⟨k + 1, rm, true, by omega, by go_num, rfl, rfl, HN2, same_drewN HB.out _⟩
            case measure => simp [intOf]; omega
          | false =>
            by_cases hge : q ≤ rm
            · have hgd : decide (q ≤ rm) = true := decide_eq_true hge
              go_wp2_with fail
              go_quiet (fail)
              go_wp2_with (go_at_call 18; refine (num6_u _ _).mono ?_; rintro e w99 ⟨rfl, rfl⟩)
              go_roundw
              case rel => exact ⟨k + 1, rm, true, by omega, by go_num, rfl, rfl, HN2, same_drewN HB.out _⟩
              case measure => simp [intOf]; omega
            · have hgd : decide (q ≤ rm) = false := decide_eq_false hge
              go_wp2_with fail
              go_quiet (fail)
              go_wp2_with (go_at_call 18; refine (num6_u _ _).mono ?_; rintro e w99 ⟨rfl, rfl⟩)
              go_roundw
              case rel => exact ⟨k + 1, rm, false, by omega, by go_num, rfl, rfl, HN2, same_drewN HB.out _⟩
              case measure => simp [intOf]; omega
        · have hyb : (y.1 == A) = false := beq_eq_false_iff_ne.2 hya
          have HN2 : Hid ((∃ j, ∃ h : j < l.length, j < k + 1 ∧ l[j].1 = A) → m = M) := fun ⟨j, hj, hjk, e⟩ => by
            rcases hst j hj hjk with h | h
            · exact HI.out ⟨j, hj, h, e⟩
            · subst h
              exact absurd (by rw [hX]; exact e) hya
          clear hX hst hya
          cases b with
          | true =>
            go_wp2_with fail
            go_quiet (fail)
            go_wp2_with (go_at_call 18; refine (num6_u _ _).mono ?_; rintro e w99 ⟨rfl, rfl⟩)
            go_roundw
            case rel => exact ⟨k + 1, m, true, by omega, by go_num, rfl, rfl, HN2, same_drewN HB.out _⟩
            case measure => simp [intOf]; omega
          | false =>
            by_cases hge : q ≤ rm
            · have hgd : decide (q ≤ rm) = true := decide_eq_true hge
              go_wp2_with fail
              go_quiet (fail)
              go_wp2_with (go_at_call 18; refine (num6_u _ _).mono ?_; rintro e w99 ⟨rfl, rfl⟩)
              go_roundw
              case rel => exact ⟨k + 1, m, true, by omega, by go_num, rfl, rfl, HN2, same_drewN HB.out _⟩
              case measure => simp [intOf]; omega
            · have hgd : decide (q ≤ rm) = false := decide_eq_false hge
              go_wp2_with fail
              go_quiet (fail)
              go_wp2_with (go_at_call 18; refine (num6_u _ _).mono ?_; rintro e w99 ⟨rfl, rfl⟩)
              go_roundw
              case rel => exact ⟨k + 1, m, false, by omega, by go_num, rfl, rfl, HN2, same_drewN HB.out _⟩
              case measure => simp [intOf]; omega
      · obtain rfl : k = n := by omega
        have hmM : m = M := HI.out (by obtain ⟨y, hy, e⟩ := HM.out.2.1; obtain ⟨j, hj, ej⟩ := List.mem_iff_getElem.1 hy; exact ⟨j, hj, by rw [← HL.out]; exact hj, by rw [ej]; exact e⟩)
        subst hmM
        obtain ⟨wo, hwo⟩ : ∃ wo, wo = wr := ⟨_, rfl⟩
        rw [← hwo] at bel r0 r1 ⊢
        have HBo : Hid (Below w4.heap.size w4 wo) := bel
        have HMq : Hid (q ≤ m) := HM.out.2.2
        clear hwo bel hk HI
        go_wp2_with (go_at_call 18; refine (num6_u _ _).mono ?_; rintro e w99 ⟨rfl, rfl⟩)
        go_loopw [13] (fun i wr => ∃ j : Nat, j ≤ k ∧ i = .int .i64 j ∧ Below w4.heap.size w4 wr) (fun i _ => k - (intOf i).toNat)
        case atStart => exact ⟨0, Nat.zero_le _, rfl, HBo.out⟩
        case round =>
          obtain ⟨j, hj, rfl, bel⟩ := hrel
          obtain ⟨r0, r1⟩ := (Rs_4.out.below bel).two
          by_cases hlt : j < k
          · have hjl : j < l.length := by rw [HL.out]; exact hlt
            obtain ⟨g, off, rfl, -, hgl, hat⟩ := rSpns_at (Rep.below Ls_4.out bel) (by omega)
            obtain ⟨c0, c1, -⟩ := hat j hjl
            have hm := HO.out.mid l[j] (List.getElem_mem hjl)
            have hmem : l[j] ∈ l := List.getElem_mem hjl
            obtain ⟨y, hX⟩ : ∃ y, y = l[j] := ⟨_, rfl⟩
            rw [← hX] at c0 c1 hm hmem
            unfold Fr.Mid at hm
            obtain ⟨m1, m2, m3⟩ := hm
            have hkz : (j : Int) < (k : Int) := by omega
            obtain ⟨rm, hrm⟩ : ∃ rm, Fr.room line y = rm := ⟨_, rfl⟩
            have hrm2 : min (y.1 + y.2) line - y.1 = rm := hrm
            have HRm : Hid (Fr.room line y = rm) := hrm
            have hrm3 : IntKind.i64.wrap (min (y.1 + y.2) line - y.1) = rm := by rw [IntKind.wrap_i64, ← hrm2]; omega
            have ewy : IntKind.i64.wrap (y.1 + y.2) = y.1 + y.2 := by rw [IntKind.wrap_i64]; omega
            have HB : Hid (Below w4.heap.size w4 wr) := bel
            clear hat bel hgl hrm
            have hall := (HM.out.1 y hmem).2
            rw [HRm.out] at hall
            by_cases hge : q ≤ rm
            · have hgd : decide (q ≤ rm) = true := decide_eq_true hge
              rcases hall hge with hlt2 | ⟨heq, hle⟩
              · have hd1 : decide (rm < m) = false := decide_eq_false (by omega)
                have hd2 : (rm == m) = false := beq_eq_false_iff_ne.2 (by omega)
                clear hX hall
                go_wp2_with fail
                go_quiet (fail)
                go_wp2_with fail
                go_roundw
                case rel => exact ⟨j + 1, by omega, by go_num, same_drewN HB.out _⟩
                case measure => simp [intOf]; omega
              · have hd1 : decide (rm < m) = false := decide_eq_false (by omega)
                have hd2 : (rm == m) = true := beq_iff_eq.2 heq.symm
                have hd3 : decide (y.1 < A) = false := decide_eq_false (by omega)
                clear hX hall heq
                go_wp2_with fail
                go_quiet (fail)
                go_wp2_with fail
                go_roundw
                case rel => exact ⟨j + 1, by omega, by go_num, same_drewN HB.out _⟩
                case measure => simp [intOf]; omega
            · have hgd : decide (q ≤ rm) = false := decide_eq_false hge
              clear hX hall
              go_wp2_with fail
              go_quiet (fail)
              go_wp2_with fail
              go_roundw
              case rel => exact ⟨j + 1, by omega, by go_num, same_drewN HB.out _⟩
              case measure => simp [intOf]; omega
          · obtain rfl : j = k := by omega
            have hgm : decide (q ≤ m) = true := decide_eq_true HMq.out
            go_wp2
            go_ret
            exact ⟨by first | rfl | rw [hgm], on B_4.out bel⟩

set_option maxRecDepth 100000 in
theorem ffits_lifted (os : Os) (started : os.Started) (H : Type) (enc : TypeId × Value → H) :
    ReturnsInHanded {} Try.checked os 6 .any (Rows.freeFitsSpec.pre6 enc Try.prog Try.f6 Rows.freeFitsRow.domain false) (Rows.freeFitsSpec.post enc Try.prog Try.f6 false true false false) := by
  refine returnsInHanded_of_change_sized (C := Try.checked) own started (by kernel_rfl) Try.func6
    (ChangeSpec.witness6 (enc := enc) (C := Try.checked) false ⟨#[], #[.agg #[.int .i64 0, .slice none 0 0], .int .i64 0, .int .i64 0], []⟩ 8 (by kernel_rfl) (by kernel_rfl) (by kernel_rfl) (by kernel_rfl)) ?_
  intro W base args ds gs before hval0 hW _ hsz0 _
  have hsz : (DataW.weightsEach Try.prog (Try.f6.params.toList ++ Rows.freeFitsSpec.plain.varTypes Try.prog) (ds ++ gs)).all (· ≤ reachBytes) = true := hsz0
  clear hsz0
  have hval : ∀ (j : Nat) t v, Try.f6.params[j]? = some t → args[j]? = some v → Value.okWide Try.prog W .any base t v := hval0
  have hW' := hW
  obtain ⟨p, q, hA0, hV, rfl, hfz, hnd⟩ := hW
  have hA : DataW.TrodAll enc Try.prog W 0 (fun _ => true) true Try.f6.params.toList args.toList ds p := hA0
  rw [Try.params6] at hA hval hsz
  obtain ⟨v0, vs0, d0, ds0, p0, q0, hargs, rfl, rfl, h0, r0⟩ := trodAll_cons hA
  obtain ⟨v1, vs1, d1, ds1, p1, q1, rfl, rfl, rfl, h1, r1⟩ := trodAll_cons r0
  obtain ⟨v2, vs2, d2, ds2, p2, q2, rfl, rfl, rfl, h2, r2⟩ := trodAll_cons r1
  obtain ⟨rfl, rfl, rfl⟩ := trodAll_nil r2
  obtain rfl : args = #[v0, v1, v2] := by cases args; simp_all
  obtain ⟨rfl, rfl⟩ := trodVars_none hV
  obtain ⟨c0, rfl, -⟩ := okWide_struct Try.underlying24 (hval 0 24 v0 rfl rfl)
  have k0 := h0
  have lt0 : ∀ x ∈ p0, x.block < W.heap.size := by obtain ⟨m, hm⟩ := k0; exact DataW.trod_lt m _ _ _ hm
  obtain ⟨x0, hx0⟩ := opens_state.arg h0 hsz (j := 0) rfl rfl
  obtain ⟨a1, rfl, rfl, rfl, w1⟩ := open_int Try.underlying3 (hval 1 3 v1 rfl rfl) h1
  have i1 := bounds_i64 w1
  obtain ⟨a2, rfl, rfl, rfl, w2⟩ := open_int Try.underlying3 (hval 2 3 v2 rfl rfl) h2
  have i2 := bounds_i64 w2
  clear hA0 hval0
  refine (ffits_walk c0.toList x0 a1 a2 W hx0 (by omega) (by omega) (by omega) (by omega)).mono fun e W' ⟨he, bel⟩ => ?_
  subst he
  exact ⟨_, rfl, _, _, _, [], _, [], hW', trodAll_mk1 (shut_bool Try.underlying4 _), (trodAll_cons_mk (Below.trod laidOut (by kernel_rfl) (of_decide_eq_true (by kernel_rfl)) k0 bel lt0) (trodAll_cons_mk (shut_int Try.underlying3 w1) (trodAll_cons_mk (shut_int Try.underlying3 w2) trodAll_mk0))), rfl, bel.frame _, fun h => by cases h⟩

theorem freeFits_holds : Rows.FreeFitsSaid :=
  OpenClaim.holds_of_wide 6 Try.f6 rfl rfl rfl rfl rfl rfl rfl ⟨rfl, rfl, rfl, rfl, rfl⟩ rfl rfl rfl rfl rfl (by kernel_rfl) Try.func6 (by kernel_rfl)
    (of_decide_eq_true (by kernel_rfl)) (by unfold Func.isWrapper; first | (rw [if_pos (by decide +kernel)]; kernel_rfl) | (rw [if_neg (by decide +kernel)]; exact ⟨rfl, rfl⟩))
    (fun os started H enc _ => ffits_lifted os started H enc)

end Go.Proofs.Ytbbjbajdoekheaa
