/-
  Behind a crash each sector is what it was, or zeros, or what a write that waited had for it. Conditions: none.
-/
import Derived.Test.YtckcicomkapdeaaRAlive
import Derived.Test.YtckcicomkapdeaaROf
import Derived.Test.YtckcicomkapdeaaRFrame
import Derived.Test.YtckcicomkapdeaaRLists
import Derived.Test.YtckcicomkapdeaaBSame
namespace Go.Proofs.Ytckcicomkapdeaa
open Go.ChangeShapes Go.WideShapes Go.ChangeAt Go.RowKit
set_option linter.unusedVariables false

theorem Hst.kept_one {L : List (List UInt8)} {W : List Act} {cp : Int} {keep : Nat → Bool} (hW : ∀ a ∈ W, Hst.actOk cp a = true) : ∀ j, j ≤ W.length → ∀ (i : Nat) (x : List UInt8), (Hst.doneAll keep 0 L (W.take j))[i]? = some x →
    x = Hst.zeros ∨ L[i]? = some x ∨ ∃ (k : Nat) (h : k < W.length), W[k].1 = 1 ∧ W[k].2.1 = (i : Int) ∧ x = W[k].2.2
  | 0, _, i, x, h => .inr (.inl (by simpa [Hst.doneAll] using h))
  | j + 1, hj, i, x, h => by
    have ih := Hst.kept_one hW j (by omega) (keep := keep) (L := L)
    have hjl : j < W.length := by omega
    rw [Hst.doneAll_take _ _ _ _ hjl] at h
    split at h
    · rcases Hst.act_one_two (hW _ (List.getElem_mem hjl)) with ⟨h1, h2, -, -⟩ | ⟨h1, h2, -, -⟩
      · unfold Hst.done at h
        rw [if_pos h1] at h
        split at h
        · by_cases e : W[j].2.1.toNat = i
          · rw [List.getElem?_set, if_pos e] at h
            split at h
            · cases h; exact .inr (.inr ⟨j, hjl, h1, by omega, rfl⟩)
            · cases h
          · rw [List.getElem?_set_ne e] at h
            exact ih i x h
        · exact ih i x h
      · unfold Hst.done at h
        rw [if_neg (by omega)] at h
        by_cases e : i < ((Hst.doneAll keep 0 L (W.take j)).take W[j].2.1.toNat).length
        · rw [List.getElem?_append_left e, List.getElem?_take] at h
          split at h
          · exact ih i x h
          · cases h
        · rw [List.getElem?_append_right (by omega), List.getElem?_replicate] at h
          split at h
          · cases h; exact .inl rfl
          · cases h
    · exact ih i x h

set_option maxRecDepth 20000 in
set_option maxHeartbeats 16000000 in
theorem hkeeps_walk (cs : List Value) (s : Host) (ka : Option Addr) (kn kc : Nat) (K : List Bool) (W : World) (h0 : rHost.rd W (fun b => b < W.heap.size) cs s) (h1 : rBools.rd W (fun b => b < W.heap.size) [.slice ka kn kc] K) :
    Calls Try.prog 6 #[.agg cs.toArray, .slice ka kn kc] W fun e W' => e = .returned (.bool true) ∧ Below W.heap.size W W' := by
  have h0' := h0
  obtain ⟨a, n, c, b, m, d, rfl, hL0, hT0, hn, hm, -, -, hn2, hm2⟩ := rHost_cells h0'
  clear h0'
  have HL0 : Hid _ := hL0
  have HT0 : Hid _ := hT0
  have HN : Hid _ := hn
  have HM : Hid _ := hm
  have HK0 : Hid _ := h1
  have HS0 : Hid _ := h0
  clear h0 h1 hL0 hT0 hn hm
  obtain ⟨vs, hvs, -, -, -, bvs, zvs⟩ := boxed3 W 25 (.slice a n c) (.slice b m d) (.int .i64 s.2.2)
  have Vs : Hid (Var3 vs W.heap.size (.slice a n c) (.slice b m d) (.int .i64 s.2.2)) := by rw [← hvs]; exact var3_new _ _ _ _ _
  have HZs : Hid _ := zvs
  clear zvs
  cases hok : Hst.ok s
  · have HE : Hid _ := Hst.check_bad hok
    have HOK : Hid _ := hok
    clear hok
    go_enter Try.func6, Try.ntmps6
    go_wp2_with fail
    refine (alive_u _).mono ?_
    rintro e w1 ⟨rfl, b1⟩
    have X1 : Hid _ := (Vs.out.below b1)
    have p10 := X1.out.c0
    have p11 := X1.out.c1
    have p12 := X1.out.c2
    go_wp2_with fail
    refine (of_u _ _ _ s (Rep.below HS0.out (on bvs b1))).mono ?_
    rintro e w2 ⟨cs2, rfl, hr2, b2⟩
    have HR2 : Hid _ := hr2
    clear hr2
    go_wp2_with fail
    refine (crash_u _ (fun _ => True) _ _ ka kn kc K (rHost.weaken HR2.out (fun _ _ _ => trivial)) (rBools.weaken (Rep.below HK0.out (on (on bvs b1) b2)) (fun _ _ _ => trivial))).mono ?_
    rintro e w3 ⟨cs3, rfl, hr3, b3⟩
    rw [HE.out]
    have hr3' := hr3
    obtain ⟨a3, n3, c3, d3, m3, e3, rfl, hA3, hW3, hn3, hm3, -⟩ := rHost_cells hr3'
    clear hr3'
    obtain ⟨v3, hv3, -, -, -, bv3, zv3⟩ := boxed3 w3 30 (.slice a3 n3 c3) (.slice d3 m3 e3) (.int .i64 (Hst.crashS s K).2.2)
    have V3 : Hid (Var3 v3 w3.heap.size (.slice a3 n3 c3) (.slice d3 m3 e3) (.int .i64 (Hst.crashS s K).2.2)) := by rw [← hv3]; exact var3_new _ _ _ _ _
    have HZ3 : Hid _ := zv3
    clear zv3
    have HA3 : Hid _ := hA3
    clear hA3
    have HW3 : Hid _ := hW3
    clear hW3
    have HN3 : Hid _ := hn3
    clear hn3
    have HM3 : Hid _ := hm3
    clear hm3
    clear X1 p10 p11 p12
    go_wp2_with fail
    refine (num_u _ _).mono ?_
    rintro e w99 ⟨rfl, rfl⟩
    go_wp2_with fail
    refine (num_u _ _).mono ?_
    rintro e w99 ⟨rfl, rfl⟩
    go_wp2
    go_ret
    exact ⟨rfl, (on (on (on (on bvs b1) b2) b3) bv3)⟩
  · have HE : Hid _ := Hst.check_ok hok
    have HOK : Hid _ := hok
    clear hok
    go_enter Try.func6, Try.ntmps6
    go_wp2_with fail
    refine (alive_u _).mono ?_
    rintro e w1 ⟨rfl, b1⟩
    have X1 : Hid _ := (Vs.out.below b1)
    have p10 := X1.out.c0
    have p11 := X1.out.c1
    have p12 := X1.out.c2
    go_wp2_with fail
    refine (of_u _ _ _ s (Rep.below HS0.out (on bvs b1))).mono ?_
    rintro e w2 ⟨cs2, rfl, hr2, b2⟩
    have HR2 : Hid _ := hr2
    clear hr2
    go_wp2_with fail
    refine (crash_u _ (fun _ => True) _ _ ka kn kc K (rHost.weaken HR2.out (fun _ _ _ => trivial)) (rBools.weaken (Rep.below HK0.out (on (on bvs b1) b2)) (fun _ _ _ => trivial))).mono ?_
    rintro e w3 ⟨cs3, rfl, hr3, b3⟩
    rw [HE.out]
    have hr3' := hr3
    obtain ⟨a3, n3, c3, d3, m3, e3, rfl, hA3, hW3, hn3, hm3, -⟩ := rHost_cells hr3'
    clear hr3'
    obtain ⟨v3, hv3, -, -, -, bv3, zv3⟩ := boxed3 w3 30 (.slice a3 n3 c3) (.slice d3 m3 e3) (.int .i64 (Hst.crashS s K).2.2)
    have V3 : Hid (Var3 v3 w3.heap.size (.slice a3 n3 c3) (.slice d3 m3 e3) (.int .i64 (Hst.crashS s K).2.2)) := by rw [← hv3]; exact var3_new _ _ _ _ _
    have HZ3 : Hid _ := zv3
    clear zv3
    have HA3 : Hid _ := hA3
    clear hA3
    have HW3 : Hid _ := hW3
    clear hW3
    have HN3 : Hid _ := hn3
    clear hn3
    have HM3 : Hid _ := hm3
    clear hm3
    clear X1 p10 p11 p12
    go_wp2_with fail
    refine (num_u _ _).mono ?_
    rintro e w99 ⟨rfl, rfl⟩
    have X2 : Hid _ := (Vs.out.below (on (on (on b1 b2) b3) bv3))
    have p20 := X2.out.c0
    have p21 := X2.out.c1
    have p22 := X2.out.c2
    have X3 : Hid _ := V3.out
    have p30 := X3.out.c0
    have p31 := X3.out.c1
    have p32 := X3.out.c2
    have ec : Hst.crashS s K = Hst.settled s (Hst.those K) := by unfold Hst.crashS; rw [if_pos HOK.out]
    have HC : Hid _ := ec
    clear ec
    have HPL : Hid (∀ (i : Nat) (x : List UInt8), (Hst.crashS s K).1[i]? = some x → x = Hst.zeros ∨ s.1[i]? = some x ∨ ∃ (k : Nat) (h : k < s.2.1.length), s.2.1[k].1 = 1 ∧ s.2.1[k].2.1 = (i : Int) ∧ x = s.2.1[k].2.2) := by
      intro i x h
      rw [HC.out] at h
      exact Hst.kept_one (Hst.ok_parts HOK.out).2.2.2.2 s.2.1.length (Nat.le_refl _) (keep := Hst.those K) i x (by rw [List.take_length]; exact h)
    have HCOK : Hid (Hst.checkE (Hst.crashS s K) = 0) := by unfold Hid; rw [HC.out]; exact Hst.check_ok (Hst.ok_settled _ HOK.out)
    have hbelv : Below W.heap.size W v3 := (on (on (on (on bvs b1) b2) b3) bv3)
    have HA4 : Hid _ := (Rep.below HA3.out bv3)
    have HL4 : Hid _ := (Rep.below HL0.out (on (on (on (on bvs b1) b2) b3) bv3))
    have HT4 : Hid _ := (Rep.below HT0.out (on (on (on (on bvs b1) b2) b3) bv3))
    have HR4 : Hid _ := (Rep.below hr3 bv3)
    have hlv3 : w3.heap.size < v3.heap.size := V3.out.lt
    have hlvs : W.heap.size < v3.heap.size := (Vs.out.below (on (on (on b1 b2) b3) bv3)).lt
    have hn3 : n3 ≤ 5864062014634 := (rSectors_len HA4.out).2
    go_wp2_with fail
    clear X2 p20 p21 p22 X3 p30 p31 p32
    go_loopw [7] (fun i wr => ∃ k : Nat, k ≤ n3 ∧ i = .int .i64 k ∧ Below v3.heap.size v3 wr) (fun i _ => n3 - (intOf i).toNat)
    case atStart => exact ⟨0, Nat.zero_le _, rfl, Below.refl _ _⟩
    case round =>
      obtain ⟨k, hk, rfl, bk⟩ := hrel
      have XS : Hid _ := (Vs.out.below (on (on (on b1 b2) b3) bv3)).below bk
      have X3 : Hid _ := V3.out.below bk
      have s0 := XS.out.c0
      have s1 := XS.out.c1
      have t0 := X3.out.c0
      by_cases hlt : k < n3
      · have hkl : k < (Hst.crashS s K).1.length := by rw [HN3.out]; exact hlt
        obtain ⟨g, off, rfl, -, hgl, hat⟩ := rLists_at (Rep.below HA4.out bk) (by omega)
        obtain ⟨x, l, e, hx, -, hcell⟩ := hat k hkl
        have HP : Hid _ := HPL.out k _ (List.getElem?_eq_getElem hkl)
        clear hat
        generalize (Hst.crashS s K).1[k] = X at *
        have HX : Hid _ := hx
        clear hx
        have hI : (k : Int) < (n3 : Int) := by omega
        go_wp2_with (at_make; refine make_row _ rfl _ _ 26 rfl 5 (.int .u8 0) 1 Try.underlying26 info_u8 rfl 64 _ rfl rfl rfl (by decide) (by decide) ?_; intro w5 HR5 b5 z5)
        have HZ5 : Hid (rBytes.rd w5 (fun _ => True) [.slice (some ⟨wr.heap.size, 0, none⟩) 64 64] Hst.zeros) := rd_row HR5.out (fun j v h => h) (rdAll_bytes w5 (fun _ => True) Hst.zeros) rfl (Nat.le_refl _) (by decide) trivial
        have HX5 : Hid _ := Rep.below HX.out b5
        have XS5 : Hid _ := XS.out.below b5
        have s50 := XS5.out.c0
        have s51 := XS5.out.c1
        have b35 : Below v3.heap.size v3 w5 := on bk b5
        clear HR5 z5
        refine (sameBytes_any _ x _ l e 64 64 X Hst.zeros (rBytes_isB HX5.out).1 (rBytes_isB HZ5.out).1).mono ?_
        rintro e1 w6 ⟨rfl, rfl⟩
        have HTW : Hid _ := Rep.below HT4.out b35
        have HLW : Hid _ := Rep.below HL4.out b35
        have HP0 := True.intro
        cases hz : (X == Hst.zeros)
        · have HNZ : Hid _ := beq_eq_false_iff_ne.1 hz
          clear hz
          by_cases hkn : k < n
          · have hkl' : k < s.1.length := by rw [HN.out]; exact hkn
            obtain ⟨gl, ol, rfl, -, -, hatl⟩ := rLists_at HLW.out (by omega)
            obtain ⟨lx, ll, le, hlx, -, hcl⟩ := hatl k hkl'
            have HLX : Hid _ := hlx
            have HB0 : Hid ((X == s.1[k]) = true ↔ X = Hst.zeros ∨ s.1[k]? = some X) := by
              unfold Hid
              rw [beq_iff_eq, List.getElem?_eq_getElem hkl']
              exact ⟨fun h => .inr (by rw [h]), fun h => h.elim (fun h => absurd h HNZ.out) (fun h => (Option.some.inj h).symm)⟩
            clear hatl hlx
            have hKI : (k : Int) < (n : Int) := by omega
            generalize hLK : s.1[k] = LK at HB0 HLX
            clear hLK
            go_wp2_with fail
            refine (sameBytes_any _ x lx l e ll le X LK (rBytes_isB HX5.out).1 (rBytes_isB HLX.out).1).mono ?_
            rintro e1 w7 ⟨rfl, rfl⟩
            generalize (X == LK) = bl0 at *
            clear HP0
            go_wp2_with fail
            go_loop [9, 10] (fun bl j => ∃ (i : Nat) (y : Bool), i ≤ m ∧ j = .int .i64 i ∧ bl = .bool y ∧ Hid (y = true ↔ (X = Hst.zeros ∨ s.1[k]? = some X) ∨ ∃ (i' : Nat) (h : i' < s.2.1.length), i' < i ∧ s.2.1[i'].1 = 1 ∧ s.2.1[i'].2.1 = (k : Int) ∧ X = s.2.1[i'].2.2)) (fun _ j => m - (intOf j).toNat)
            case atStart => first | exact ⟨0, _, Nat.zero_le _, rfl, rfl, HB0.out.trans ⟨fun h => .inl h, fun h => h.elim id (fun ⟨_, _, h, _⟩ => by omega)⟩⟩ | exact ⟨0, true, Nat.zero_le _, rfl, rfl, ⟨(fun _ => .inl (HB0.out.1 trivial)), (fun _ => rfl)⟩⟩
            case round =>
              obtain ⟨i, y, hi, rfl, rfl, HY⟩ := hrel
              by_cases hil : i < m
              · have hjl : i < s.2.1.length := by rw [HM.out]; exact hil
                obtain ⟨gw, ow, rfl, -, -, hatw⟩ := rWaits_at HTW.out (by omega)
                obtain ⟨yx, yl, ye, hyx, -, y0, y1, y2, -, -⟩ := hatw i hjl
                have HYX : Hid _ := hyx
                have HSTEP : Hid (∀ y' : Bool, (y' = true ↔ y = true ∨ (s.2.1[i].1 = 1 ∧ s.2.1[i].2.1 = (k : Int) ∧ X = s.2.1[i].2.2)) → (y' = true ↔ (X = Hst.zeros ∨ s.1[k]? = some X) ∨ ∃ (i' : Nat) (h : i' < s.2.1.length), i' < i + 1 ∧ s.2.1[i'].1 = 1 ∧ s.2.1[i'].2.1 = (k : Int) ∧ X = s.2.1[i'].2.2)) := by
                  intro y' hy'
                  rw [hy', HY.out]
                  constructor
                  · rintro ((h | ⟨i', h, h2, h3⟩) | h)
                    · exact .inl h
                    · exact .inr ⟨i', h, by omega, h3⟩
                    · exact .inr ⟨i, hjl, by omega, h⟩
                  · rintro (h | ⟨i', h, h2, h3⟩)
                    · exact .inl (.inl h)
                    · by_cases e : i' = i
                      · subst e; exact .inr h3
                      · exact .inl (.inr ⟨i', h, by omega, h3⟩)
                clear hatw hyx
                generalize s.2.1[i].1 = what at *
                generalize s.2.1[i].2.1 = pos at *
                generalize s.2.1[i].2.2 = Y at *
                have hII : (i : Int) < (m : Int) := by omega
                cases y
                · by_cases hw1 : what = 1
                  · by_cases hpk : pos = (k : Int)
                    · subst hw1 hpk
                      go_wp2_with (go_at_call 25; refine (sameBytes_any _ x yx l e yl ye X Y (rBytes_isB HX5.out).1 (rBytes_isB HYX.out).1).mono ?_; rintro e1 w7 ⟨rfl, rfl⟩)
                      go_round
                      case rel => exact ⟨i + 1, _, by omega, by go_num, rfl, HSTEP.out _ (by simp)⟩
                      case measure => simp [intOf]; omega
                    · have hb2 : (pos == (k : Int)) = false := beq_eq_false_iff_ne.2 hpk
                      have HPK : Hid _ := hpk
                      clear hpk
                      subst hw1
                      go_wp2
                      go_round
                      case rel => exact ⟨i + 1, false, by omega, by go_num, rfl, HSTEP.out _ ⟨(fun h => .inl h), (fun h => h.elim id (fun h => absurd h.2.1 HPK.out))⟩⟩
                      case measure => simp [intOf]; omega
                  · have hb1 : (what == 1) = false := beq_eq_false_iff_ne.2 hw1
                    have HW1 : Hid _ := hw1
                    clear hw1
                    go_wp2
                    go_round
                    case rel => exact ⟨i + 1, false, by omega, by go_num, rfl, HSTEP.out _ ⟨(fun h => .inl h), (fun h => h.elim id (fun h => absurd h.1 HW1.out))⟩⟩
                    case measure => simp [intOf]; omega
                · go_wp2
                  go_round
                  case rel => exact ⟨i + 1, true, by omega, by go_num, rfl, HSTEP.out _ (by simp)⟩
                  case measure => simp [intOf]; omega
              · obtain rfl : i = m := by omega
                obtain rfl : y = true := by
                  rw [HY.out]
                  rcases HP.out with h | h | ⟨k', h, h2⟩
                  · exact .inl (.inl h)
                  · exact .inl (.inr h)
                  · exact .inr ⟨k', h, by rw [← HM.out]; exact h, h2⟩
                go_wp2
                go_roundw
                case rel => exact ⟨k + 1, by omega, by go_num, b35⟩
                case measure => simp [intOf]; omega
          · have hKI : (n : Int) ≤ (k : Int) := by omega
            have HB0 : Hid (false = true ↔ X = Hst.zeros ∨ s.1[k]? = some X) := by
              unfold Hid
              rw [List.getElem?_eq_none (by rw [HN.out]; omega)]
              exact ⟨(fun h => by cases h), (fun h => h.elim (fun h => absurd h HNZ.out) (fun h => by cases h))⟩
            clear HP0
            go_wp2_with fail
            go_loop [9, 10] (fun bl j => ∃ (i : Nat) (y : Bool), i ≤ m ∧ j = .int .i64 i ∧ bl = .bool y ∧ Hid (y = true ↔ (X = Hst.zeros ∨ s.1[k]? = some X) ∨ ∃ (i' : Nat) (h : i' < s.2.1.length), i' < i ∧ s.2.1[i'].1 = 1 ∧ s.2.1[i'].2.1 = (k : Int) ∧ X = s.2.1[i'].2.2)) (fun _ j => m - (intOf j).toNat)
            case atStart => first | exact ⟨0, _, Nat.zero_le _, rfl, rfl, HB0.out.trans ⟨fun h => .inl h, fun h => h.elim id (fun ⟨_, _, h, _⟩ => by omega)⟩⟩ | exact ⟨0, true, Nat.zero_le _, rfl, rfl, ⟨(fun _ => .inl (HB0.out.1 trivial)), (fun _ => rfl)⟩⟩
            case round =>
              obtain ⟨i, y, hi, rfl, rfl, HY⟩ := hrel
              by_cases hil : i < m
              · have hjl : i < s.2.1.length := by rw [HM.out]; exact hil
                obtain ⟨gw, ow, rfl, -, -, hatw⟩ := rWaits_at HTW.out (by omega)
                obtain ⟨yx, yl, ye, hyx, -, y0, y1, y2, -, -⟩ := hatw i hjl
                have HYX : Hid _ := hyx
                have HSTEP : Hid (∀ y' : Bool, (y' = true ↔ y = true ∨ (s.2.1[i].1 = 1 ∧ s.2.1[i].2.1 = (k : Int) ∧ X = s.2.1[i].2.2)) → (y' = true ↔ (X = Hst.zeros ∨ s.1[k]? = some X) ∨ ∃ (i' : Nat) (h : i' < s.2.1.length), i' < i + 1 ∧ s.2.1[i'].1 = 1 ∧ s.2.1[i'].2.1 = (k : Int) ∧ X = s.2.1[i'].2.2)) := by
                  intro y' hy'
                  rw [hy', HY.out]
                  constructor
                  · rintro ((h | ⟨i', h, h2, h3⟩) | h)
                    · exact .inl h
                    · exact .inr ⟨i', h, by omega, h3⟩
                    · exact .inr ⟨i, hjl, by omega, h⟩
                  · rintro (h | ⟨i', h, h2, h3⟩)
                    · exact .inl (.inl h)
                    · by_cases e : i' = i
                      · subst e; exact .inr h3
                      · exact .inl (.inr ⟨i', h, by omega, h3⟩)
                clear hatw hyx
                generalize s.2.1[i].1 = what at *
                generalize s.2.1[i].2.1 = pos at *
                generalize s.2.1[i].2.2 = Y at *
                have hII : (i : Int) < (m : Int) := by omega
                cases y
                · by_cases hw1 : what = 1
                  · by_cases hpk : pos = (k : Int)
                    · subst hw1 hpk
                      go_wp2_with (go_at_call 25; refine (sameBytes_any _ x yx l e yl ye X Y (rBytes_isB HX5.out).1 (rBytes_isB HYX.out).1).mono ?_; rintro e1 w7 ⟨rfl, rfl⟩)
                      go_round
                      case rel => exact ⟨i + 1, _, by omega, by go_num, rfl, HSTEP.out _ (by simp)⟩
                      case measure => simp [intOf]; omega
                    · have hb2 : (pos == (k : Int)) = false := beq_eq_false_iff_ne.2 hpk
                      have HPK : Hid _ := hpk
                      clear hpk
                      subst hw1
                      go_wp2
                      go_round
                      case rel => exact ⟨i + 1, false, by omega, by go_num, rfl, HSTEP.out _ ⟨(fun h => .inl h), (fun h => h.elim id (fun h => absurd h.2.1 HPK.out))⟩⟩
                      case measure => simp [intOf]; omega
                  · have hb1 : (what == 1) = false := beq_eq_false_iff_ne.2 hw1
                    have HW1 : Hid _ := hw1
                    clear hw1
                    go_wp2
                    go_round
                    case rel => exact ⟨i + 1, false, by omega, by go_num, rfl, HSTEP.out _ ⟨(fun h => .inl h), (fun h => h.elim id (fun h => absurd h.1 HW1.out))⟩⟩
                    case measure => simp [intOf]; omega
                · go_wp2
                  go_round
                  case rel => exact ⟨i + 1, true, by omega, by go_num, rfl, HSTEP.out _ (by simp)⟩
                  case measure => simp [intOf]; omega
              · obtain rfl : i = m := by omega
                obtain rfl : y = true := by
                  rw [HY.out]
                  rcases HP.out with h | h | ⟨k', h, h2⟩
                  · exact .inl (.inl h)
                  · exact .inl (.inr h)
                  · exact .inr ⟨k', h, by rw [← HM.out]; exact h, h2⟩
                go_wp2
                go_roundw
                case rel => exact ⟨k + 1, by omega, by go_num, b35⟩
                case measure => simp [intOf]; omega
        · have HB0 : Hid (true = true ↔ X = Hst.zeros ∨ s.1[k]? = some X) := ⟨fun _ => .inl (beq_iff_eq.1 hz), fun _ => rfl⟩
          clear hz
          clear HP0
          go_wp2_with fail
          go_loop [9, 10] (fun bl j => ∃ (i : Nat) (y : Bool), i ≤ m ∧ j = .int .i64 i ∧ bl = .bool y ∧ Hid (y = true ↔ (X = Hst.zeros ∨ s.1[k]? = some X) ∨ ∃ (i' : Nat) (h : i' < s.2.1.length), i' < i ∧ s.2.1[i'].1 = 1 ∧ s.2.1[i'].2.1 = (k : Int) ∧ X = s.2.1[i'].2.2)) (fun _ j => m - (intOf j).toNat)
          case atStart => first | exact ⟨0, _, Nat.zero_le _, rfl, rfl, HB0.out.trans ⟨fun h => .inl h, fun h => h.elim id (fun ⟨_, _, h, _⟩ => by omega)⟩⟩ | exact ⟨0, true, Nat.zero_le _, rfl, rfl, ⟨(fun _ => .inl (HB0.out.1 trivial)), (fun _ => rfl)⟩⟩
          case round =>
            obtain ⟨i, y, hi, rfl, rfl, HY⟩ := hrel
            by_cases hil : i < m
            · have hjl : i < s.2.1.length := by rw [HM.out]; exact hil
              obtain ⟨gw, ow, rfl, -, -, hatw⟩ := rWaits_at HTW.out (by omega)
              obtain ⟨yx, yl, ye, hyx, -, y0, y1, y2, -, -⟩ := hatw i hjl
              have HYX : Hid _ := hyx
              have HSTEP : Hid (∀ y' : Bool, (y' = true ↔ y = true ∨ (s.2.1[i].1 = 1 ∧ s.2.1[i].2.1 = (k : Int) ∧ X = s.2.1[i].2.2)) → (y' = true ↔ (X = Hst.zeros ∨ s.1[k]? = some X) ∨ ∃ (i' : Nat) (h : i' < s.2.1.length), i' < i + 1 ∧ s.2.1[i'].1 = 1 ∧ s.2.1[i'].2.1 = (k : Int) ∧ X = s.2.1[i'].2.2)) := by
                intro y' hy'
                rw [hy', HY.out]
                constructor
                · rintro ((h | ⟨i', h, h2, h3⟩) | h)
                  · exact .inl h
                  · exact .inr ⟨i', h, by omega, h3⟩
                  · exact .inr ⟨i, hjl, by omega, h⟩
                · rintro (h | ⟨i', h, h2, h3⟩)
                  · exact .inl (.inl h)
                  · by_cases e : i' = i
                    · subst e; exact .inr h3
                    · exact .inl (.inr ⟨i', h, by omega, h3⟩)
              clear hatw hyx
              generalize s.2.1[i].1 = what at *
              generalize s.2.1[i].2.1 = pos at *
              generalize s.2.1[i].2.2 = Y at *
              have hII : (i : Int) < (m : Int) := by omega
              cases y
              · by_cases hw1 : what = 1
                · by_cases hpk : pos = (k : Int)
                  · subst hw1 hpk
                    go_wp2_with (go_at_call 25; refine (sameBytes_any _ x yx l e yl ye X Y (rBytes_isB HX5.out).1 (rBytes_isB HYX.out).1).mono ?_; rintro e1 w7 ⟨rfl, rfl⟩)
                    go_round
                    case rel => exact ⟨i + 1, _, by omega, by go_num, rfl, HSTEP.out _ (by simp)⟩
                    case measure => simp [intOf]; omega
                  · have hb2 : (pos == (k : Int)) = false := beq_eq_false_iff_ne.2 hpk
                    have HPK : Hid _ := hpk
                    clear hpk
                    subst hw1
                    go_wp2
                    go_round
                    case rel => exact ⟨i + 1, false, by omega, by go_num, rfl, HSTEP.out _ ⟨(fun h => .inl h), (fun h => h.elim id (fun h => absurd h.2.1 HPK.out))⟩⟩
                    case measure => simp [intOf]; omega
                · have hb1 : (what == 1) = false := beq_eq_false_iff_ne.2 hw1
                  have HW1 : Hid _ := hw1
                  clear hw1
                  go_wp2
                  go_round
                  case rel => exact ⟨i + 1, false, by omega, by go_num, rfl, HSTEP.out _ ⟨(fun h => .inl h), (fun h => h.elim id (fun h => absurd h.1 HW1.out))⟩⟩
                  case measure => simp [intOf]; omega
              · go_wp2
                go_round
                case rel => exact ⟨i + 1, true, by omega, by go_num, rfl, HSTEP.out _ (by simp)⟩
                case measure => simp [intOf]; omega
            · obtain rfl : i = m := by omega
              obtain rfl : y = true := by
                rw [HY.out]
                rcases HP.out with h | h | ⟨k', h, h2⟩
                · exact .inl (.inl h)
                · exact .inl (.inr h)
                · exact .inr ⟨k', h, by rw [← HM.out]; exact h, h2⟩
              go_wp2
              go_roundw
              case rel => exact ⟨k + 1, by omega, by go_num, b35⟩
              case measure => simp [intOf]; omega
      · obtain rfl : k = n3 := by omega
        have t1 := X3.out.c1
        have t2 := X3.out.c2
        go_wp2_with fail
        refine (check_u _ _ _ _ (Rep.below HR4.out bk)).mono ?_
        rintro e w6 ⟨rfl, b6⟩
        rw [HCOK.out]
        go_wp2_with fail
        refine (num_u _ _).mono ?_
        rintro e w7 ⟨rfl, rfl⟩
        go_wp2
        go_ret
        exact ⟨rfl, on (on hbelv bk) b6⟩

set_option maxRecDepth 100000 in
theorem hkeeps_lifted (os : Os) (started : os.Started) (H : Type) (enc : TypeId × Value → H) :
    ReturnsInHanded {} Try.checked os 6 .any (Rows.hostKeepsSpec.pre6 enc Try.prog Try.f6 Rows.hostKeepsRow.domain false) (Rows.hostKeepsSpec.post enc Try.prog Try.f6 false true false false) := by
  refine returnsInHanded_of_change_sized (C := Try.checked) own started (by kernel_rfl) Try.func6
    (ChangeSpec.witness6 (enc := enc) (C := Try.checked) false ⟨#[], #[.agg #[.slice none 0 0, .slice none 0 0, .int .i64 0], .slice none 0 0], []⟩ 8 (by kernel_rfl) (by kernel_rfl) (by kernel_rfl) (by kernel_rfl)) ?_
  intro W base args ds gs before hval0 hW _ hsz0 _
  have hsz : (DataW.weightsEach Try.prog (Try.f6.params.toList ++ Rows.hostKeepsSpec.plain.varTypes Try.prog) (ds ++ gs)).all (· ≤ reachBytes) = true := hsz0
  clear hsz0
  have hval : ∀ (j : Nat) t v, Try.f6.params[j]? = some t → args[j]? = some v → Value.okWide Try.prog W .any base t v := hval0
  have hW' := hW
  obtain ⟨p, q, hA0, hV, rfl, hfz, hnd⟩ := hW
  have hA : DataW.TrodAll enc Try.prog W 0 (fun _ => true) true Try.f6.params.toList args.toList ds p := hA0
  rw [Try.params6] at hA hval hsz
  obtain ⟨v0, vs0, d0, ds0, p0, q0, hargs, rfl, rfl, h0, r0⟩ := trodAll_cons hA
  obtain ⟨v1, vs1, d1, ds1, p1, q1, rfl, rfl, rfl, h1, r1⟩ := trodAll_cons r0
  obtain ⟨rfl, rfl, rfl⟩ := trodAll_nil r1
  obtain rfl : args = #[v0, v1] := by cases args; simp_all
  obtain ⟨rfl, rfl⟩ := trodVars_none hV
  obtain ⟨c0, rfl, -⟩ := okWide_struct Try.underlying25 (hval 0 25 v0 rfl rfl)
  have k0 := h0
  have lt0 : ∀ x ∈ p0, x.block < W.heap.size := by obtain ⟨m, hm⟩ := k0; exact DataW.trod_lt m _ _ _ hm
  obtain ⟨x0, hx0⟩ := opens_refHost.arg h0 hsz (j := 0) rfl rfl
  obtain ⟨a1, len1, cap1, rfl⟩ := okWide_slice Try.underlying27 (hval 1 27 v1 rfl rfl)
  have k1 := h1
  have lt1 : ∀ x ∈ p1, x.block < W.heap.size := by obtain ⟨m, hm⟩ := k1; exact DataW.trod_lt m _ _ _ hm
  obtain ⟨x1, hx1⟩ := opens_bools.arg h1 hsz (j := 1) rfl rfl
  clear hA0 hval0
  refine (hkeeps_walk c0.toList x0 a1 len1 cap1 x1 W hx0 hx1).mono fun e W' ⟨he, bel⟩ => ?_
  subst he
  exact ⟨_, rfl, _, _, _, [], _, [], hW', trodAll_mk1 (shut_bool Try.underlying4 _), (trodAll_cons_mk (Below.trod laidOut (by kernel_rfl) (of_decide_eq_true (by kernel_rfl)) k0 bel lt0) (trodAll_cons_mk (Below.trod laidOut (by kernel_rfl) (of_decide_eq_true (by kernel_rfl)) k1 bel lt1) trodAll_mk0)), rfl, bel.frame _, fun h => by cases h⟩

theorem hostKeeps_holds : Rows.HostKeepsSaid :=
  OpenClaim.holds_of_wide 6 Try.f6 rfl rfl rfl rfl rfl rfl rfl ⟨rfl, rfl, rfl, rfl, rfl⟩ rfl rfl rfl rfl rfl (by kernel_rfl) Try.func6 (by kernel_rfl)
    (of_decide_eq_true (by kernel_rfl)) (by unfold Func.isWrapper; first | (rw [if_pos (by decide +kernel)]; kernel_rfl) | (rw [if_neg (by decide +kernel)]; exact ⟨rfl, rfl⟩))
    (fun os started H enc _ => hkeeps_lifted os started H enc)

end Go.Proofs.Ytckcicomkapdeaa
