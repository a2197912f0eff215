/-
  The landed extent: Used, at whatever map. Conditions: those that each contract names.
-/
import Derived.Test.YtlpmfbinemmikaaXU
import Derived.Test.YtlpmfbinemmikaaREU
namespace Go.Proofs.Ytlpmfbinemmikaa
open Go.RowKit
set_option linter.unusedVariables false

theorem run_clone {w : World} {P : Nat → Prop} {ad : Addr} {n c : Nat} {l : List Ext} (h0 : rExts.rd w P [.slice (some ad) n c] l) (ty : TypeId) :
    ∃ v' w', (Builtin.append_ #[22, 22] ty #[.slice (some ⟨w.heap.size, 0, none⟩) 0 0, .slice (some ad) n c]).run Try.prog (w.alloc (.cells #[] 24)) = .ok v' w' ∧ OwnE 24 w' w.heap.size v' l ∧ Below w.heap.size w w' := by
  obtain ⟨ht, i, z, hi, hz, hsize, hby, hzs, hpos⟩ := elem_ext
  obtain ⟨hl, hnc, hnil, hb⟩ := rList_len h0
  have hn : n ≤ 5864062014634 := by have : n * 24 ≤ 140737488351232 := hb; omega
  have hba : Below w.heap.size w (w.alloc (.cells #[] 24)) := (Below.refl _ _).alloc (Nat.le_refl _) _
  have h := Rep.below h0 hba
  have hrow : (w.alloc (.cells #[] 24)).ownsRow w.heap.size 24 3 (.slice (some ⟨w.heap.size, 0, none⟩) 0 0) 0 [] := ⟨rfl, .inr ⟨w.heap.size, 0, #[], rfl, Nat.le_refl _, heap_alloc_new w _, Nat.le_refl 0, by decide, rfl, rfl⟩⟩
  obtain ⟨v', w', hr, k1, k2, -, -⟩ := run_append_own_at (P := Try.prog) (w.alloc (.cells #[] 24)) w.heap.size 22 ty 24 i z 3 24 ht hi hz hsize hby hzs (by decide) (.slice (some ⟨w.heap.size, 0, none⟩) 0 0) 0 [] hrow ad n c (extCells l) (by rw [extCells_length, hl])
    (fun j u hj => by
      by_cases h0 : 0 < n
      · exact rExts_cells h h0 j u hj
      · obtain rfl : n = 0 := by omega
        obtain rfl : l = [] := List.length_eq_zero_iff.1 hl
        simp [extCells] at hj)
    (fun u hu => by
      obtain ⟨x, hx, hux⟩ := List.mem_flatMap.1 hu
      exact rExt.one (rExt_rd.2 ⟨rfl, rExts_in h x hx⟩ : rExt.rd w (fun _ => True) _ x) u hux) (by unfold maxLen; omega) (by omega) (by simp)
  refine ⟨v', w', hr, ⟨by rw [hl]; simpa using k1, rExts_in h⟩, ?_⟩
  exact hba.grown k2 (by simp) (fun k hk => by
    have hk : w.heap.size = k := Option.some.inj hk
    omega)

set_option maxRecDepth 20000 in
set_option maxHeartbeats 800000 in
theorem clone_u (w : World) (P : Nat → Prop) (a : Option Addr) (n c : Nat) (l : List Ext) (hL : rExts.rd w P [.slice a n c] l) :
    Calls Try.prog 48 #[.slice a n c] w fun e w' => ∃ b, e = .returned b ∧ OwnE 24 w' w.heap.size b l ∧ Below w.heap.size w w' := by
  cases a with
  | none =>
    obtain ⟨hl, hnc, hnil, hb⟩ := rList_len hL
    have hc0 := hnil rfl
    obtain rfl : n = 0 := by omega
    obtain rfl : l = [] := List.length_eq_zero_iff.1 hl
    have heq : ∀ w, (binOp .eql 22 (.slice none 0 c) (.slice none 0 0)).run Try.prog w = .ok (.bool true) w := fun w => Lib.run_eql_slice_nil w 22 24 none 0 c 0 0 Try.underlying22
    rw [hc0] at heq ⊢
    go_enter Try.func48, Try.ntmps48
    go_wp2
    go_ret
    exact ⟨_, rfl, OwnE.nil _ _ _, Below.refl _ _⟩
  | some ad =>
    obtain ⟨v', w', hr, ho, bw⟩ := run_clone hL 22
    have HR : Hid _ := hr
    have HO : Hid (OwnE _ _ _ _ _) := ho
    have BW : Hid (Below _ _ _) := bw
    have heq : ∀ w, (binOp .eql 22 (.slice (some ad) n c) (.slice none 0 0)).run Try.prog w = .ok (.bool false) w := fun w => Lib.run_eql_slice_nil w 22 24 (some ad) n c 0 0 Try.underlying22
    clear hr ho bw hL
    go_enter Try.func48, Try.ntmps48
    go_wp2_with (at_builtin; refine Lib.wpList_append_run _ rfl _ _ _ _ rfl _ _ rfl rfl _ _ HR.out ?_)
    go_ret
    exact ⟨_, rfl, HO.out, BW.out⟩

theorem Ex.sorted_of : ∀ {S : List Spn}, (∀ i j (hi : i < S.length) (hj : j < S.length), i < j → S[i].1 ≤ S[j].1) → Ex.Sorted S
  | [], _ => trivial
  | [x], _ => trivial
  | x :: y :: l, h => ⟨h 0 1 (by simp) (by simp) (by decide), Ex.sorted_of (S := y :: l) (fun i j hi hj hij => h (i + 1) (j + 1) (by simpa using hi) (by simpa using hj) (by omega))⟩

/-- However the extents of one place are ordered: the spans are the same. -/
theorem Ex.used_any {l D : List Ext} (h : Ex.Ok l) (hp : D.Perm l) (hs : ∀ i j (hi : i < D.length) (hj : j < D.length), i < j → D[i].2.1 ≤ D[j].2.1) : (Ex.spans D).foldl Ex.glue [] = Ex.used l := by
  have hone : ∀ x ∈ Ex.spans D, (0 : Int) ≤ x.1 ∧ 1 ≤ x.2 := by
    intro x hx
    obtain ⟨y, hy, rfl⟩ := List.mem_map.1 hx
    have ho := h.2.1 y (hp.mem_iff.1 hy)
    unfold Ex.One Ex.Fits at ho
    exact ⟨ho.2.2.1, ho.1⟩
  have hsort : Ex.Sorted (Ex.spans D) := Ex.sorted_of (fun i j hi hj hij => by
    have hi' : i < D.length := by simpa [Ex.spans] using hi
    have hj' : j < D.length := by simpa [Ex.spans] using hj
    have := hs i j hi' hj' hij
    simpa [Ex.spans] using this)
  obtain ⟨g1, g2⟩ := Ex.glue_all (out := []) (b := 0) trivial hsort hone (fun x y _ hy => by simp at hy)
  obtain ⟨j1, j2⟩ := Ex.join_ok (l := Ex.spans l) (b := 0) (fun x hx => by
    obtain ⟨y, hy, rfl⟩ := List.mem_map.1 hx
    have ho := h.2.1 y hy
    unfold Ex.One Ex.Fits at ho
    exact ⟨ho.2.2.1, ho.1⟩)
  refine Ex.gaps_unique g1 j1 (fun p => ?_)
  rw [g2 p, show Ex.used l = Ex.join (Ex.spans l) from rfl, j2 p]
  have e : Ex.has [] p ↔ False := by simp [Ex.has]
  rw [e, false_or]
  unfold Ex.has Ex.spans
  constructor
  · rintro ⟨x, hx, hin⟩
    obtain ⟨y, hy, rfl⟩ := List.mem_map.1 hx
    exact ⟨_, List.mem_map.2 ⟨y, hp.mem_iff.1 hy, rfl⟩, hin⟩
  · rintro ⟨x, hx, hin⟩
    obtain ⟨y, hy, rfl⟩ := List.mem_map.1 hx
    exact ⟨_, List.mem_map.2 ⟨y, hp.mem_iff.2 hy, rfl⟩, hin⟩

theorem Ex.spans_next {D : List Ext} {q : Nat} (hq : q < D.length) : (Ex.spans (D.take (q + 1))).foldl Ex.glue [] = Ex.glue ((Ex.spans (D.take q)).foldl Ex.glue []) (D[q].2.1, D[q].2.2) := by
  unfold Ex.spans
  rw [List.take_succ_eq_append_getElem hq, List.map_append, List.foldl_append]
  rfl

set_option maxRecDepth 20000 in
set_option maxHeartbeats 4000000 in
theorem extUsed_u (w : World) (P : Nat → Prop) (a : Option Addr) (n c : Nat) (l : List Ext) (hL : rExts.rd w P [.slice a n c] l) :
    Calls Try.prog 25 #[.slice a n c] w fun e w' => ∃ b, e = .returned (.tuple #[b, .int .i64 (Ex.checkE l)]) ∧ OwnS 44 w' w.heap.size b (Ex.usedL l) ∧ Below w.heap.size w w' := by
  have HR : Hid _ := hL
  by_cases hO : Ex.Ok l
  · have HC : Hid _ := Ex.checkE_ok hO
    have HU : Hid (Ex.usedL l = Ex.used l) := if_pos hO
    have HOk : Hid (Ex.Ok l) := hO
    have hl1024 := hO.1
    have HOne : Hid (∀ y ∈ l, Ex.One y) := hO.2.1
    have hmx := max_fact 3
    clear hL hO
    go_enter Try.func25, Try.ntmps25
    go_wp2_with fail
    refine (extCheck_u _ P _ _ _ l HR.out).mono ?_
    rintro e w1 ⟨rfl, b1⟩
    rw [HC.out]
    have B1 : Hid (Below w.heap.size w w1) := b1
    have HR1 : Hid _ := Rep.below HR.out b1
    clear b1
    go_wp2_with fail
    refine (clone_u _ _ _ _ _ l HR1.out).mono ?_
    rintro e w2 ⟨b, rfl, ho2, b2⟩
    obtain ⟨a2, c2, hv2, -, -⟩ := ho2.slice
    subst hv2
    have HO2 : Hid (OwnE 24 w2 w1.heap.size (.slice a2 l.length c2) l) := ho2
    have B2 : Hid (Below w1.heap.size w1 w2) := b2
    clear ho2 b2
    go_wp2_with fail
    refine (sortExts_u _ _ _ _ _ l HO2.out hl1024).mono ?_
    rintro e w3 ⟨rfl, D, hperm, hsort, hD3, b3⟩
    have hDl : D.length = l.length := hperm.length_eq
    have HUs : Hid ((Ex.spans D).foldl Ex.glue [] = Ex.used l) := Ex.used_any HOk.out hperm hsort
    have HDO : Hid (∀ y ∈ D, Ex.One y) := fun y hy => HOne.out y (hperm.mem_iff.1 hy)
    obtain ⟨n3, hn3⟩ : ∃ n3, n3 = l.length := ⟨_, rfl⟩
    rw [← hn3] at hD3 hDl hl1024 ⊢
    have HDl : Hid (D.length = n3) := hDl
    have HD3 : Hid (rExts.rd w3 (fun b => w1.heap.size ≤ b) [.slice a2 n3 c2] D) := hD3
    have B3 : Hid (Below w1.heap.size w1 w3) := B2.out.trans b3
    have HMD : Hid (∀ q, ∀ y ∈ (Ex.spans (D.take q)).foldl Ex.glue [], Ex.Mid y) := fun q => Ex.mid_glues (fun y hy => by
      obtain ⟨z, hz, rfl⟩ := List.mem_map.1 hy
      have ho := HDO.out z (List.mem_of_mem_take hz)
      unfold Ex.One Ex.Fits at ho
      unfold Ex.Mid
      simp only
      omega)
    have HGl : Hid (∀ q, ((Ex.spans (D.take q)).foldl Ex.glue []).length ≤ q) := fun q => Nat.le_trans (Ex.glue_len _) (by unfold Ex.spans; rw [List.length_map, List.length_take]; omega)
    have HB03 : Hid (Below w.heap.size w w3) := on B1.out B3.out
    have HZ3 : Hid (w.heap.size ≤ w3.heap.size) := HB03.out.size
    clear hperm hsort hD3 b3 hDl hn3
    go_wp2
    go_loopw [6, 21] (fun o i wr => ∃ q : Nat, q ≤ n3 ∧ i = .int .i64 q ∧ Hid (OwnS 44 wr w3.heap.size o ((Ex.spans (D.take q)).foldl Ex.glue [])) ∧ Below w3.heap.size w3 wr) (fun _ i _ => n3 - (intOf i).toNat)
    case atStart => exact ⟨0, Nat.zero_le _, rfl, OwnS.nil _ _ _, Below.refl _ _⟩
    case round =>
      obtain ⟨q, hq, rfl, HO, bel5⟩ := hrel
      have B5 : Hid (Below w3.heap.size w3 wr) := bel5
      by_cases hqj : q < n3
      · have hqs : q < D.length := by rw [HDl.out]; exact hqj
        obtain ⟨g3, o3, rfl, -, hg3, hat3⟩ := rExts_at (Rep.below HD3.out bel5) (by omega)
        obtain ⟨e0, e1, e2, hin⟩ := hat3 q hqs
        have HNg : Hid _ := Ex.spans_next hqs
        have hYo := HDO.out D[q] (List.getElem_mem hqs)
        have hmg := HMD.out q
        have hgl := HGl.out q
        obtain ⟨Y, hY⟩ : ∃ Y, Y = D[q] := ⟨_, rfl⟩
        rw [← hY] at e0 e1 e2 HNg hYo hin
        have HY2 : Hid (In2 (Y.2.1, Y.2.2)) := ⟨hin.2.1, hin.2.2⟩
        generalize hGG : (Ex.spans (D.take q)).foldl Ex.glue [] = G at *
        clear hY hat3 hin
        unfold Ex.One Ex.Fits at hYo
        obtain ⟨y1, ⟨y2, y3, y4, y5⟩, y6, y7, y8, y9⟩ := hYo
        have hqz : (q : Int) < (n3 : Int) := by omega
        obtain ⟨w6, hw6, V6, b6, z6⟩ := boxedRow wr 24 [.int .i64 Y.1, .int .i64 Y.2.1, .int .i64 Y.2.2]
        obtain ⟨d0, d1, d2⟩ := V6.three
        have B6 : Hid (Below w3.heap.size w3 w6) := on bel5 b6
        have HZ6 : Hid (w3.heap.size ≤ w6.heap.size) := B6.out.size
        have HXb : Hid (w3.heap.size ≤ wr.heap.size ∧ wr.heap.size < w6.heap.size) := ⟨bel5.size, V6.lt⟩
        have HO6 : Hid (OwnS 44 w6 w3.heap.size _ G) := HO.out.below b6
        have HV6 : Hid (Row w6 wr.heap.size 24 [.int .i64 Y.1, .int .i64 Y.2.1, .int .i64 Y.2.2]) := V6
        clear V6 b6 z6 bel5 HO hg3
        rcases List.eq_nil_or_concat G with hG | ⟨m, y, hG⟩
        · rw [hG] at HO6 HNg
          obtain ⟨ao, co, hvo, -, -⟩ := HO6.out.slice
          subst hvo
          clear hG hmg hgl
          go_wp2_with fail
          go_quiet (fail)
          have hbz : w3.heap.size ≤ (w6.drewN nq).heap.size := HZ6.out
          have hoa : OwnS 44 ((w6.drewN nq).alloc (.cells #[.int .i64 Y.2.1, .int .i64 Y.2.2] 44)) w3.heap.size (.slice ao 0 co) ([]) := (OwnS.drewN HO6.out nq).below ((Below.refl _ _).alloc (Nat.le_refl _) _)
          have hsz : w3.heap.size ≤ ((w6.drewN nq).alloc (.cells #[.int .i64 Y.2.1, .int .i64 Y.2.2] 44)).heap.size := Nat.le_trans hbz (by simp)
          obtain ⟨v1, w8, hr1, ho1, g1⟩ := run_append_spns hoa ((OwnS.lit 44 (w6.drewN nq) w3.heap.size hbz (Y.2.1, Y.2.2) HY2.out).rd (show (1 : Nat) ≤ 8796093021952 by decide)) (by simp only [List.length_nil]; omega) hsz 47
          have HB1 : Hid (Below w3.heap.size w3 w8) := ((same_drewN B6.out nq).alloc hbz _).trans (hoa.base_below hsz g1)
          have HR8 : Hid _ := hr1
          have HO8 : Hid (OwnS 44 w8 w3.heap.size v1 ((Ex.spans (D.take (q + 1))).foldl Ex.glue [])) := by unfold Hid; rw [HNg.out, Ex.glue_nil]; exact ho1
          clear hr1 ho1 g1 hoa hsz hbz
          go_wp2_with (at_builtin; refine Lib.wpList_append_run _ rfl _ _ _ _ rfl _ _ rfl rfl _ _ HR8.out ?_)
          go_roundw
          case rel => exact ⟨q + 1, by omega, by go_num, HO8, HB1.out⟩
          case measure => simp [intOf]; omega
        · rw [List.concat_eq_append] at hG
          subst hG
          have hym := hmg y (by simp)
          unfold Ex.Mid at hym
          obtain ⟨z1, z2, z3, z4⟩ := hym
          rw [List.length_append, List.length_singleton] at hgl
          obtain ⟨ao, co, hvo, -, -⟩ := HO6.out.slice
          rw [show (m ++ [y]).length = m.length + 1 by simp] at hvo
          subst hvo
          obtain ⟨go, rfl, hgb, hgo, -, hato⟩ := HO6.out.at (by simp)
          obtain ⟨hml, hmy⟩ := Ex.spn_last m y
          obtain ⟨o0, o1, of⟩ := hato m.length hml
          rw [hmy] at o0 o1
          have of1 := of (m.length * 2 + 1)
          have hk1 : (m.length : Int) < ((m.length + 1 : Nat) : Int) := by omega
          have hk2 : (m.length : Int) < (m.length : Int) + 1 := by omega
          have HGB : Hid (w3.heap.size ≤ go) := hgb
          have hm0 : decide ((m.length : Int) < 0) = false := decide_eq_false (by omega)
          have ew : IntKind.i64.wrap (y.1 + y.2) = y.1 + y.2 := by rw [IntKind.wrap_i64]; omega
          clear hato of hmg hml hmy
          by_cases hle : Y.2.1 ≤ y.1 + y.2
          · have hle' : decide (y.1 + y.2 < Y.2.1) = false := decide_eq_false (by omega)
            have HIn : Hid _ := Ex.glue_in (m := m) (x := (Y.2.1, Y.2.2)) hle
            clear hle
            go_wp2_with fail
            go_quiet (fail)
            go_wp2_with fail
            go_region
            go_wp2
            obtain ⟨hml, hmy⟩ := Ex.spn_last m y
            have ho1 : OwnS 44 (w6.drewN nq).drew w3.heap.size (.slice (some ⟨go, 0, none⟩) (m ++ [y]).length co) (m ++ [y]) := by rw [List.length_append]; exact HO6.out.keep (fun _ _ _ => rfl)
            have hs := ho1.setLen hml (m := max y.2 (Y.2.1 + Y.2.2 - y.1)) (by unfold In64; omega)
            rw [hmy, List.length_append] at hs
            go_roundw
            case rel => exact ⟨q + 1, by omega, by go_num, by rw [HNg.out, HIn.out]; exact hs, (same_drewN B6.out nq).drew.setCell (p := ⟨go, m.length * 2 + 1, none⟩) HGB.out _⟩
            case measure => simp [intOf]; omega
          · have hle' : decide (y.1 + y.2 < Y.2.1) = true := decide_eq_true (by omega)
            have HOu : Hid _ := Ex.glue_out (m := m) (x := (Y.2.1, Y.2.2)) hle
            clear hle
            go_wp2_with fail
            go_quiet (fail)
            have hbz : w3.heap.size ≤ (w6.drewN nq).heap.size := HZ6.out
            have hoa : OwnS 44 ((w6.drewN nq).alloc (.cells #[.int .i64 Y.2.1, .int .i64 Y.2.2] 44)) w3.heap.size (.slice (some ⟨go, 0, none⟩) (m.length + 1) co) (m ++ [y]) := (OwnS.drewN HO6.out nq).below ((Below.refl _ _).alloc (Nat.le_refl _) _)
            have hsz : w3.heap.size ≤ ((w6.drewN nq).alloc (.cells #[.int .i64 Y.2.1, .int .i64 Y.2.2] 44)).heap.size := Nat.le_trans hbz (by simp)
            obtain ⟨v1, w8, hr1, ho1, g1⟩ := run_append_spns hoa ((OwnS.lit 44 (w6.drewN nq) w3.heap.size hbz (Y.2.1, Y.2.2) HY2.out).rd (show (1 : Nat) ≤ 8796093021952 by decide)) (by rw [List.length_append]; simp only [List.length_singleton]; omega) hsz 47
            have HB1 : Hid (Below w3.heap.size w3 w8) := ((same_drewN B6.out nq).alloc hbz _).trans (hoa.base_below hsz g1)
            have HR8 : Hid _ := hr1
            have HO8 : Hid (OwnS 44 w8 w3.heap.size v1 ((Ex.spans (D.take (q + 1))).foldl Ex.glue [])) := by unfold Hid; rw [HNg.out, HOu.out]; exact ho1
            clear hr1 ho1 g1 hoa hsz hbz
            go_wp2_with (at_builtin; refine Lib.wpList_append_run _ rfl _ _ _ _ rfl _ _ rfl rfl _ _ HR8.out ?_)
            go_roundw
            case rel => exact ⟨q + 1, by omega, by go_num, HO8, HB1.out⟩
            case measure => simp [intOf]; omega
      · have hqe : q = n3 := by omega
        subst hqe
        have HFin : Hid ((Ex.spans (D.take q)).foldl Ex.glue [] = Ex.used l) := by unfold Hid; rw [← HUs.out, List.take_of_length_le (by rw [HDl.out]; exact Nat.le_refl _)]
        have HOf : Hid _ := HO.out.mono HZ3.out
        clear HO
        go_wp2
        go_ret2
        exact ⟨_, by rw [HC.out]; rfl, by rw [HU.out, ← HFin.out]; exact HOf.out, on HB03.out B5.out⟩
  · have HC : Hid _ := Ex.checkE_no hO
    have HU : Hid (Ex.usedL l = []) := if_neg hO
    clear hO hL
    go_enter Try.func25, Try.ntmps25
    go_wp2_with fail
    refine (extCheck_u _ P _ _ _ l HR.out).mono ?_
    rintro e w1 ⟨rfl, b1⟩
    rw [HC.out]
    go_wp2
    go_ret2
    exact ⟨_, by rw [HC.out]; rfl, by rw [HU.out]; exact OwnS.nil _ _ _, b1⟩

end Go.Proofs.Ytlpmfbinemmikaa
