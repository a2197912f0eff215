/-
  The landed refs: the references into some sectors. Conditions: those that each contract names.
-/
import Derived.Test.YtinlgoljaiolnabNSort
import Derived.Test.YtinlgoljaiolnabNMps
import Derived.Test.YtinlgoljaiolnabEMax
import Derived.Lib.AppendZeros
namespace Go.Proofs.Ytinlgoljaiolnab
open Go.RowKit
set_option linter.unusedVariables false

/-- What the walk over maps has laid: the list, and a box of the caller's beside it. -/
structure Rf.Laid (B : Nat) (o : Value) : Prop where
  apart : ∀ b, o.ownBlock = some b → b ≠ B

theorem Rf.Laid.next {B : Nat} {v v' : Value} {w w' : World} (h : Rf.Laid B v) (g : Grew w w' v v') (hB : B < w.heap.size) : Rf.Laid B v' :=
  ⟨fun b e => by rcases g.place b e with k | k
                 · exact h.apart b k
                 · omega⟩

theorem rfr_new (w : World) (x : Rfr) (t : TypeId) : ∀ j u, (rfr4 x)[j]? = some u → (w.alloc (.cells #[.int .i64 x.1, .int .i64 x.2.1, .int .i64 x.2.2.1, .int .i64 x.2.2.2] t)).cell? ((⟨w.heap.size, 0, none⟩ : Addr).add j) = some u := by
  intro j u hj
  rw [Addr.add_lit, Nat.zero_add]
  match j, hj with
  | 0, hj => simp [rfr4] at hj; subst hj; simp
  | 1, hj => simp [rfr4] at hj; subst hj; simp
  | 2, hj => simp [rfr4] at hj; subst hj; simp
  | 3, hj => simp [rfr4] at hj; subst hj; simp

set_option maxRecDepth 20000 in
set_option maxHeartbeats 8000000 in
theorem into_u (w : World) (P : Nat → Prop) (a : Option Addr) (n c : Nat) (M : List Mpr) (hM : rMps.rd w P [.slice a n c] M) (hC : Rf.checkM M = 0) (x : Spn) (hx0 : 0 ≤ x.1) (hx1 : 1 ≤ x.2) (hx2 : In2 x) :
    Calls Try.prog 19 #[.slice a n c, .agg #[.int .i64 x.1, .int .i64 x.2]] w fun e w' => ∃ b, e = .returned b ∧ OwnR 57 w' w.heap.size b (Rf.whoR x M) ∧ Below w.heap.size w w' := by
  obtain ⟨hl, hnc, hnil, hb⟩ := rList_len hM
  have HL : Hid (M.length = n) := hl
  have HC : Hid (Rf.checkM M = 0) := hC
  have hn9 : n ≤ 9 := by have := (Rf.checkM_zero.1 hC).1; omega
  have HAll : Hid (∀ o ∈ M, -1 < o.1 ∧ 0 ≤ o.1 ∧ o.1 ≤ 255 ∧ Ex.Ok o.2) := (Rf.mays_all (Rf.checkM_zero.1 hC).2).1
  have HFew : Hid ((Rf.allR M).length ≤ 9216) := Rf.all_few hC
  unfold In2 In64 at hx2
  obtain ⟨⟨-, i1⟩, -, i2⟩ := hx2
  obtain ⟨en, hen⟩ : ∃ en, en = x.1 + min x.2 (65536 - x.1) := ⟨_, rfl⟩
  have HEN : Hid (en = x.1 + min x.2 (65536 - x.1)) := hen
  have e1 : IntKind.i64.wrap (65536 - x.1) = 65536 - x.1 := by rw [IntKind.wrap_i64]; omega
  have hmn0 : ∀ w, (Builtin.min_ #[3, 3] 3 #[.int .i64 x.2, .int .i64 (65536 - x.1)]).run Try.prog w = .ok (.int .i64 (en - x.1)) w := by
    intro w
    rw [min_fact 3 x.2 (65536 - x.1) w, hen, Int.add_comm, Int.add_sub_cancel]
  have e2 : IntKind.i64.wrap (x.1 + (en - x.1)) = en := by rw [IntKind.wrap_i64]; omega
  have HX0 : Hid (0 ≤ x.1) := hx0
  have HE0 : Hid (en ≤ 65536) := by unfold Hid; omega
  obtain ⟨w1, hw1, V1, b1, z1⟩ := boxedRow w 24 [.int .i64 x.1, .int .i64 x.2]
  obtain ⟨s0, s1⟩ : w1.cell? ⟨w.heap.size, 0, none⟩ = some (.int .i64 x.1) ∧ w1.cell? ⟨w.heap.size, 1, none⟩ = some (.int .i64 x.2) := ⟨V1.cell (j := 0) rfl, V1.cell (j := 1) rfl⟩
  have HV1 : Hid (Row w1 w.heap.size 24 [.int .i64 x.1, .int .i64 x.2]) := V1
  have B1 : Hid (Below w.heap.size w w1) := b1
  have HM1 : Hid (rMps.rd w1 P [.slice a n c] M) := Rep.below hM b1
  have HZ1 : Hid (w.heap.size < w1.heap.size) := V1.lt
  clear V1 b1 z1 hM hC hl hnc hnil hb hen hx0 hx1 i1 i2
  go_enter Try.func19, Try.ntmps19
  go_wp2
  go_loopw [6, 24] (fun o i wr => ∃ q : Nat, q ≤ n ∧ i = .int .i64 q ∧ Hid (OwnR 57 wr w1.heap.size o (Rf.cutA x (Rf.allR (M.take q)))) ∧ Below w1.heap.size w1 wr) (fun _ i _ => n - (intOf i).toNat)
  case atStart => exact ⟨0, Nat.zero_le _, rfl, OwnR.nil _ _ _, Below.refl _ _⟩
  case round =>
    obtain ⟨q, hq, rfl, HO, belo⟩ := hrel
    obtain ⟨wo, hwo⟩ : ∃ wo, wo = wr := ⟨_, rfl⟩
    rw [← hwo] at HO belo ⊢
    clear hwo
    have BO : Hid (Below w1.heap.size w1 wo) := belo
    have HZo : Hid (w1.heap.size ≤ wo.heap.size) := belo.size
    by_cases hqn : q < n
    · have hqM : q < M.length := by rw [HL.out]; exact hqn
      obtain ⟨g, off, rfl, -, hgl, hat⟩ := rMps_at HM1.out (by omega)
      obtain ⟨a2, n2, k2, c0', c1', hrx, hi64⟩ := hat q hqM
      have c0 := (belo.cell (p := ⟨g, off + q * 2, none⟩) hgl).trans c0'
      have c1 := (belo.cell (p := ⟨g, off + q * 2 + 1, none⟩) hgl).trans c1'
      have HTk : Hid (Rf.allR (M.take (q + 1)) = Rf.allR (M.take q) ++ M[q].2.map (Rf.ofExt M[q].1)) := Rf.all_take hqM
      have hOk := HAll.out M[q] (List.getElem_mem hqM)
      have HXl : Hid (M[q].2.length = n2) := (rList_len hrx).1
      have HFq : Hid (∀ k, (Rf.cutA x (Rf.allR (M.take q) ++ (M[q].2.take k).map (Rf.ofExt M[q].1))).length ≤ 9216) := fun k => by
        have h1 : (Rf.cutA x (Rf.allR (M.take q) ++ (M[q].2.take k).map (Rf.ofExt M[q].1))).length ≤ _ := List.length_filterMap_le _ _
        have h2 : ((M[q].2.take k).map (Rf.ofExt M[q].1)).length ≤ (M[q].2.map (Rf.ofExt M[q].1)).length := by simp; omega
        have h3 : Rf.allR M = Rf.allR (M.take (q + 1)) ++ Rf.allR (M.drop (q + 1)) := by
          rw [← List.take_append_drop (q + 1) M, List.take_append_drop]
          unfold Rf.allR
          rw [← List.flatMap_append, List.take_append_drop]
        have h4 := HFew.out
        rw [h3, HTk.out] at h4
        rw [List.length_append] at h1
        simp only [List.length_append] at h4
        omega
      have HOne : Hid (∀ y ∈ M[q].2, Ex.One y) := hOk.2.2.2.2.1
      have hn2 : n2 ≤ 1024 := by have := hOk.2.2.2.1; rw [HXl.out] at this; exact this
      have ho1 := hOk.2.1
      have ho2 := hOk.2.2.1
      generalize hGO : M[q].1 = O at *
      generalize hGX : M[q].2 = X at *
      clear hGO hGX hOk hat
      obtain ⟨w2, hw2, V2, b2, z2⟩ := boxedRow wo 31 [.int .i64 O, .slice a2 n2 k2]
      obtain ⟨d0, d1⟩ : w2.cell? ⟨wo.heap.size, 0, none⟩ = some (.int .i64 O) ∧ w2.cell? ⟨wo.heap.size, 1, none⟩ = some (.slice a2 n2 k2) := ⟨V2.cell (j := 0) rfl, V2.cell (j := 1) rfl⟩
      have HV2 : Hid (Row w2 wo.heap.size 31 [.int .i64 O, .slice a2 n2 k2]) := V2
      have B2 : Hid (Below w1.heap.size w1 w2) := on belo b2
      have HXr : Hid (∀ W, Below w1.heap.size w1 W → rExts.rd W P [.slice a2 n2 k2] X) := fun W b => Rep.below hrx b
      have HO2 : Hid (OwnR 57 w2 w1.heap.size u6 (Rf.cutA x (Rf.allR (M.take q)))) := HO.out.below b2
      have HLd : Hid (Rf.Laid wo.heap.size u6) := ⟨fun b e => by have := (HO.out.row.lt b e).2; omega⟩
      have hqz : (q : Int) < (n : Int) := by omega
      clear V2 b2 z2 hrx hi64 belo HO hqM c0' c1'
      go_wp2
      go_loopw [6, 31] (fun o i wr => ∃ k : Nat, k ≤ n2 ∧ i = .int .i64 k ∧ Hid (OwnR 57 wr w1.heap.size o (Rf.cutA x (Rf.allR (M.take q) ++ (X.take k).map (Rf.ofExt O)))) ∧ Hid (Rf.Laid wo.heap.size o) ∧ Hid (Row wr wo.heap.size 31 [.int .i64 O, .slice a2 n2 k2]) ∧ Below w1.heap.size w1 wr ∧ Hid (w2.heap.size ≤ wr.heap.size)) (fun _ i _ => n2 - (intOf i).toNat)
      case atStart => exact ⟨0, Nat.zero_le _, rfl, (by rw [List.take_zero, List.map_nil, List.append_nil]; exact HO2.out : OwnR _ _ _ _ _), HLd, HV2, B2.out, Nat.le_refl _⟩
      case round =>
        obtain ⟨k, hk, rfl, HO, HLk, HVk, belk, HZk⟩ := hrel
        have BK : Hid (Below w1.heap.size w1 wr) := belk
        obtain ⟨v0, v1⟩ : wr.cell? ⟨wo.heap.size, 0, none⟩ = some (.int .i64 O) ∧ wr.cell? ⟨wo.heap.size, 1, none⟩ = some (.slice a2 n2 k2) := ⟨HVk.out.cell (j := 0) rfl, HVk.out.cell (j := 1) rfl⟩
        by_cases hkn : k < n2
        · have hkX : k < X.length := by rw [HXl.out]; exact hkn
          obtain ⟨g2, o2, rfl, -, hg2, hat2⟩ := rExts_at (HXr.out wr belk) (by omega)
          obtain ⟨y0, y1, y2, -⟩ := hat2 k hkX
          have hYo := HOne.out X[k] (List.getElem_mem hkX)
          have HNx : Hid _ := Rf.cutA_next (x := x) (A := Rf.allR (M.take q)) (o := O) hkX
          have hfew := HFq.out k
          obtain ⟨Y, hY⟩ : ∃ Y, Y = X[k] := ⟨_, rfl⟩
          rw [← hY] at y0 y1 y2 hYo HNx
          clear hY hat2
          unfold Ex.One Ex.Fits at hYo
          obtain ⟨t1, ⟨t2, t3, t4, t5⟩, t6, t7, t8, t9⟩ := hYo
          obtain ⟨fr, hfr⟩ : ∃ fr, fr = max Y.2.1 x.1 := ⟨_, rfl⟩
          obtain ⟨to_, hto⟩ : ∃ to_, to_ = min (Y.2.1 + Y.2.2) en := ⟨_, rfl⟩
          have hmx : ∀ w, (Builtin.max_ #[3, 3] 3 #[.int .i64 Y.2.1, .int .i64 x.1]).run Try.prog w = .ok (.int .i64 fr) w := fun w => by rw [max_fact 3 Y.2.1 x.1 w, hfr]
          have hmn : ∀ w, (Builtin.min_ #[3, 3] 3 #[.int .i64 (Y.2.1 + Y.2.2), .int .i64 en]).run Try.prog w = .ok (.int .i64 to_) w := fun w => by rw [min_fact 3 (Y.2.1 + Y.2.2) en w, hto]
          have HCut : Hid (Rf.cutR x (Rf.ofExt O Y) = if fr < to_ then some (fr, to_ - fr, O, Y.1 + fr - Y.2.1) else none) := by
            unfold Hid Rf.cutR Rf.ofExt
            have h1 := Rf.cut_end (r := (Y.2.1, Y.2.2, O, Y.1)) HEN.out (show Y.2.1 + Y.2.2 ≤ 65536 by omega)
            simp only at h1 ⊢
            rw [h1, hfr, hto]
          have h65 := HE0.out
          have hx0' := HX0.out
          have f1 : 0 ≤ fr := by omega
          have f2 : to_ ≤ 65536 := by omega
          have f3 : Y.2.1 ≤ fr := by omega
          have f4 : fr < to_ → Y.1 + fr - Y.2.1 ≤ 65536 := by omega
          have HF4 : Hid _ := f4
          have HFto : Hid (to_ = min (Y.2.1 + Y.2.2) en) := hto
          obtain ⟨w6, hw6, V6, b6, z6⟩ := boxedRow wr 43 [.int .i64 Y.1, .int .i64 Y.2.1, .int .i64 Y.2.2]
          obtain ⟨p0, p1, p2⟩ := V6.three
          have S0 : w6.cell? ⟨w.heap.size, 0, none⟩ = some (.int .i64 x.1) := (HV1.out.keep ((on belk b6).block w.heap.size HZ1.out)).cell (j := 0) rfl
          have v0' : w6.cell? ⟨wo.heap.size, 0, none⟩ = some (.int .i64 O) := (HVk.out.below b6).cell (j := 0) rfl
          have B6 : Hid (Below w1.heap.size w1 w6) := on belk b6
          have HO6 : Hid (OwnR 57 w6 w1.heap.size _ _) := HO.out.below b6
          have HV6 : Hid (Row w6 wo.heap.size 31 [.int .i64 O, .slice (some ⟨g2, o2, none⟩) n2 k2]) := HVk.out.below b6
          have hkz : (k : Int) < (n2 : Int) := by omega
          have HZ6 : Hid (w2.heap.size ≤ w6.heap.size) := Nat.le_trans HZk.out b6.size
          have HW12 : Hid (w1.heap.size ≤ w6.heap.size) := B6.out.size
          have eY : IntKind.i64.wrap (Y.2.1 + Y.2.2) = Y.2.1 + Y.2.2 := by rw [IntKind.wrap_i64]; omega
          clear V6 b6 z6 HO f4 hfr hto h65 hx0' belk
          by_cases hlt : fr < to_
          · have hg := HF4.out hlt
            have HIn4 : Hid (In4 (fr, to_ - fr, O, Y.1 + fr - Y.2.1)) := by unfold Hid In4 In64; simp only; omega
            have HNew : Hid (∀ j u, (rfr4 (fr, to_ - fr, O, Y.1 + fr - Y.2.1))[j]? = some u → (w6.alloc (Obj.cells #[.int .i64 fr, .int .i64 (to_ - fr), .int .i64 O, .int .i64 (Y.1 + fr - Y.2.1)] 57)).drew.cell? ((⟨w6.heap.size, 0, none⟩ : Addr).add j) = some u) := rfr_new w6 (fr, to_ - fr, O, Y.1 + fr - Y.2.1) 57
            have ba : Below w6.heap.size w6 (w6.alloc (Obj.cells #[.int .i64 fr, .int .i64 (to_ - fr), .int .i64 O, .int .i64 (Y.1 + fr - Y.2.1)] 57)).drew := ((Below.refl w6.heap.size w6).alloc (Nat.le_refl _) _).drew
            have hoa := HO6.out.below ba
            have hsz : w1.heap.size ≤ (w6.alloc (Obj.cells #[.int .i64 fr, .int .i64 (to_ - fr), .int .i64 O, .int .i64 (Y.1 + fr - Y.2.1)] 57)).drew.heap.size := Nat.le_trans HW12.out ba.size
            obtain ⟨v', w8, hr1, ho1', g1⟩ := run_append_rfr hoa (c := 1) HNew.out HIn4.out (by omega) hsz 36
            have hbx : wo.heap.size < w6.heap.size := HV6.out.lt
            have HR8 : Hid _ := hr1
            have HO8 : Hid (OwnR 57 w8 w1.heap.size v' (Rf.cutA x (Rf.allR (M.take q) ++ (X.take (k + 1)).map (Rf.ofExt O)))) := by unfold Hid; rw [HNx.out, HCut.out, if_pos hlt]; exact ho1'
            have HL8 : Hid (Rf.Laid wo.heap.size v') := HLk.out.next g1 (Nat.lt_of_lt_of_le hbx ba.size)
            have HV8 : Hid (Row w8 wo.heap.size 31 [.int .i64 O, .slice (some ⟨g2, o2, none⟩) n2 k2]) := (HV6.out.below ba).keep (g1.block _ (Nat.lt_of_lt_of_le hbx ba.size) (fun e => HLk.out.apart _ e.symm rfl))
            have HB8 : Hid (Below w1.heap.size w1 w8) := (B6.out.alloc HW12.out _).drew.trans (hoa.base_below hsz g1)
            have HZ8 : Hid (w2.heap.size ≤ w8.heap.size) := Nat.le_trans HZ6.out (Nat.le_trans ba.size g1.grown.size)
            clear hr1 ho1' g1 hoa hsz ba hbx
            go_wp2_with fail
            go_region
            go_wp2_with (at_builtin; refine Lib.wpList_append_run _ rfl _ _ _ _ rfl _ _ rfl rfl _ _ HR8.out ?_)
            go_roundw
            case rel => exact ⟨k + 1, by omega, by go_num, HO8, HL8, HV8, HB8.out, HZ8⟩
            case measure => simp [intOf]; omega
          · have HO8 : Hid (OwnR 57 w6.drew w1.heap.size u6 (Rf.cutA x (Rf.allR (M.take q) ++ (X.take (k + 1)).map (Rf.ofExt O)))) := by
              unfold Hid
              rw [HNx.out, HCut.out, if_neg hlt]
              show OwnR _ _ _ _ (_ ++ [])
              rw [List.append_nil]
              exact HO6.out.keep (fun _ _ _ => rfl)
            have HV8 : Hid (Row w6.drew wo.heap.size 31 [.int .i64 O, .slice (some ⟨g2, o2, none⟩) n2 k2]) := HV6.out.keep rfl
            go_wp2_with fail
            go_region
            go_wp2
            go_roundw
            case rel => exact ⟨k + 1, by omega, by go_num, HO8, HLk, HV8, B6.out.drew, HZ6⟩
            case measure => simp [intOf]; omega
        · obtain rfl : k = n2 := by omega
          have HOe : Hid (OwnR 57 wr w1.heap.size u6 (Rf.cutA x (Rf.allR (M.take (q + 1))))) := by
            have h := HO.out
            have eX : X.take k = X := List.take_of_length_le (by rw [HXl.out]; exact Nat.le_refl _)
            rw [eX, ← HTk.out] at h
            exact h
          clear HO
          go_wp2
          go_roundw
          case rel => exact ⟨q + 1, by omega, by go_num, HOe, BK.out⟩
          case measure => simp [intOf]; omega
    · obtain rfl : q = n := by omega
      have HTn : Hid (M.take q = M) := List.take_of_length_le (by rw [HL.out]; exact Nat.le_refl _)
      have HOa : Hid (OwnR 57 wo w1.heap.size u6 (Rf.cutA x (Rf.allR M))) := by have h := HO.out; rw [HTn.out] at h; exact h
      obtain ⟨ao, co, hvo, -, -⟩ := HOa.out.slice
      subst hvo
      have HFw : Hid ((Rf.cutA x (Rf.allR M)).length ≤ 1000000) := by
        have h1 : (Rf.cutA x (Rf.allR M)).length ≤ (Rf.allR M).length := List.length_filterMap_le _ _
        have h2 := HFew.out
        unfold Hid
        omega
      clear HO
      generalize hgl : (Rf.cutA x (Rf.allR M)).length = ln at *
      have HGl : Hid _ := hgl
      clear hgl
      go_wp2_with fail
      refine (sortR_u _ _ _ _ _ _ HOa.out (by rw [HGl.out]; exact HFw.out)).mono ?_
      rintro e w9 ⟨rfl, D, hperm, hup, ho9, b9⟩
      have HD : Hid (D = Rf.whoR x M) := Rf.who_landed (Rf.okM HC.out) hperm hup
      have HO9 : Hid (OwnR 57 w9 w1.heap.size _ D) := ho9
      have B9 : Hid (Below w1.heap.size w1 w9) := BO.out.trans b9
      clear hperm hup ho9 b9
      go_wp2
      go_ret
      exact ⟨_, rfl, by rw [← HD.out]; exact HO9.out.mono (Nat.le_of_lt HZ1.out), on B1.out B9.out⟩

end Go.Proofs.Ytinlgoljaiolnab
