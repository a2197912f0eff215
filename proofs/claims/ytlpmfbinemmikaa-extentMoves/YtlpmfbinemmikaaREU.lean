/-
  The contract of the document's own Used: the spans that a map stands in. Conditions: those that it names.
-/
import Derived.Test.YtlpmfbinemmikaaREJ
import Derived.Test.YtlpmfbinemmikaaXA
namespace Go.Proofs.Ytlpmfbinemmikaa
open Go.RowKit
set_option linter.unusedVariables false

theorem step_append_run {w : World} {ops : Array Oper} {o : Oper} {a : Go.Act} {K : Go.Act → World → Prop} {Q : Exit → Go.Act → World → Prop} {E : Prop} {T : TypeId} (hgd : o.guard = none) (s x : Operand)
    (ho : o.op = .call { callee := .builtin .append, args := #[s, x], argTypes := #[T, T] }) (v u : Value) (hs : a.eval s = v) (hx : a.eval x = u) (v' : Value) (w'' : World) (hr : (Builtin.append_ #[T, T] o.type #[v, u]).run Try.prog w = .ok v' w'')
    (h : K (a.put o.dst v') w'') : if Region.wanted o (yielded ops a.tmps) = true then Oper.wp Try.prog o a w K Q else E := by
  have hw : Region.wanted o (yielded ops a.tmps) = true := by simp [Region.wanted, hgd]
  rw [if_pos hw]
  unfold Oper.wp execOp
  simp only [ho, resolve, invoke, builtin, Sem.run_bind, Sem.run_pure, Result.andThen_ok, List.map_toArray, List.map_cons, List.map_nil, hs, hx, hr]
  exact h

def Ex.spans (l : List Ext) : List Spn := l.map fun e => (e.2.1, e.2.2)

set_option maxHeartbeats 3000000 in
theorem refUsed_u (w : World) (P : Nat → Prop) (a : Option Addr) (n c : Nat) (l : List Ext) (hL : rExts.rd w P [.slice a n c] l) :
    Calls Try.prog 26 #[.slice a n c] w fun e w' => ∃ b, e = .returned (.tuple #[b, .int .i64 (Ex.checkE l)]) ∧ OwnS 44 w' w.heap.size b (Ex.usedL l) ∧ Below w.heap.size w w' := by
  have HR : Hid _ := hL
  by_cases hO : Ex.Ok l
  · have HC : Hid _ := Ex.checkE_ok hO
    have HU : Hid (Ex.usedL l = Ex.join (Ex.spans l)) := if_pos hO
    obtain ⟨hl, hnc, hnil, hb⟩ := rList_len hL
    have HLn : Hid (l.length = n) := hl
    have hn : n ≤ 1024 := by have := hO.1; omega
    have HOne : Hid (∀ y ∈ l, Ex.One y) := hO.2.1
    have HMid : Hid (∀ x ∈ Ex.spans l, Ex.Mid x) := by
      intro x hx
      obtain ⟨y, hy, rfl⟩ := List.mem_map.1 hx
      have ho := HOne.out y hy
      unfold Ex.One Ex.Fits at ho
      unfold Ex.Mid
      simp only
      omega
    clear hL hO hl hnc hnil hb
    go_enter Try.func26, Try.ntmps26
    go_wp2_with fail
    refine (refCheck5_u _ P _ _ _ l HR.out).mono ?_
    rintro e w1 ⟨rfl, b1⟩
    rw [HC.out]
    have B1 : Hid (Below w.heap.size w w1) := b1
    have HR1 : Hid _ := Rep.below HR.out b1
    clear b1
    go_wp2
    go_loopw [4, 5] (fun o i wr => ∃ j : Nat, j ≤ n ∧ i = .int .i64 j ∧ Hid (OwnS 44 wr w1.heap.size o (Ex.spans (l.take j))) ∧ Below w1.heap.size w1 wr) (fun _ i _ => n - (intOf i).toNat)
    case atStart => exact ⟨0, Nat.zero_le _, rfl, OwnS.nil _ _ _, Below.refl _ _⟩
    case round =>
      obtain ⟨j, hj, rfl, HW, bel⟩ := hrel
      have BL : Hid (Below w1.heap.size w1 wr) := bel
      by_cases hlt : j < n
      · have hkl : j < l.length := by rw [HLn.out]; exact hlt
        obtain ⟨g, off, rfl, -, hg1, hat⟩ := rExts_at HR1.out (by omega)
        obtain ⟨f0, f1, f2, hin⟩ := hat j hkl
        have c1 : wr.cell? ⟨g, off + j * 3 + 1, none⟩ = some (.int .i64 l[j].2.1) := (bel.cell (p := ⟨g, off + j * 3 + 1, none⟩) hg1).trans f1
        have c2 : wr.cell? ⟨g, off + j * 3 + 2, none⟩ = some (.int .i64 l[j].2.2) := (bel.cell (p := ⟨g, off + j * 3 + 2, none⟩) hg1).trans f2
        have HNx : Hid (Ex.spans (l.take (j + 1)) = Ex.spans (l.take j) ++ [(l[j].2.1, l[j].2.2)]) := by unfold Hid Ex.spans; rw [List.take_succ_eq_append_getElem hkl, List.map_append]; rfl
        have HLen : Hid ((Ex.spans (l.take j)).length = j) := by unfold Hid Ex.spans; rw [List.length_map, List.length_take]; omega
        obtain ⟨Y, hY⟩ : ∃ Y, Y = l[j] := ⟨_, rfl⟩
        rw [← hY] at f1 f2 c1 c2 hin HNx
        have HGw : Hid (g < w1.heap.size) := hg1
        have SK : Hid (∀ {w'}, Below w1.heap.size w1 w' → w'.cell? ⟨g, off + j * 3 + 1, none⟩ = some (.int .i64 Y.2.1) ∧ w'.cell? ⟨g, off + j * 3 + 2, none⟩ = some (.int .i64 Y.2.2)) := fun b => ⟨(b.cell (p := ⟨g, off + j * 3 + 1, none⟩) hg1).trans f1, (b.cell (p := ⟨g, off + j * 3 + 2, none⟩) hg1).trans f2⟩
        have HY2 : Hid (In2 (Y.2.1, Y.2.2)) := ⟨hin.2.1, hin.2.2⟩
        have hjz : (j : Int) < (n : Int) := by omega
        clear hY hat hin
        have hoa : OwnS 44 (wr.drew.alloc (.cells #[.int .i64 Y.2.1, .int .i64 Y.2.2] 44)) w1.heap.size _ (Ex.spans (l.take j)) := (HW.out.below (Below.refl _ _).drew).below ((Below.refl _ _).alloc (Nat.le_refl _) _)
        have hsz : w1.heap.size ≤ (wr.drew.alloc (.cells #[.int .i64 Y.2.1, .int .i64 Y.2.2] 44)).heap.size := Nat.le_trans bel.size (by simp)
        obtain ⟨v1, w2, hr1, ho1, g1⟩ := run_append_spns hoa ((OwnS.lit 44 wr.drew w1.heap.size bel.size (Y.2.1, Y.2.2) HY2.out).rd (show (1 : Nat) ≤ 8796093021952 by decide)) (by rw [HLen.out]; omega) hsz 47
        have HB2 : Hid (Below w1.heap.size w1 w2) := ((bel.drew).alloc bel.size _).trans (hoa.base_below hsz g1)
        have HR2 : Hid _ := hr1
        have HO2 : Hid (OwnS 44 w2 w1.heap.size v1 (Ex.spans (l.take (j + 1)))) := by unfold Hid; rw [HNx.out]; exact ho1
        clear hr1 ho1 g1 hoa hsz bel
        go_wp2_with fail
        refine wp_region_held_drew (S := (fun w' : World => w'.cell? ⟨g, off + j * 3 + 1, none⟩ = some (.int .i64 Y.2.1) ∧ w'.cell? ⟨g, off + j * 3 + 2, none⟩ = some (.int .i64 Y.2.2))) (by kernel_rfl) (SK.out BL.out.drew) (fun hHeld => ?_)
        refine wpAnyH_takeL (i := 0) (v := ?_) rfl rfl (by kernel_rfl) (by kernel_rfl) (by kernel_rfl) (fun _ _ _ h => h) (Or.inl ⟨by rfl, ?_⟩) (by assumption) ?_
        rotate_left
        · intro w hSw
          try dsimp only at hSw
          go_simp
          all_goals with_reducible rfl
        simp only [List.set_cons_zero, List.set_cons_succ]
        refine wpAnyH_takeL (i := 1) (v := ?_) rfl rfl (by kernel_rfl) (by kernel_rfl) (by kernel_rfl) (fun _ _ _ h => h) (Or.inl ⟨by rfl, ?_⟩) (by assumption) ?_
        rotate_left
        · intro w hSw
          try dsimp only at hSw
          go_simp
          all_goals with_reducible rfl
        simp only [List.set_cons_zero, List.set_cons_succ]
        refine wpAnyH_takeL (i := 2) (v := ?_) rfl rfl (by kernel_rfl) (by kernel_rfl) (by kernel_rfl) (fun _ _ _ h => h) (Or.inl ⟨by rfl, ?_⟩) (by assumption) ?_
        rotate_left
        · intro w hSw
          try dsimp only at hSw
          go_simp
          all_goals with_reducible rfl
        simp only [List.set_cons_zero, List.set_cons_succ]
        refine wpAnyH_takeL (i := 3) (v := ?_) rfl rfl (by kernel_rfl) (by kernel_rfl) (by kernel_rfl) (fun _ _ _ h => h) (Or.inl ⟨by rfl, ?_⟩) (by assumption) ?_
        rotate_left
        · intro w hSw
          try dsimp only at hSw
          go_simp
          all_goals with_reducible rfl
        simp only [List.set_cons_zero, List.set_cons_succ]
        refine wpAnyH_takeL (i := 4) (v := ?_) rfl rfl (by kernel_rfl) (by kernel_rfl) (by kernel_rfl) (fun _ _ _ h => h) (Or.inl ⟨by rfl, ?_⟩) (by assumption) ?_
        rotate_left
        · intro w hSw
          try dsimp only at hSw
          go_simp
          all_goals with_reducible rfl
        simp only [List.set_cons_zero, List.set_cons_succ]
        refine wpAnyH_takeL (i := 5) (v := ?_) rfl rfl (by kernel_rfl) (by kernel_rfl) (by kernel_rfl) (fun _ _ _ h => h) (Or.inl ⟨by rfl, ?_⟩) (by assumption) ?_
        rotate_left
        · intro w hSw
          try dsimp only at hSw
          go_simp
          all_goals with_reducible rfl
        simp only [List.set_cons_zero, List.set_cons_succ]
        refine wpAnyH_takeL (i := 6) (v := ?_) rfl rfl (by kernel_rfl) (by kernel_rfl) (by kernel_rfl) (fun _ _ _ h => h) (Or.inl ⟨by rfl, ?_⟩) (by assumption) ?_
        rotate_left
        · intro w hSw
          try dsimp only at hSw
          go_simp
          all_goals with_reducible rfl
        simp only [List.set_cons_zero, List.set_cons_succ]
        refine wpAnyH_takeL (i := 7) (v := ?_) rfl rfl (by kernel_rfl) (by kernel_rfl) (by kernel_rfl) (fun _ _ _ h => h) (Or.inl ⟨by rfl, ?_⟩) (by assumption) ?_
        rotate_left
        · intro w hSw
          try dsimp only at hSw
          go_simp
          all_goals with_reducible rfl
        simp only [List.set_cons_zero, List.set_cons_succ]
        refine wpAnyH_takeL (i := 8) (v := ?_) rfl rfl (by kernel_rfl) (by kernel_rfl) (by kernel_rfl) (fun _ _ _ h => h) (Or.inl ⟨by rfl, ?_⟩) (by assumption) ?_
        rotate_left
        · intro w hSw
          try dsimp only at hSw
          go_simp
          all_goals with_reducible rfl
        simp only [List.set_cons_zero, List.set_cons_succ]
        refine wpAnyH_takeL (i := 9) (v := ?_) rfl rfl (by kernel_rfl) (by kernel_rfl) (by kernel_rfl) (fun _ _ _ h => h) (Or.inl ⟨by rfl, ?_⟩) (by assumption) ?_
        rotate_left
        · intro w hSw
          try dsimp only at hSw
          go_simp
          all_goals with_reducible rfl
        simp only [List.set_cons_zero, List.set_cons_succ]
        refine wpAnyH_takeL (i := 10) (v := ?_) rfl rfl (by kernel_rfl) (by kernel_rfl) (by kernel_rfl) (fun _ _ _ h => h) (Or.inl ⟨by rfl, ?_⟩) (by assumption) ?_
        rotate_left
        · intro w hSw
          try dsimp only at hSw
          go_simp
          all_goals with_reducible rfl
        simp only [List.set_cons_zero, List.set_cons_succ]
        refine wpAnyH_takeL (i := 11) (v := ?_) rfl rfl (by kernel_rfl) (by kernel_rfl) (by kernel_rfl) (fun _ _ _ h => h) (Or.inl ⟨by rfl, ?_⟩) (by assumption) ?_
        rotate_left
        · intro w hSw
          try dsimp only at hSw
          go_simp
          all_goals with_reducible rfl
        simp only [List.set_cons_zero, List.set_cons_succ]
        refine wpAnyH_ready (rs := [12]) (by kernel_rfl) (by simp) ?_
        refine AllReadyH.cons rfl (fun K hK => ?_) ?_
        · go_simp
          refine hK.out _ _ ?_ (fun hHeld => ?_)
          · try dsimp only
            first | exact SK.out HB2.out | exact SK.out (BL.out.drew.alloc BL.out.size _)
          clear hK K
          refine wpAnyH_ready (rs := [13]) (by kernel_rfl) (by simp) ?_
          refine AllReadyH.cons rfl (fun K hK => ?_) ?_
          · refine step_append_run (T := 47) rfl (.tmp 15) (.tmp 27) rfl _ _ rfl rfl _ _ HR2.out ?_
            go_simp
            refine hK.out _ _ ?_ (fun hHeld => ?_)
            · try dsimp only
              first | exact SK.out HB2.out | exact SK.out (BL.out.drew.alloc BL.out.size _)
            clear hK K
            refine wpAnyH_takeL (i := 14) (v := ?_) rfl rfl (by kernel_rfl) (by kernel_rfl) (by kernel_rfl) (fun _ _ _ h => h) (Or.inl ⟨by rfl, ?_⟩) (by assumption) ?_
            rotate_left
            · intro w hSw
              try dsimp only at hSw
              go_simp
              all_goals with_reducible rfl
            simp only [List.set_cons_zero, List.set_cons_succ]
            refine wpAnyH_done (by kernel_rfl) ?_ _
            go_wp2
            go_roundw
            case rel => exact ⟨j + 1, by omega, by go_num, HO2, HB2.out⟩
            case measure => simp [intOf]; omega
          exact AllReadyH.nil
        exact AllReadyH.nil
      · have hje : j = n := by omega
        subst hje
        have HE : Hid (Ex.spans (l.take j) = Ex.spans l) := by unfold Hid; rw [List.take_of_length_le (by rw [HLn.out]; exact Nat.le_refl _)]
        have hW := HW.out
        rw [HE.out] at hW
        have HSL : Hid ((Ex.spans l).length = j) := by unfold Hid Ex.spans; rw [List.length_map, HLn.out]
        obtain ⟨a5, c5, hv5, -, -⟩ := hW.slice
        subst hv5
        have HJ : Hid _ := hW.rd (by rw [HSL.out]; omega)
        have hjz : ¬ (j : Int) < (j : Int) := by omega
        clear hW HW
        go_wp2_with fail
        refine (refJoin_u _ _ _ _ _ (Ex.spans l) HJ.out (by rw [HSL.out]; omega) HMid.out).mono ?_
        rintro e w3 ⟨b, rfl, ho3, b3⟩
        have HO3 : Hid (OwnS _ _ _ _ _) := ho3
        have B3 : Hid (Below w.heap.size w w3) := on B1.out (on BL.out b3)
        have HZ : Hid (w.heap.size ≤ wr.heap.size) := Nat.le_trans B1.out.size BL.out.size
        clear ho3 b3
        go_wp2
        go_ret2
        exact ⟨_, by rw [HC.out]; rfl, by rw [HU.out]; exact HO3.out.mono HZ.out, B3.out⟩
  · have HC : Hid _ := Ex.checkE_no hO
    have HU : Hid (Ex.usedL l = []) := if_neg hO
    clear hO hL
    go_enter Try.func26, Try.ntmps26
    go_wp2_with fail
    refine (refCheck5_u _ P _ _ _ l HR.out).mono ?_
    rintro e w1 ⟨rfl, b1⟩
    rw [HC.out]
    go_wp2
    go_ret2
    exact ⟨_, by rw [HC.out]; rfl, by rw [HU.out]; exact OwnS.nil _ _ _, b1⟩

end Go.Proofs.Ytlpmfbinemmikaa
