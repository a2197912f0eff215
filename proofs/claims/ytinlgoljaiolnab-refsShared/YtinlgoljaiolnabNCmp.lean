/-
  The landed refs: how references and edges are held against one another. Conditions: those that each contract names.
-/
import Derived.Test.YtinlgoljaiolnabNOwn
import Derived.Test.YtinlgoljaiolnabXD
import Derived.Test.YtinlgoljaiolnabNSR0
import Derived.Test.YtinlgoljaiolnabNSE0
namespace Go.Proofs.Ytinlgoljaiolnab
open Go.RowKit
set_option linter.unusedVariables false

def cmp3 (a b : Int) : Int := if a < b then -1 else if b < a then 1 else 0

set_option maxHeartbeats 800000 in
theorem cmp_u (w : World) (a b : Int) : Calls Try.prog 22 #[.int .i64 a, .int .i64 b] w fun e w' => e = .returned (.int .i64 (cmp3 a b)) ∧ w = w' := by
  by_cases h1 : a < b
  · have HE : Hid (cmp3 a b = -1) := if_pos h1
    go_enter Try.func22, Try.ntmps22
    go_wp2
    go_ret
    exact ⟨by rw [HE.out]; rfl, rfl⟩
  · by_cases h2 : b < a
    · have HE : Hid (cmp3 a b = 1) := by unfold Hid cmp3; rw [if_neg h1, if_pos h2]
      go_enter Try.func22, Try.ntmps22
      go_wp2
      go_ret
      exact ⟨by rw [HE.out]; rfl, rfl⟩
    · have HE : Hid (cmp3 a b = 0) := by unfold Hid cmp3; rw [if_neg h1, if_neg h2]
      go_enter Try.func22, Try.ntmps22
      go_wp2
      go_ret
      exact ⟨by rw [HE.out]; rfl, rfl⟩

def orL : List Int → Int
  | [] => 0
  | x :: l => if x = 0 then orL l else x
def Zeros (l : List Int) : Prop := ∀ x ∈ l, x = 0
theorem orL_zeros : ∀ {l m : List Int}, Zeros l → orL (l ++ m) = orL m
  | [], m, _ => rfl
  | x :: l, m, h => by
    show (if x = 0 then orL (l ++ m) else x) = _
    rw [if_pos (h x (by simp))]
    exact orL_zeros (fun y hy => h y (by simp [hy]))

set_option maxHeartbeats 1600000 in
theorem or_u (w : World) (g : Nat) (l : List Int) (hl : l.length = 3) (hc : ∀ (j : Nat) (h : j < l.length), w.cell? ⟨g, j, none⟩ = some (.int .i64 l[j])) :
    Calls Try.prog 29 #[.slice (some ⟨g, 0, none⟩) 3 3] w fun e w' => e = .returned (.int .i64 (orL l)) ∧ w = w' := by
  have HL : Hid _ := hl
  have HC : Hid _ := hc
  clear hl hc
  go_enter Try.func29, Try.ntmps29
  go_wp2
  go_loopw [8] (fun i wr => ∃ k : Nat, k ≤ 3 ∧ i = .int .i64 k ∧ Hid (Zeros (l.take k)) ∧ w = wr) (fun i _ => 3 - (intOf i).toNat)
  case atStart => exact ⟨0, Nat.zero_le _, rfl, (fun x hx => by cases hx), rfl⟩
  case round =>
    obtain ⟨k, hk, rfl, HZ, rfl⟩ := hrel
    by_cases hlt : k < 3
    · have hkl : k < l.length := by rw [HL.out]; exact hlt
      have c0 := HC.out k hkl
      have HO : Hid (orL l = orL (l.drop k)) := by
        unfold Hid
        have h := orL_zeros (m := l.drop k) HZ.out
        rwa [List.take_append_drop] at h
      have HD : Hid (l.drop k = l[k] :: l.drop (k + 1)) := List.drop_eq_getElem_cons hkl
      have HT : Hid (l.take (k + 1) = l.take k ++ [l[k]]) := List.take_succ_eq_append_getElem hkl
      generalize hX : l[k] = X at *
      clear hX
      by_cases hz : X = 0
      · subst hz
        have HN : Hid (Zeros (l.take (k + 1))) := by
          unfold Hid
          rw [HT.out]
          intro y hy
          rcases List.mem_append.1 hy with hy | hy
          · exact HZ.out y hy
          · exact List.mem_singleton.1 hy
        go_wp2
        go_roundw
        case rel => exact ⟨k + 1, by omega, by go_num, HN, by first | rfl | trivial⟩
        case measure => simp [intOf]; omega
      · have HR : Hid (orL l = X) := by unfold Hid; rw [HO.out, HD.out]; show (if X = 0 then _ else X) = X; rw [if_neg hz]
        go_wp2
        go_ret
        exact ⟨by rw [HR.out]; rfl, rfl⟩
    · obtain rfl : k = 3 := by omega
      have HR : Hid (orL l = 0) := by
        unfold Hid
        have h := orL_zeros (m := []) HZ.out
        rw [List.append_nil, List.take_of_length_le (by rw [HL.out]; exact Nat.le_refl _)] at h
        exact h
      go_wp2
      go_ret
      exact ⟨by rw [HR.out]; rfl, rfl⟩

def cmpR (x y : Rfr) : Int := orL [cmp3 x.1 y.1, cmp3 x.2.2.1 y.2.2.1, cmp3 x.2.2.2 y.2.2.2]
def cmpE (x y : Spn) : Int := cmp3 x.1 y.1

theorem Row.four {w : World} {b : Nat} {t : TypeId} {x0 x1 x2 x3 : Value} (V : Row w b t [x0, x1, x2, x3]) : w.cell? ⟨b, 0, none⟩ = some x0 ∧ w.cell? ⟨b, 1, none⟩ = some x1 ∧ w.cell? ⟨b, 2, none⟩ = some x2 ∧ w.cell? ⟨b, 3, none⟩ = some x3 := ⟨V.cell (j := 0) rfl, V.cell (j := 1) rfl, V.cell (j := 2) rfl, V.cell (j := 3) rfl⟩

set_option maxHeartbeats 800000 in
theorem cmpE_u (x y : Spn) (W : World) : Calls Try.prog 21 #[.agg #[.int .i64 x.1, .int .i64 x.2], .agg #[.int .i64 y.1, .int .i64 y.2]] W fun e w' => e = .returned (.int .i64 (cmpE x y)) ∧ ∃ q os', w' = Sort.grow (W.drewN q) os' := by
  have hcon := fun W' => cmp_u W' x.1 y.1
  rw [show cmpE x y = cmp3 x.1 y.1 from rfl]
  generalize cmp3 x.1 y.1 = r at hcon ⊢
  go_enter Try.func21, Try.ntmps21
  go_wp2_with (go_at_call 22; refine (hcon _).mono ?_; rintro e w' ⟨rfl, rfl⟩)
  go_ret
  exact ⟨rfl, 0, _, by rw [Sort.alloc_eq_grow, Sort.alloc_eq_grow, Sort.grow_grow]; rfl⟩

set_option maxHeartbeats 4000000 in
theorem cmpR_u (x y : Rfr) (W : World) : Calls Try.prog 28 #[.agg #[.int .i64 x.1, .int .i64 x.2.1, .int .i64 x.2.2.1, .int .i64 x.2.2.2], .agg #[.int .i64 y.1, .int .i64 y.2.1, .int .i64 y.2.2.1, .int .i64 y.2.2.2]] W fun e w' => e = .returned (.int .i64 (cmpR x y)) ∧ ∃ q os', w' = Sort.grow (W.drewN q) os' := by
  have h1 : Hid (∀ W', _) := fun W' => cmp_u W' x.1 y.1
  have h2 : Hid (∀ W', _) := fun W' => cmp_u W' x.2.2.1 y.2.2.1
  have h3 : Hid (∀ W', _) := fun W' => cmp_u W' x.2.2.2 y.2.2.2
  rw [show cmpR x y = orL [cmp3 x.1 y.1, cmp3 x.2.2.1 y.2.2.1, cmp3 x.2.2.2 y.2.2.2] from rfl]
  generalize cmp3 x.1 y.1 = r1 at *
  generalize cmp3 x.2.2.1 y.2.2.1 = r2 at *
  generalize cmp3 x.2.2.2 y.2.2.2 = r3 at *
  have h4 : Hid (∀ (W' : World) (g : Nat) (hc : ∀ (j : Nat) (h : j < [r1, r2, r3].length), W'.cell? ⟨g, j, none⟩ = some (.int .i64 [r1, r2, r3][j])), _) := fun W' g hc => or_u W' g [r1, r2, r3] rfl hc
  generalize orL [r1, r2, r3] = rr at *
  obtain ⟨W1, hW1, V1, b1, z1⟩ := boxedRow W 57 [.int .i64 x.1, .int .i64 x.2.1, .int .i64 x.2.2.1, .int .i64 x.2.2.2]
  obtain ⟨W2, hW2, V2, b2, z2⟩ := boxedRow W1 57 [.int .i64 y.1, .int .i64 y.2.1, .int .i64 y.2.2.1, .int .i64 y.2.2.2]
  have HS : Hid (((W2.cell? ⟨W.heap.size, 0, none⟩ = some (.int .i64 x.1) ∧ W2.cell? ⟨W.heap.size, 1, none⟩ = some (.int .i64 x.2.1) ∧ W2.cell? ⟨W.heap.size, 2, none⟩ = some (.int .i64 x.2.2.1) ∧ W2.cell? ⟨W.heap.size, 3, none⟩ = some (.int .i64 x.2.2.2)) ∧ (W2.cell? ⟨W1.heap.size, 0, none⟩ = some (.int .i64 y.1) ∧ W2.cell? ⟨W1.heap.size, 1, none⟩ = some (.int .i64 y.2.1) ∧ W2.cell? ⟨W1.heap.size, 2, none⟩ = some (.int .i64 y.2.2.1) ∧ W2.cell? ⟨W1.heap.size, 3, none⟩ = some (.int .i64 y.2.2.2)))) := ⟨(V1.below b2).four, V2.four⟩
  have HW : Hid (W2 = Sort.grow W #[.cells #[.int .i64 x.1, .int .i64 x.2.1, .int .i64 x.2.2.1, .int .i64 x.2.2.2] 57, .cells #[.int .i64 y.1, .int .i64 y.2.1, .int .i64 y.2.2.1, .int .i64 y.2.2.2] 57]) := by
    unfold Hid
    rw [← hW2, ← hW1, Sort.alloc_eq_grow, Sort.alloc_eq_grow, Sort.grow_grow]
    rfl
  have HS2 : Hid ((((W2.alloc (Obj.cells #[Value.int IntKind.i64 r1, Value.int IntKind.i64 r2, Value.int IntKind.i64 r3] 3)).drew.cell? ⟨W.heap.size, 0, none⟩ = some (.int .i64 x.1) ∧ (W2.alloc (Obj.cells #[Value.int IntKind.i64 r1, Value.int IntKind.i64 r2, Value.int IntKind.i64 r3] 3)).drew.cell? ⟨W.heap.size, 1, none⟩ = some (.int .i64 x.2.1) ∧ (W2.alloc (Obj.cells #[Value.int IntKind.i64 r1, Value.int IntKind.i64 r2, Value.int IntKind.i64 r3] 3)).drew.cell? ⟨W.heap.size, 2, none⟩ = some (.int .i64 x.2.2.1) ∧ (W2.alloc (Obj.cells #[Value.int IntKind.i64 r1, Value.int IntKind.i64 r2, Value.int IntKind.i64 r3] 3)).drew.cell? ⟨W.heap.size, 3, none⟩ = some (.int .i64 x.2.2.2)) ∧ ((W2.alloc (Obj.cells #[Value.int IntKind.i64 r1, Value.int IntKind.i64 r2, Value.int IntKind.i64 r3] 3)).drew.cell? ⟨W1.heap.size, 0, none⟩ = some (.int .i64 y.1) ∧ (W2.alloc (Obj.cells #[Value.int IntKind.i64 r1, Value.int IntKind.i64 r2, Value.int IntKind.i64 r3] 3)).drew.cell? ⟨W1.heap.size, 1, none⟩ = some (.int .i64 y.2.1) ∧ (W2.alloc (Obj.cells #[Value.int IntKind.i64 r1, Value.int IntKind.i64 r2, Value.int IntKind.i64 r3] 3)).drew.cell? ⟨W1.heap.size, 2, none⟩ = some (.int .i64 y.2.2.1) ∧ (W2.alloc (Obj.cells #[Value.int IntKind.i64 r1, Value.int IntKind.i64 r2, Value.int IntKind.i64 r3] 3)).drew.cell? ⟨W1.heap.size, 3, none⟩ = some (.int .i64 y.2.2.2)))) := by
    have ba := (Below.refl W2.heap.size W2).alloc (Nat.le_refl _) (Obj.cells #[Value.int IntKind.i64 r1, Value.int IntKind.i64 r2, Value.int IntKind.i64 r3] 3)
    exact ⟨((V1.below b2).below ba).four, (V2.below ba).four⟩
  clear V1 V2 b1 b2 z1 z2
  go_enter Try.func28, Try.ntmps28
  go_wp2_with fail
  refine wp_region_held_drew (S := (fun w' : World => (w'.cell? ⟨W.heap.size, 0, none⟩ = some (.int .i64 x.1) ∧ w'.cell? ⟨W.heap.size, 1, none⟩ = some (.int .i64 x.2.1) ∧ w'.cell? ⟨W.heap.size, 2, none⟩ = some (.int .i64 x.2.2.1) ∧ w'.cell? ⟨W.heap.size, 3, none⟩ = some (.int .i64 x.2.2.2)) ∧ (w'.cell? ⟨W1.heap.size, 0, none⟩ = some (.int .i64 y.1) ∧ w'.cell? ⟨W1.heap.size, 1, none⟩ = some (.int .i64 y.2.1) ∧ w'.cell? ⟨W1.heap.size, 2, none⟩ = some (.int .i64 y.2.2.1) ∧ w'.cell? ⟨W1.heap.size, 3, none⟩ = some (.int .i64 y.2.2.2)))) (by kernel_rfl) (HS.out) (fun hHeld => ?_)
  refine wpAnyH_takeL (i := 0) (v := ?_) rfl rfl (by kernel_rfl) (by kernel_rfl) (by kernel_rfl) (fun _ _ _ h => h) (Or.inl ⟨by rfl, ?_⟩) (by assumption) ?_
  rotate_left
  · intro w hSw
    try dsimp only at hSw
    go_simp
    all_goals with_reducible rfl
  simp only [List.set_cons_zero, List.set_cons_succ]
  refine wpAnyH_takeL (i := 1) (v := ?_) rfl rfl (by kernel_rfl) (by kernel_rfl) (by kernel_rfl) (fun _ _ _ h => h) (Or.inl ⟨by rfl, ?_⟩) (by assumption) ?_
  rotate_left
  · intro w hSw
    try dsimp only at hSw
    go_simp
    all_goals with_reducible rfl
  simp only [List.set_cons_zero, List.set_cons_succ]
  refine wpAnyH_takeL (i := 2) (v := ?_) rfl rfl (by kernel_rfl) (by kernel_rfl) (by kernel_rfl) (fun _ _ _ h => h) (Or.inl ⟨by rfl, ?_⟩) (by assumption) ?_
  rotate_left
  · intro w hSw
    try dsimp only at hSw
    go_simp
    all_goals with_reducible rfl
  simp only [List.set_cons_zero, List.set_cons_succ]
  refine wpAnyH_takeL (i := 3) (v := ?_) rfl rfl (by kernel_rfl) (by kernel_rfl) (by kernel_rfl) (fun _ _ _ h => h) (Or.inl ⟨by rfl, ?_⟩) (by assumption) ?_
  rotate_left
  · intro w hSw
    try dsimp only at hSw
    go_simp
    all_goals with_reducible rfl
  simp only [List.set_cons_zero, List.set_cons_succ]
  refine wpAnyH_takeL (i := 5) (v := ?_) rfl rfl (by kernel_rfl) (by kernel_rfl) (by kernel_rfl) (fun _ _ _ h => h) (Or.inl ⟨by rfl, ?_⟩) (by assumption) ?_
  rotate_left
  · intro w hSw
    try dsimp only at hSw
    go_simp
    all_goals with_reducible rfl
  simp only [List.set_cons_zero, List.set_cons_succ]
  refine wpAnyH_takeL (i := 6) (v := ?_) rfl rfl (by kernel_rfl) (by kernel_rfl) (by kernel_rfl) (fun _ _ _ h => h) (Or.inl ⟨by rfl, ?_⟩) (by assumption) ?_
  rotate_left
  · intro w hSw
    try dsimp only at hSw
    go_simp
    all_goals with_reducible rfl
  simp only [List.set_cons_zero, List.set_cons_succ]
  refine wpAnyH_takeL (i := 7) (v := ?_) rfl rfl (by kernel_rfl) (by kernel_rfl) (by kernel_rfl) (fun _ _ _ h => h) (Or.inl ⟨by rfl, ?_⟩) (by assumption) ?_
  rotate_left
  · intro w hSw
    try dsimp only at hSw
    go_simp
    all_goals with_reducible rfl
  simp only [List.set_cons_zero, List.set_cons_succ]
  refine wpAnyH_takeL (i := 8) (v := ?_) rfl rfl (by kernel_rfl) (by kernel_rfl) (by kernel_rfl) (fun _ _ _ h => h) (Or.inl ⟨by rfl, ?_⟩) (by assumption) ?_
  rotate_left
  · intro w hSw
    try dsimp only at hSw
    go_simp
    all_goals with_reducible rfl
  simp only [List.set_cons_zero, List.set_cons_succ]
  refine wpAnyH_takeL (i := 10) (v := ?_) rfl rfl (by kernel_rfl) (by kernel_rfl) (by kernel_rfl) (fun _ _ _ h => h) (Or.inl ⟨by rfl, ?_⟩) (by assumption) ?_
  rotate_left
  · intro w hSw
    try dsimp only at hSw
    go_simp
    all_goals with_reducible rfl
  simp only [List.set_cons_zero, List.set_cons_succ]
  refine wpAnyH_takeL (i := 11) (v := ?_) rfl rfl (by kernel_rfl) (by kernel_rfl) (by kernel_rfl) (fun _ _ _ h => h) (Or.inl ⟨by rfl, ?_⟩) (by assumption) ?_
  rotate_left
  · intro w hSw
    try dsimp only at hSw
    go_simp
    all_goals with_reducible rfl
  simp only [List.set_cons_zero, List.set_cons_succ]
  refine wpAnyH_takeL (i := 12) (v := ?_) rfl rfl (by kernel_rfl) (by kernel_rfl) (by kernel_rfl) (fun _ _ _ h => h) (Or.inl ⟨by rfl, ?_⟩) (by assumption) ?_
  rotate_left
  · intro w hSw
    try dsimp only at hSw
    go_simp
    all_goals with_reducible rfl
  simp only [List.set_cons_zero, List.set_cons_succ]
  refine wpAnyH_takeL (i := 13) (v := ?_) rfl rfl (by kernel_rfl) (by kernel_rfl) (by kernel_rfl) (fun _ _ _ h => h) (Or.inl ⟨by rfl, ?_⟩) (by assumption) ?_
  rotate_left
  · intro w hSw
    try dsimp only at hSw
    go_simp
    all_goals with_reducible rfl
  simp only [List.set_cons_zero, List.set_cons_succ]
  refine wpAnyH_ready (rs := [4]) (by kernel_rfl) (by simp) ?_
  refine AllReadyH.cons rfl (fun K hK => ?_) ?_
  · go_simp
    go_at_call 22
    refine Calls.mono (h1.out _) ?_
    rintro e w9 ⟨rfl, rfl⟩
    have S1 := hHeld
    go_simp
    refine hK.out _ _ ?_ (fun hHeld => ?_)
    · try dsimp only
      exact S1
    clear hK K
    refine wpAnyH_ready (rs := [9]) (by kernel_rfl) (by simp) ?_
    refine AllReadyH.cons rfl (fun K hK => ?_) ?_
    · go_simp
      go_at_call 22
      refine Calls.mono (h2.out _) ?_
      rintro e w9 ⟨rfl, rfl⟩
      have S1 := hHeld
      go_simp
      refine hK.out _ _ ?_ (fun hHeld => ?_)
      · try dsimp only
        exact S1
      clear hK K
      refine wpAnyH_ready (rs := [14]) (by kernel_rfl) (by simp) ?_
      refine AllReadyH.cons rfl (fun K hK => ?_) ?_
      · go_simp
        go_at_call 22
        refine Calls.mono (h3.out _) ?_
        rintro e w9 ⟨rfl, rfl⟩
        have S1 := hHeld
        go_simp
        refine hK.out _ _ ?_ (fun hHeld => ?_)
        · try dsimp only
          exact S1
        clear hK K
        refine wpAnyH_ready (rs := [15]) (by kernel_rfl) (by simp) ?_
        refine AllReadyH.cons rfl (fun K hK => ?_) ?_
        · go_simp
          have S1 := HS2.out
          refine hK.out _ _ ?_ (fun hHeld => ?_)
          · try dsimp only
            exact S1
          clear hK K
          refine wpAnyH_ready (rs := [16]) (by kernel_rfl) (by simp) ?_
          refine AllReadyH.cons rfl (fun K hK => ?_) ?_
          · go_simp
            go_at_call 29
            refine Calls.mono (h4.out _ _ ?_) ?_
            · intro j hj
              match j, hj with
              | 0, _ => simp
              | 1, _ => simp
              | 2, _ => simp
            rintro e w9 ⟨rfl, rfl⟩
            have S1 := HS2.out
            go_simp
            refine hK.out _ _ ?_ (fun hHeld => ?_)
            · try dsimp only
              exact S1
            clear hK K
            refine wpAnyH_takeL (i := 17) (v := ?_) rfl rfl (by kernel_rfl) (by kernel_rfl) (by kernel_rfl) (fun _ _ _ h => h) (Or.inl ⟨by rfl, ?_⟩) (by assumption) ?_
            rotate_left
            · intro w hSw
              try dsimp only at hSw
              go_simp
              all_goals with_reducible rfl
            simp only [List.set_cons_zero, List.set_cons_succ]
            refine wpAnyH_done (by kernel_rfl) ?_ _
            go_wp2
            go_ret
            exact ⟨rfl, 1, _, by rw [HW.out, Sort.alloc_eq_grow, Sort.grow_grow]; rfl⟩
          exact AllReadyH.nil
        exact AllReadyH.nil
      exact AllReadyH.nil
    exact AllReadyH.nil
  exact AllReadyH.nil

end Go.Proofs.Ytinlgoljaiolnab
