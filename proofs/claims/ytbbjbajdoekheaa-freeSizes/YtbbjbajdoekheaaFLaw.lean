/-
  What the statements of layer 6 lean on: a state in memory of its own, states held against one another, error numbers. Conditions: those that each contract names.
-/
import Derived.Test.YtbbjbajdoekheaaFBase
import Derived.Test.YtbbjbajdoekheaaFRet
namespace Go.Proofs.Ytbbjbajdoekheaa
open Go.RowKit
set_option linter.unusedVariables false

def rState : Rep (Int × List Spn) := rPair rInt rSpns

theorem rState_rd {w : World} {P : Nat → Prop} {cs : List Value} {s : Int × List Spn} (h : rState.rd w P cs s) : ∃ a n c, cs = [.int .i64 s.1, .slice a n c] ∧ In64 s.1 ∧ rSpns.rd w P [.slice a n c] s.2 := by
  obtain ⟨_, _, rfl, ⟨rfl, h1⟩, h2⟩ := h
  obtain ⟨a, n, c, rfl, r⟩ := h2
  exact ⟨a, n, c, rfl, h1, a, n, c, rfl, r⟩

theorem num6_u (n : Int) (w : World) : Calls Try.prog 18 #[.int .i64 n] w fun e w' => e = .returned (.int .i64 n) ∧ w = w' := by
  go_enter Try.func18, Try.ntmps18
  go_wp2
  go_ret
  exact ⟨rfl, rfl⟩

theorem OwnS.keptL {e : TypeId} {w w' : World} {base b : Nat} {v : Value} {l : List Spn} (h : OwnS e w base v l) (k : Kept (· ≠ b) w w') (hb : b < base) : OwnS e w' base v l :=
  h.keep1 fun g eg => k.block g (by have := (h.row.lt g eg).1; omega)

set_option maxRecDepth 20000 in
set_option maxHeartbeats 2000000 in
theorem of_u (w : World) (P : Nat → Prop) (z : Int) (a : Option Addr) (n c : Nat) (l : List Spn) (hL : rSpns.rd w P [.slice a n c] l) :
    Calls Try.prog 9 #[.agg #[.int .i64 z, .slice a n c]] w fun e w' => ∃ v, e = .returned (.agg #[.int .i64 z, v]) ∧ OwnS 26 w' w.heap.size v l ∧ Below w.heap.size w w' := by
  have HR : Hid _ := hL
  obtain ⟨w0, hw0, V0, b0, z0⟩ := boxedRow w 24 [.int .i64 z, .slice a n c]
  obtain ⟨w1, hw1, V1, b1, z1⟩ := boxedRow w0 27 [.int .i64 0, .slice none 0 0]
  rw [z0] at V1
  have HV0 : Hid (Row w1 w.heap.size 24 [.int .i64 z, .slice a n c]) := V0.below b1
  have HV1 : Hid (Row w1 (w.heap.size + 1) 27 [.int .i64 0, .slice none 0 0]) := V1
  have B1 : Hid (Below w.heap.size w w1) := on b0 b1
  have HZ1 : Hid (w.heap.size + 1 < w1.heap.size) := V1.lt
  have SKS : Hid (∀ {w2 : World} {u0 u1 : Value} {w' : World}, w2.cell? ⟨w.heap.size, 0, none⟩ = some (.int .i64 z) ∧ w2.cell? ⟨w.heap.size, 1, none⟩ = some (.slice a n c) → (w2.setCell ⟨w.heap.size + 1, 0, none⟩ u0).setCell ⟨w.heap.size + 1, 1, none⟩ u1 = w' → w'.cell? ⟨w.heap.size, 0, none⟩ = some (.int .i64 z) ∧ w'.cell? ⟨w.heap.size, 1, none⟩ = some (.slice a n c)) := fun {w2 u0 u1 w'} h e => by
    subst e
    have hne : ∀ i j : Nat, (⟨w.heap.size + 1, j, none⟩ : Addr) ≠ ⟨w.heap.size, i, none⟩ := fun i j e => by have : w.heap.size + 1 = w.heap.size := congrArg Addr.block e; omega
    exact ⟨by rw [World.cell?_setCell_other _ _ _ _ (hne _ _), World.cell?_setCell_other _ _ _ _ (hne _ _)]; exact h.1, by rw [World.cell?_setCell_other _ _ _ _ (hne _ _), World.cell?_setCell_other _ _ _ _ (hne _ _)]; exact h.2⟩
  clear hL V0 V1 b0 b1 z1
  go_enter Try.func9, Try.ntmps9
  go_wp2_with fail
  refine wp_region_held_drew (S := (fun w' : World => w'.cell? ⟨w.heap.size, 0, none⟩ = some (.int .i64 z) ∧ w'.cell? ⟨w.heap.size, 1, none⟩ = some (.slice a n c))) (by kernel_rfl) ((HV0.out.keep rfl : Row w1.drew _ _ _).two) (fun hHeld => ?_)
  refine wpAnyH_takeL (i := 0) (v := ?_) rfl rfl (by kernel_rfl) (by kernel_rfl) (by kernel_rfl) (fun _ _ _ h => h) (Or.inl ⟨by rfl, ?_⟩) (by assumption) ?_
  rotate_left
  · intro w hSw
    try dsimp only at hSw
    go_simp
    all_goals with_reducible rfl
  simp only [List.set_cons_zero, List.set_cons_succ]
  refine wpAnyH_takeL (i := 1) (v := ?_) rfl rfl (by kernel_rfl) (by kernel_rfl) (by kernel_rfl) (fun _ _ _ h => h) (Or.inl ⟨by rfl, ?_⟩) (by assumption) ?_
  rotate_left
  · intro w hSw
    try dsimp only at hSw
    go_simp
    all_goals with_reducible rfl
  simp only [List.set_cons_zero, List.set_cons_succ]
  refine wpAnyH_takeL (i := 2) (v := ?_) rfl rfl (by kernel_rfl) (by kernel_rfl) (by kernel_rfl) (fun _ _ _ h => h) (Or.inl ⟨by rfl, ?_⟩) (by assumption) ?_
  rotate_left
  · intro w hSw
    try dsimp only at hSw
    go_simp
    all_goals with_reducible rfl
  simp only [List.set_cons_zero, List.set_cons_succ]
  refine wpAnyH_takeL (i := 3) (v := ?_) rfl rfl (by kernel_rfl) (by kernel_rfl) (by kernel_rfl) (fun _ _ _ h => h) (Or.inl ⟨by rfl, ?_⟩) (by assumption) ?_
  rotate_left
  · intro w hSw
    try dsimp only at hSw
    go_simp
    all_goals with_reducible rfl
  simp only [List.set_cons_zero, List.set_cons_succ]
  refine wpAnyH_ready (rs := [4]) (by kernel_rfl) (by simp) ?_
  refine AllReadyH.cons rfl (fun K hK => ?_) ?_
  · go_simp
    go_at_call 23
    refine Calls.mono (copySpns_u _ P a n c l (Rep.below HR.out B1.out.drew)) ?_
    rintro e w2 ⟨v2, rfl, ho2, b2⟩
    have B2 : Hid (Below w.heap.size w w2) := on B1.out (below_drew_pre0 b2)
    have SS := (HV0.out.below (below_drew_pre0 b2)).two
    have HVR : Hid (Row w2 (w.heap.size + 1) 27 [.int .i64 0, .slice none 0 0]) := HV1.out.below (below_drew_pre0 b2)
    have HO2 : Hid (OwnS _ _ _ _ _) := ho2
    obtain ⟨a2, c2, hv2, -, -⟩ := ho2.slice
    subst hv2
    obtain ⟨r0, r1⟩ := HVR.out.two
    have r2 := HVR.out.frozen 0
    have r3 := HVR.out.frozen 1
    clear ho2 b2
    go_simp
    refine hK.out _ _ ?_ (fun hHeld => ?_)
    · try dsimp only
      first | exact SS | exact SS2
    clear hK K
    refine wpAnyH_takeL (i := 5) (v := ?_) rfl rfl (by kernel_rfl) (by kernel_rfl) (by kernel_rfl) (fun _ _ _ h => h) (Or.inl ⟨by rfl, ?_⟩) (by assumption) ?_
    rotate_left
    · intro w hSw
      try dsimp only at hSw
      go_simp
      all_goals with_reducible rfl
    simp only [List.set_cons_zero, List.set_cons_succ]
    refine wpAnyH_ready (rs := [6]) (by kernel_rfl) (by simp) ?_
    refine AllReadyH.cons rfl (fun K hK => ?_) ?_
    · have SS2 := SKS.out SS (rfl : (w2.setCell ⟨w.heap.size + 1, 0, none⟩ (.int .i64 z)).setCell ⟨w.heap.size + 1, 1, none⟩ (.slice a2 l.length c2) = _)
      go_simp
      refine hK.out _ _ ?_ (fun hHeld => ?_)
      · try dsimp only
        first | exact SS | exact SS2
      clear hK K
      refine wpAnyH_done (by kernel_rfl) ?_ _
      clear hHeld SS
      go_wp2
      refine st_ret1 HVR.out B2.out (by omega) _ _ rfl rfl Try.underlying27 rfl (by kernel_rfl) ?_
      intro w' K' B'
      exact ⟨_, rfl, (HO2.out.keptL K' HZ1.out).mono B1.out.size, B'⟩
    exact AllReadyH.nil
  exact AllReadyH.nil

set_option maxHeartbeats 2000000 in
theorem alike_u (w : World) (P P' : Nat → Prop) (z : Int) (a a' : Option Addr) (n c n' c' : Nat) (l : List Spn) (hL : rSpns.rd w P [.slice a n c] l) (hM : rSpns.rd w P' [.slice a' n' c'] l) :
    Calls Try.prog 19 #[.agg #[.int .i64 z, .slice a n c], .agg #[.int .i64 z, .slice a' n' c']] w fun e w' => e = .returned (.int .i64 0) ∧ Below w.heap.size w w' := by
  have HR : Hid _ := hL
  have HM : Hid _ := hM
  obtain ⟨w0, hw0, V0, b0, z0⟩ := boxedRow w 27 [.int .i64 z, .slice a n c]
  obtain ⟨w1, hw1, V1, b1, z1⟩ := boxedRow w0 24 [.int .i64 z, .slice a' n' c']
  rw [z0] at V1
  have B1 : Hid (Below w.heap.size w w1) := on b0 b1
  obtain ⟨d0, d1⟩ := (V0.below b1).two
  obtain ⟨d2, d3⟩ := V1.two
  have hzz : (z == z) = true := beq_self_eq_true z
  clear hL hM V0 V1 b0 b1 z1
  go_enter Try.func19, Try.ntmps19
  go_wp2_with fail
  refine (sameSpns_u _ P P' _ _ _ _ _ _ l l (Rep.below HR.out B1.out) (Rep.below HM.out B1.out)).mono ?_
  rintro e w2 ⟨rfl, b2⟩
  rw [decide_eq_true rfl]
  go_wp2
  go_ret
  exact ⟨rfl, on B1.out b2⟩

end Go.Proofs.Ytbbjbajdoekheaa
