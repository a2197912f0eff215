/-
  The landed free: what Take and Free lay. Conditions: those that each contract names.
-/
import Derived.Test.YtbbjbajdoekheaaYM
namespace Go.Proofs.Ytbbjbajdoekheaa
open Go.RowKit
set_option linter.unusedVariables false

theorem four_kept2 {w w' : World} {A B : Nat} {T U : TypeId} {x0 x1 y0 y1 : Value} (h1 : Row w A T [x0, x1]) (h2 : Row w B U [y0, y1]) (k : Below w.heap.size w w') :
    w'.cell? ⟨A, 0, none⟩ = some x0 ∧ w'.cell? ⟨A, 1, none⟩ = some x1 ∧ w'.cell? ⟨B, 0, none⟩ = some y0 ∧ w'.cell? ⟨B, 1, none⟩ = some y1 :=
  ⟨(h1.below k).two.1, (h1.below k).two.2, (h2.below k).two.1, (h2.below k).two.2⟩

set_option maxRecDepth 20000 in
set_option maxHeartbeats 4000000 in
theorem take2_writes (w : World) (P : Nat → Prop) (z : Int) (a : Option Addr) (n c : Nat) (l : List Spn) (hL : rSpns.rd w P [.slice a n c] l) (hO : Fr.Ok z l) (x : Spn) (hx : Fr.Inside x z) (A B : Nat) (VA : Row w A 27 [.int .i64 z, .slice a n c]) (VB : Row w B 26 [.int .i64 x.1, .int .i64 x.2]) :
    Writes 41 #[.pointer (some ⟨A, 0, none⟩), .pointer (some ⟨B, 0, none⟩)] w (Fr.takePs z l x) := by
  intro g cs J S w1 L hJ b1 hS
  have HY : Hid (Lays g cs J) := L
  have eg := L.enters
  have HJ : Hid (J [] S w1) := hJ
  have B1 : Hid (Below w.heap.size w w1) := b1
  have HS : Hid _ := hS
  have HL0 : Hid _ := hL
  have HMid : Hid _ := hO.mid
  have hn : n ≤ 1024 := by have := hO.len; rw [(rList_len hL).1] at this; exact this
  have HN : Hid (l.length = n) := (rList_len hL).1
  have hz0 := hO.low
  have hz1 := hO.high
  have HXE : Hid (In64 (x.1 + x.2)) := by unfold Hid In64; omega
  obtain ⟨p1, p2, p3, p4⟩ := hx
  have SK : Hid (∀ {w' : World}, Below w.heap.size w w' → w'.cell? ⟨A, 0, none⟩ = some (.int .i64 z) ∧ w'.cell? ⟨A, 1, none⟩ = some (.slice a n c) ∧ w'.cell? ⟨B, 0, none⟩ = some (.int .i64 x.1) ∧ w'.cell? ⟨B, 1, none⟩ = some (.int .i64 x.2)) := fun k => four_kept2 VA VB k
  have HLow : Hid (∀ b, b < w.heap.size → ¬ S b) := fun b hb hs => by have := hS b hs; omega
  obtain ⟨e0, e1, e2, e3⟩ := SK.out B1.out
  clear hL hO b1 hS L hJ VA VB
  go_enter Try.func41, Try.ntmps41
  go_wp2_with fail
  refine Calls.mono (layWithin_u HY.out w1 (fun b => b < w.heap.size) a n c l (rSpns_low HL0.out B1.out) HMid.out hn ([]) (by decide) S HJ.out (fun b hb _ => HLow.out b hb) (0) (x.1) (by omega) (by omega) (by omega) (by omega)) ?_
  rintro e w2 ⟨rfl, S2, hj2, ht2⟩
  have HJ2 : Hid (J ([] ++ Fr.within l 0 x.1) S2 w2) := hj2
  have HT2 : Hid (Turns S S2 w1 w2) := ht2
  have B2 : Hid (Below w.heap.size w w2) := B1.out.trans (HT2.out.below B1.out.size HS.out)
  have L2 : Hid (∀ b, b < w.heap.size → ¬ S2 b) := fun b hb hs => by have := HT2.out.low B1.out.size HS.out b hs; omega
  clear hj2 ht2 e0 e1 e2 e3
  obtain ⟨e0, e1, e2, e3⟩ := SK.out B2.out
  go_wp2_with fail
  refine wp_region_held_drew (S := (fun w' : World => w'.cell? ⟨A, 0, none⟩ = some (.int .i64 z) ∧ w'.cell? ⟨A, 1, none⟩ = some (.slice a n c) ∧ w'.cell? ⟨B, 0, none⟩ = some (.int .i64 x.1) ∧ w'.cell? ⟨B, 1, none⟩ = some (.int .i64 x.2))) (by kernel_rfl) (SK.out B2.out.drew) (fun hHeld => ?_)
  refine wpAnyH_takeL (i := 0) (v := ?_) rfl rfl (by kernel_rfl) (by kernel_rfl) (by kernel_rfl) (fun _ _ _ h => h) (Or.inl ⟨by rfl, ?_⟩) (by assumption) ?_
  rotate_left
  · intro w hSw
    try dsimp only at hSw
    go_simp
    all_goals with_reducible rfl
  simp only [List.set_cons_zero, List.set_cons_succ]
  refine wpAnyH_takeL (i := 1) (v := ?_) rfl rfl (by kernel_rfl) (by kernel_rfl) (by kernel_rfl) (fun _ _ _ h => h) (Or.inl ⟨by rfl, ?_⟩) (by assumption) ?_
  rotate_left
  · intro w hSw
    try dsimp only at hSw
    go_simp
    all_goals with_reducible rfl
  simp only [List.set_cons_zero, List.set_cons_succ]
  refine wpAnyH_takeL (i := 2) (v := ?_) rfl rfl (by kernel_rfl) (by kernel_rfl) (by kernel_rfl) (fun _ _ _ h => h) (Or.inl ⟨by rfl, ?_⟩) (by assumption) ?_
  rotate_left
  · intro w hSw
    try dsimp only at hSw
    go_simp
    all_goals with_reducible rfl
  simp only [List.set_cons_zero, List.set_cons_succ]
  refine wpAnyH_takeL (i := 4) (v := ?_) rfl rfl (by kernel_rfl) (by kernel_rfl) (by kernel_rfl) (fun _ _ _ h => h) (Or.inl ⟨by rfl, ?_⟩) (by assumption) ?_
  rotate_left
  · intro w hSw
    try dsimp only at hSw
    go_simp
    all_goals with_reducible rfl
  simp only [List.set_cons_zero, List.set_cons_succ]
  refine wpAnyH_takeL (i := 5) (v := ?_) rfl rfl (by kernel_rfl) (by kernel_rfl) (by kernel_rfl) (fun _ _ _ h => h) (Or.inl ⟨by rfl, ?_⟩) (by assumption) ?_
  rotate_left
  · intro w hSw
    try dsimp only at hSw
    go_simp
    all_goals with_reducible rfl
  simp only [List.set_cons_zero, List.set_cons_succ]
  refine wpAnyH_takeL (i := 6) (v := ?_) rfl rfl (by kernel_rfl) (by kernel_rfl) (by kernel_rfl) (fun _ _ _ h => h) (Or.inl ⟨by rfl, ?_⟩) (by assumption) ?_
  rotate_left
  · intro w hSw
    try dsimp only at hSw
    go_simp
    all_goals with_reducible rfl
  simp only [List.set_cons_zero, List.set_cons_succ]
  refine wpAnyH_ready (rs := [3]) (by kernel_rfl) (by simp) ?_
  refine AllReadyH.cons rfl (fun K hK => ?_) ?_
  · go_simp
    go_at_call 36
    refine Calls.mono (spanEnd_u _ x HXE.out) ?_
    rintro e w3 ⟨rfl, hb3⟩
    have HB3 : Hid (Below w2.heap.size w2 w3) := below_drew_pre0 hb3
    have B3 : Hid (Below w.heap.size w w3) := on B2.out HB3.out
    have HJ3 : Hid (J ([] ++ Fr.within l 0 x.1) S2 w3) := HY.out.below HJ2.out HB3.out
    have HT3 : Hid (Turns S S2 w1 w3) := HT2.out.trans (Turns.of HB3.out)
    have SS := SK.out B3.out
    clear hb3
    go_simp
    refine hK.out _ _ ?_ (fun hHeld => ?_)
    · try dsimp only
      exact SS
    clear hK K
    refine wpAnyH_ready (rs := [7]) (by kernel_rfl) (by simp) ?_
    refine AllReadyH.cons rfl (fun K hK => ?_) ?_
    · go_simp
      go_at_call 42
      refine Calls.mono (layWithin_u HY.out w3 (fun b => b < w.heap.size) a n c l (rSpns_low HL0.out B3.out) HMid.out hn ([] ++ Fr.within l 0 x.1) (by simp only [List.length_append, Fr.within_len, List.length_nil]; rw [HN.out]; omega) S2 HJ3.out (fun b hb _ => L2.out b hb) (x.1 + x.2) (z) (by omega) (by omega) (by omega) (by omega)) ?_
      rintro e w4 ⟨rfl, S4, hj4, ht4⟩
      have HJ4 : Hid (J (([] ++ Fr.within l 0 x.1) ++ Fr.within l (x.1 + x.2) z) S4 w4) := hj4
      have HT4 : Hid (Turns S S4 w1 w4) := HT3.out.trans ht4
      have B4 : Hid (Below w.heap.size w w4) := B1.out.trans (HT4.out.below B1.out.size HS.out)
      have L4 : Hid (∀ b, b < w.heap.size → ¬ S4 b) := fun b hb hs => by have := HT4.out.low B1.out.size HS.out b hs; omega
      have SS := SK.out B4.out
      clear hj4 ht4
      go_simp
      refine hK.out _ _ ?_ (fun hHeld => ?_)
      · try dsimp only
        exact SS
      clear hK K
      refine wpAnyH_done (by kernel_rfl) ?_ _
      clear hHeld SS
      go_wp2
      go_end0
      exact ⟨rfl, S4, by have h := HJ4.out; rw [List.nil_append] at h; exact h, HT4.out⟩
    exact AllReadyH.nil
  exact AllReadyH.nil

set_option maxRecDepth 20000 in
set_option maxHeartbeats 4000000 in
theorem free2_writes (w : World) (P : Nat → Prop) (z : Int) (a : Option Addr) (n c : Nat) (l : List Spn) (hL : rSpns.rd w P [.slice a n c] l) (hO : Fr.Ok z l) (x : Spn) (hx : Fr.Inside x z) (A B : Nat) (VA : Row w A 27 [.int .i64 z, .slice a n c]) (VB : Row w B 26 [.int .i64 x.1, .int .i64 x.2]) :
    Writes 47 #[.pointer (some ⟨A, 0, none⟩), .pointer (some ⟨B, 0, none⟩)] w (Fr.freePs z l x) := by
  intro g cs J S w1 L hJ b1 hS
  have HY : Hid (Lays g cs J) := L
  have eg := L.enters
  have HJ : Hid (J [] S w1) := hJ
  have B1 : Hid (Below w.heap.size w w1) := b1
  have HS : Hid _ := hS
  have HL0 : Hid _ := hL
  have HMid : Hid _ := hO.mid
  have hn : n ≤ 1024 := by have := hO.len; rw [(rList_len hL).1] at this; exact this
  have HN : Hid (l.length = n) := (rList_len hL).1
  have hz0 := hO.low
  have hz1 := hO.high
  have HXE : Hid (In64 (x.1 + x.2)) := by unfold Hid In64; omega
  obtain ⟨p1, p2, p3, p4⟩ := hx
  have SK : Hid (∀ {w' : World}, Below w.heap.size w w' → w'.cell? ⟨A, 0, none⟩ = some (.int .i64 z) ∧ w'.cell? ⟨A, 1, none⟩ = some (.slice a n c) ∧ w'.cell? ⟨B, 0, none⟩ = some (.int .i64 x.1) ∧ w'.cell? ⟨B, 1, none⟩ = some (.int .i64 x.2)) := fun k => four_kept2 VA VB k
  have HLow : Hid (∀ b, b < w.heap.size → ¬ S b) := fun b hb hs => by have := hS b hs; omega
  obtain ⟨e0, e1, e2, e3⟩ := SK.out B1.out
  clear hL hO b1 hS L hJ VA VB
  go_enter Try.func47, Try.ntmps47
  go_wp2_with fail
  refine Calls.mono (layWithin_u HY.out w1 (fun b => b < w.heap.size) a n c l (rSpns_low HL0.out B1.out) HMid.out hn ([]) (by decide) S HJ.out (fun b hb _ => HLow.out b hb) (0) (x.1) (by omega) (by omega) (by omega) (by omega)) ?_
  rintro e w2 ⟨rfl, S2, hj2, ht2⟩
  have HJ2 : Hid (J ([] ++ Fr.within l 0 x.1) S2 w2) := hj2
  have HT2 : Hid (Turns S S2 w1 w2) := ht2
  have B2 : Hid (Below w.heap.size w w2) := B1.out.trans (HT2.out.below B1.out.size HS.out)
  have L2 : Hid (∀ b, b < w.heap.size → ¬ S2 b) := fun b hb hs => by have := HT2.out.low B1.out.size HS.out b hs; omega
  clear hj2 ht2 e0 e1 e2 e3
  obtain ⟨e0, e1, e2, e3⟩ := SK.out B2.out
  have HSec : Hid (Fr.Sec (x.1, x.1 + x.2)) := by unfold Hid Fr.Sec; simp only; omega
  go_wp2_with fail
  refine wp_region_held_drew (S := (fun w' : World => w'.cell? ⟨A, 0, none⟩ = some (.int .i64 z) ∧ w'.cell? ⟨A, 1, none⟩ = some (.slice a n c) ∧ w'.cell? ⟨B, 0, none⟩ = some (.int .i64 x.1) ∧ w'.cell? ⟨B, 1, none⟩ = some (.int .i64 x.2))) (by kernel_rfl) (SK.out B2.out.drew) (fun hHeld => ?_)
  refine wpAnyH_takeL (i := 0) (v := ?_) rfl rfl (by kernel_rfl) (by kernel_rfl) (by kernel_rfl) (fun _ _ _ h => h) (Or.inl ⟨by rfl, ?_⟩) (by assumption) ?_
  rotate_left
  · intro w hSw
    try dsimp only at hSw
    go_simp
    all_goals with_reducible rfl
  simp only [List.set_cons_zero, List.set_cons_succ]
  refine wpAnyH_takeL (i := 1) (v := ?_) rfl rfl (by kernel_rfl) (by kernel_rfl) (by kernel_rfl) (fun _ _ _ h => h) (Or.inl ⟨by rfl, ?_⟩) (by assumption) ?_
  rotate_left
  · intro w hSw
    try dsimp only at hSw
    go_simp
    all_goals with_reducible rfl
  simp only [List.set_cons_zero, List.set_cons_succ]
  refine wpAnyH_takeL (i := 2) (v := ?_) rfl rfl (by kernel_rfl) (by kernel_rfl) (by kernel_rfl) (fun _ _ _ h => h) (Or.inl ⟨by rfl, ?_⟩) (by assumption) ?_
  rotate_left
  · intro w hSw
    try dsimp only at hSw
    go_simp
    all_goals with_reducible rfl
  simp only [List.set_cons_zero, List.set_cons_succ]
  refine wpAnyH_takeL (i := 3) (v := ?_) rfl rfl (by kernel_rfl) (by kernel_rfl) (by kernel_rfl) (fun _ _ _ h => h) (Or.inl ⟨by rfl, ?_⟩) (by assumption) ?_
  rotate_left
  · intro w hSw
    try dsimp only at hSw
    go_simp
    all_goals with_reducible rfl
  simp only [List.set_cons_zero, List.set_cons_succ]
  refine wpAnyH_ready (rs := [4]) (by kernel_rfl) (by simp) ?_
  refine AllReadyH.cons rfl (fun K hK => ?_) ?_
  · go_simp
    go_at_call 36
    refine Calls.mono (spanEnd_u _ x HXE.out) ?_
    rintro e w3 ⟨rfl, hb3⟩
    have HB3 : Hid (Below w2.heap.size w2 w3) := below_drew_pre0 hb3
    have B3 : Hid (Below w.heap.size w w3) := on B2.out HB3.out
    have HJ3 : Hid (J ([] ++ Fr.within l 0 x.1) S2 w3) := HY.out.below HJ2.out HB3.out
    have HT3 : Hid (Turns S S2 w1 w3) := HT2.out.trans (Turns.of HB3.out)
    have SS := SK.out B3.out
    clear hb3
    go_simp
    refine hK.out _ _ ?_ (fun hHeld => ?_)
    · try dsimp only
      exact SS
    clear hK K
    refine wpAnyH_ready (rs := [5]) (by kernel_rfl) (by simp) ?_
    refine AllReadyH.cons rfl (fun K hK => ?_) ?_
    · go_simp
      go_at_fn g
      refine Calls.mono (HY.out.call (x := (x.1, x.1 + x.2)) HJ3.out (by simp only [List.length_append, Fr.within_len, List.length_nil]; rw [HN.out]; omega) HSec.out) ?_
      rintro e w4 ⟨rfl, S4, hj4, ht4⟩
      have HJ4 : Hid (J (([] ++ Fr.within l 0 x.1) ++ [(x.1, x.1 + x.2)]) S4 w4) := hj4
      have HT4 : Hid (Turns S S4 w1 w4) := HT3.out.trans ht4
      have B4 : Hid (Below w.heap.size w w4) := B1.out.trans (HT4.out.below B1.out.size HS.out)
      have L4 : Hid (∀ b, b < w.heap.size → ¬ S4 b) := fun b hb hs => by have := HT4.out.low B1.out.size HS.out b hs; omega
      have SS := SK.out B4.out
      clear hj4 ht4
      go_simp
      refine hK.out _ _ ?_ (fun hHeld => ?_)
      · try dsimp only
        exact SS
      clear hK K
      refine wpAnyH_done (by kernel_rfl) ?_ _
      clear hHeld SS
      obtain ⟨e0, e1, e2, e3⟩ := SK.out B4.out
      go_wp2_with fail
      refine wp_region_held_drew (S := (fun w' : World => w'.cell? ⟨A, 0, none⟩ = some (.int .i64 z) ∧ w'.cell? ⟨A, 1, none⟩ = some (.slice a n c) ∧ w'.cell? ⟨B, 0, none⟩ = some (.int .i64 x.1) ∧ w'.cell? ⟨B, 1, none⟩ = some (.int .i64 x.2))) (by kernel_rfl) (SK.out B4.out.drew) (fun hHeld => ?_)
      refine wpAnyH_takeL (i := 0) (v := ?_) rfl rfl (by kernel_rfl) (by kernel_rfl) (by kernel_rfl) (fun _ _ _ h => h) (Or.inl ⟨by rfl, ?_⟩) (by assumption) ?_
      rotate_left
      · intro w hSw
        try dsimp only at hSw
        go_simp
        all_goals with_reducible rfl
      simp only [List.set_cons_zero, List.set_cons_succ]
      refine wpAnyH_takeL (i := 1) (v := ?_) rfl rfl (by kernel_rfl) (by kernel_rfl) (by kernel_rfl) (fun _ _ _ h => h) (Or.inl ⟨by rfl, ?_⟩) (by assumption) ?_
      rotate_left
      · intro w hSw
        try dsimp only at hSw
        go_simp
        all_goals with_reducible rfl
      simp only [List.set_cons_zero, List.set_cons_succ]
      refine wpAnyH_takeL (i := 2) (v := ?_) rfl rfl (by kernel_rfl) (by kernel_rfl) (by kernel_rfl) (fun _ _ _ h => h) (Or.inl ⟨by rfl, ?_⟩) (by assumption) ?_
      rotate_left
      · intro w hSw
        try dsimp only at hSw
        go_simp
        all_goals with_reducible rfl
      simp only [List.set_cons_zero, List.set_cons_succ]
      refine wpAnyH_takeL (i := 4) (v := ?_) rfl rfl (by kernel_rfl) (by kernel_rfl) (by kernel_rfl) (fun _ _ _ h => h) (Or.inl ⟨by rfl, ?_⟩) (by assumption) ?_
      rotate_left
      · intro w hSw
        try dsimp only at hSw
        go_simp
        all_goals with_reducible rfl
      simp only [List.set_cons_zero, List.set_cons_succ]
      refine wpAnyH_takeL (i := 5) (v := ?_) rfl rfl (by kernel_rfl) (by kernel_rfl) (by kernel_rfl) (fun _ _ _ h => h) (Or.inl ⟨by rfl, ?_⟩) (by assumption) ?_
      rotate_left
      · intro w hSw
        try dsimp only at hSw
        go_simp
        all_goals with_reducible rfl
      simp only [List.set_cons_zero, List.set_cons_succ]
      refine wpAnyH_takeL (i := 6) (v := ?_) rfl rfl (by kernel_rfl) (by kernel_rfl) (by kernel_rfl) (fun _ _ _ h => h) (Or.inl ⟨by rfl, ?_⟩) (by assumption) ?_
      rotate_left
      · intro w hSw
        try dsimp only at hSw
        go_simp
        all_goals with_reducible rfl
      simp only [List.set_cons_zero, List.set_cons_succ]
      refine wpAnyH_ready (rs := [3]) (by kernel_rfl) (by simp) ?_
      refine AllReadyH.cons rfl (fun K hK => ?_) ?_
      · go_simp
        go_at_call 36
        refine Calls.mono (spanEnd_u _ x HXE.out) ?_
        rintro e w5 ⟨rfl, hb5⟩
        have HB5 : Hid (Below w4.heap.size w4 w5) := below_drew_pre0 hb5
        have B5 : Hid (Below w.heap.size w w5) := on B4.out HB5.out
        have HJ5 : Hid (J (([] ++ Fr.within l 0 x.1) ++ [(x.1, x.1 + x.2)]) S4 w5) := HY.out.below HJ4.out HB5.out
        have HT5 : Hid (Turns S S4 w1 w5) := HT4.out.trans (Turns.of HB5.out)
        have SS := SK.out B5.out
        clear hb5
        go_simp
        refine hK.out _ _ ?_ (fun hHeld => ?_)
        · try dsimp only
          exact SS
        clear hK K
        refine wpAnyH_ready (rs := [7]) (by kernel_rfl) (by simp) ?_
        refine AllReadyH.cons rfl (fun K hK => ?_) ?_
        · go_simp
          go_at_call 42
          refine Calls.mono (layWithin_u HY.out w5 (fun b => b < w.heap.size) a n c l (rSpns_low HL0.out B5.out) HMid.out hn (([] ++ Fr.within l 0 x.1) ++ [(x.1, x.1 + x.2)]) (by simp only [List.length_append, Fr.within_len, List.length_nil, List.length_cons]; rw [HN.out]; omega) S4 HJ5.out (fun b hb _ => L4.out b hb) (x.1 + x.2) (z) (by omega) (by omega) (by omega) (by omega)) ?_
          rintro e w6 ⟨rfl, S6, hj6, ht6⟩
          have HJ6 : Hid (J ((([] ++ Fr.within l 0 x.1) ++ [(x.1, x.1 + x.2)]) ++ Fr.within l (x.1 + x.2) z) S6 w6) := hj6
          have HT6 : Hid (Turns S S6 w1 w6) := HT5.out.trans ht6
          have B6 : Hid (Below w.heap.size w w6) := B1.out.trans (HT6.out.below B1.out.size HS.out)
          have L6 : Hid (∀ b, b < w.heap.size → ¬ S6 b) := fun b hb hs => by have := HT6.out.low B1.out.size HS.out b hs; omega
          have SS := SK.out B6.out
          clear hj6 ht6
          go_simp
          refine hK.out _ _ ?_ (fun hHeld => ?_)
          · try dsimp only
            exact SS
          clear hK K
          refine wpAnyH_done (by kernel_rfl) ?_ _
          clear hHeld SS
          go_wp2
          go_end0
          exact ⟨rfl, S6, by have h := HJ6.out; rw [List.nil_append] at h; exact h, HT6.out⟩
        exact AllReadyH.nil
      exact AllReadyH.nil
    exact AllReadyH.nil
  exact AllReadyH.nil

end Go.Proofs.Ytbbjbajdoekheaa
