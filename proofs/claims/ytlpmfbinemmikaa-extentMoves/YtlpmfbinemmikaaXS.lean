/-
  The library's search, at a function that only makes memory of its own; the landed extent's own search of a map. Conditions: those that each contract names.
-/
import Derived.Test.YtlpmfbinemmikaaXL
namespace Go.Proofs.Ytlpmfbinemmikaa
open Go.RowKit Go.Lib
set_option linter.unusedVariables false

set_option maxHeartbeats 2000000 in
theorem search_u (f : Nat) (bs : Array Value) (eg : ∀ args w, (callFunc f args).run Try.prog w = .ok (.enter f args) w) (n : Nat) (hn : n ≤ 1000000) (p : Nat → Bool) (w : World)
    (hf : ∀ w1, Below w.heap.size w w1 → ∀ i, i < n → Calls Try.prog f (#[.int .i64 i] ++ bs) w1 fun e w' => e = .returned (.bool (p i)) ∧ Below w1.heap.size w1 w')
    (hmono : ∀ a b, a ≤ b → b < n → p a = true → p b = true) :
    Calls Try.prog 53 #[.int .i64 n, .func (.func f) #[] bs] w fun e w' => ∃ k : Nat, k ≤ n ∧ e = .returned (.int .i64 k) ∧ (∀ t, t < k → p t = false) ∧ Below w.heap.size w w' := by
  have HF : Hid _ := hf
  have M : Hid _ := hmono
  clear hf hmono
  go_enter Try.func53, Try.ntmps53
  go_wp2
  go_loopw [5, 6] (fun s5 s6 wr => ∃ lo hi : Nat, s5 = .int .i64 lo ∧ s6 = .int .i64 hi ∧ lo ≤ hi ∧ hi ≤ n ∧ Hid (∀ t, t < lo → p t = false) ∧ Below w.heap.size w wr) (fun i j _ => (intOf j - intOf i).toNat)
  case atStart => exact ⟨0, n, rfl, rfl, Nat.zero_le _, Nat.le_refl _, (fun t ht => absurd ht (Nat.not_lt_zero _)), Below.refl _ _⟩
  case round =>
    obtain ⟨lo, hi, rfl, rfl, hlh, hin, I, bel⟩ := hrel
    have B : Hid (Below w.heap.size w wr) := bel
    by_cases hlt : lo < hi
    · have hc := HF.out wr bel ((lo + hi) / 2) (by omega)
      rw [show (((lo + hi) / 2 : Nat) : Int) = ((lo : Int) + (hi : Int)) / 2 by omega] at hc
      clear bel
      cases hp : p ((lo + hi) / 2) <;> rw [hp] at hc
      · have HP : Hid (p ((lo + hi) / 2) = false) := hp
        clear hp
        go_wp2_with (go_at_fn f; refine hc.mono ?_; rintro e w' ⟨rfl, hb⟩)
        have I2 : Hid (∀ t, t < (lo + hi) / 2 + 1 → p t = false) := fun t ht => by
          cases h : p t with
          | false => rfl
          | true => have := M.out t ((lo + hi) / 2) (by omega) (by omega) h; rw [HP.out] at this; cases this
        go_roundw
        case measure => simp [intOf]; omega
        case rel => exact ⟨(lo + hi) / 2 + 1, hi, by rw [show ((lo : Int) + (hi : Int)) / 2 + 1 = (((lo + hi) / 2 + 1 : Nat) : Int) by omega], rfl, by omega, hin, I2, on B.out hb⟩
      · clear hp
        go_wp2_with (go_at_fn f; refine hc.mono ?_; rintro e w' ⟨rfl, hb⟩)
        go_roundw
        case measure => simp [intOf]; omega
        case rel => exact ⟨lo, (lo + hi) / 2, rfl, by rw [show ((lo : Int) + (hi : Int)) / 2 = (((lo + hi) / 2 : Nat) : Int) by omega], by omega, by omega, I, on B.out hb⟩
    · obtain rfl : hi = lo := by omega
      go_wp2
      go_ret
      exact ⟨hi, hin, rfl, I.out, bel⟩

theorem seven_kept {w w' : World} {A B : Nat} {a : Option Addr} {n c : Nat} {v : Int} {g off j : Nat} {y : Ext} (hA : A < w.heap.size) (hB : B < w.heap.size) (hg : g < w.heap.size)
    (h0 : w.cell? ⟨A, 0, none⟩ = some (.slice a n c)) (h1 : w.cell? ⟨B, 0, none⟩ = some (.int .i64 v))
    (h2 : w.cell? ⟨g, off + j * 3, none⟩ = some (.int .i64 y.1)) (h3 : w.cell? ⟨g, off + j * 3 + 1, none⟩ = some (.int .i64 y.2.1)) (h4 : w.cell? ⟨g, off + j * 3 + 2, none⟩ = some (.int .i64 y.2.2)) (k : Below w.heap.size w w') :
    w'.cell? ⟨A, 0, none⟩ = some (.slice a n c) ∧ w'.cell? ⟨B, 0, none⟩ = some (.int .i64 v) ∧ w'.cell? ⟨g, off + j * 3, none⟩ = some (.int .i64 y.1) ∧ w'.cell? ⟨g, off + j * 3 + 1, none⟩ = some (.int .i64 y.2.1) ∧ w'.cell? ⟨g, off + j * 3 + 2, none⟩ = some (.int .i64 y.2.2) :=
  ⟨(k.cell (p := ⟨A, 0, none⟩) hA).trans h0, (k.cell (p := ⟨B, 0, none⟩) hB).trans h1, (k.cell (p := ⟨g, off + j * 3, none⟩) hg).trans h2, (k.cell (p := ⟨g, off + j * 3 + 1, none⟩) hg).trans h3, (k.cell (p := ⟨g, off + j * 3 + 2, none⟩) hg).trans h4⟩

set_option maxHeartbeats 2000000 in
/-- The question that the search asks: does the extent end behind the sector? -/
theorem asked_u (w : World) (A B : Nat) (a : Option Addr) (n c : Nat) (v : Int) (P : Nat → Prop) (l : List Ext) (hL : rExts.rd w P [.slice a n c] l) (ho : ∀ x ∈ l, Ex.One x) (hA : A < w.heap.size) (hB : B < w.heap.size)
    (h0 : w.cell? ⟨A, 0, none⟩ = some (.slice a n c)) (h1 : w.cell? ⟨B, 0, none⟩ = some (.int .i64 v)) (i : Nat) (hi : i < n) (y : Ext) (hy : l[i]? = some y) :
    Calls Try.prog 54 (#[.int .i64 i] ++ #[.pointer (some ⟨A, 0, none⟩), .pointer (some ⟨B, 0, none⟩)]) w fun e w' => e = .returned (.bool (decide (v < y.1 + y.2.2))) ∧ Below w.heap.size w w' := by
  obtain ⟨hl, -⟩ := rList_len hL
  have hil : i < l.length := by omega
  obtain rfl : l[i] = y := by rw [List.getElem?_eq_getElem hil] at hy; exact Option.some.inj hy
  obtain ⟨g, off, rfl, -, hg, hat⟩ := rExts_at hL (by omega)
  obtain ⟨c0, c1, c2, -⟩ := hat i hil
  have hoi := ho l[i] (List.getElem_mem hil)
  obtain ⟨Y, hY⟩ : ∃ Y, Y = l[i] := ⟨_, rfl⟩
  rw [← hY] at c0 c1 c2 hoi
  rw [← hY]
  clear hat hL ho hY hy hl hil
  unfold Ex.One Ex.Fits at hoi
  have HE : Hid (In64 (Y.1 + Y.2.2)) := by unfold Hid In64; omega
  clear hoi
  have hiz : (i : Int) < (n : Int) := by omega
  have SK : Hid (∀ {w'}, Below w.drew.heap.size w.drew w' → w'.cell? ⟨A, 0, none⟩ = some (.slice (some ⟨g, off, none⟩) n c) ∧ w'.cell? ⟨B, 0, none⟩ = some (.int .i64 v) ∧ w'.cell? ⟨g, off + i * 3, none⟩ = some (.int .i64 Y.1) ∧ w'.cell? ⟨g, off + i * 3 + 1, none⟩ = some (.int .i64 Y.2.1) ∧ w'.cell? ⟨g, off + i * 3 + 2, none⟩ = some (.int .i64 Y.2.2)) :=
    fun k => seven_kept (w := w.drew) hA hB hg h0 h1 c0 c1 c2 k
  go_enter Try.func54, Try.ntmps54
  go_wp2_with fail
  refine wp_region_held_drew (S := (fun w' : World => w'.cell? ⟨A, 0, none⟩ = some (.slice (some ⟨g, off, none⟩) n c) ∧ w'.cell? ⟨B, 0, none⟩ = some (.int .i64 v) ∧ w'.cell? ⟨g, off + i * 3, none⟩ = some (.int .i64 Y.1) ∧ w'.cell? ⟨g, off + i * 3 + 1, none⟩ = some (.int .i64 Y.2.1) ∧ w'.cell? ⟨g, off + i * 3 + 2, none⟩ = some (.int .i64 Y.2.2))) (by kernel_rfl) (SK.out (Below.refl _ _)) (fun hHeld => ?_)
  refine wpAnyH_takeL (i := 0) (v := ?_) rfl rfl (by kernel_rfl) (by kernel_rfl) (by kernel_rfl) (fun _ _ _ h => h) (Or.inl ⟨by rfl, ?_⟩) (by assumption) ?_
  rotate_left
  · intro w hSw
    try dsimp only at hSw
    go_simp
    all_goals with_reducible rfl
  simp only [List.set_cons_zero, List.set_cons_succ]
  refine wpAnyH_takeL (i := 1) (v := ?_) rfl rfl (by kernel_rfl) (by kernel_rfl) (by kernel_rfl) (fun _ _ _ h => h) (Or.inl ⟨by rfl, ?_⟩) (by assumption) ?_
  rotate_left
  · intro w hSw
    try dsimp only at hSw
    go_simp
    all_goals with_reducible rfl
  simp only [List.set_cons_zero, List.set_cons_succ]
  refine wpAnyH_takeL (i := 2) (v := ?_) rfl rfl (by kernel_rfl) (by kernel_rfl) (by kernel_rfl) (fun _ _ _ h => h) (Or.inl ⟨by rfl, ?_⟩) (by assumption) ?_
  rotate_left
  · intro w hSw
    try dsimp only at hSw
    go_simp
    all_goals with_reducible rfl
  simp only [List.set_cons_zero, List.set_cons_succ]
  refine wpAnyH_takeL (i := 3) (v := ?_) rfl rfl (by kernel_rfl) (by kernel_rfl) (by kernel_rfl) (fun _ _ _ h => h) (Or.inl ⟨by rfl, ?_⟩) (by assumption) ?_
  rotate_left
  · intro w hSw
    try dsimp only at hSw
    go_simp
    all_goals with_reducible rfl
  simp only [List.set_cons_zero, List.set_cons_succ]
  refine wpAnyH_takeL (i := 5) (v := ?_) rfl rfl (by kernel_rfl) (by kernel_rfl) (by kernel_rfl) (fun _ _ _ h => h) (Or.inl ⟨by rfl, ?_⟩) (by assumption) ?_
  rotate_left
  · intro w hSw
    try dsimp only at hSw
    go_simp
    all_goals with_reducible rfl
  simp only [List.set_cons_zero, List.set_cons_succ]
  refine wpAnyH_ready (rs := [4]) (by kernel_rfl) (by simp) ?_
  refine AllReadyH.cons rfl (fun K hK => ?_) ?_
  · go_simp
    go_at_call 34
    refine Calls.mono (virtEnd_u _ Y HE.out) ?_
    rintro e w2 ⟨rfl, hb2⟩
    have HB2 : Hid (Below w.heap.size w w2) := ⟨hb2.os, hb2.tape, hb2.output, hb2.size, hb2.block⟩
    have S1 := SK.out hb2
    clear hb2
    go_simp
    refine hK.out _ _ ?_ (fun hHeld => ?_)
    · try dsimp only
      exact S1
    clear hK K
    refine wpAnyH_takeL (i := 6) (v := ?_) rfl rfl (by kernel_rfl) (by kernel_rfl) (by kernel_rfl) (fun _ _ _ h => h) (Or.inl ⟨by rfl, ?_⟩) (by assumption) ?_
    rotate_left
    · intro w hSw
      try dsimp only at hSw
      go_simp
      all_goals with_reducible rfl
    simp only [List.set_cons_zero, List.set_cons_succ]
    refine wpAnyH_takeL (i := 7) (v := ?_) rfl rfl (by kernel_rfl) (by kernel_rfl) (by kernel_rfl) (fun _ _ _ h => h) (Or.inl ⟨by rfl, ?_⟩) (by assumption) ?_
    rotate_left
    · intro w hSw
      try dsimp only at hSw
      go_simp
      all_goals with_reducible rfl
    simp only [List.set_cons_zero, List.set_cons_succ]
    refine wpAnyH_done (by kernel_rfl) ?_ _
    clear S1
    go_wp2
    go_ret
    exact ⟨rfl, HB2.out⟩
  exact AllReadyH.nil

end Go.Proofs.Ytlpmfbinemmikaa
