/-
  Facts that the proof rests on, part 15. Conditions: those that each of them names.
-/
import Derived.Lib.AppendZeros
import Derived.Test.YtinlgoljaiolnaaBK08
import Derived.Test.YtinlgoljaiolnaaBK09
import Derived.Test.YtinlgoljaiolnaaBK12
namespace Go.Proofs.Ytinlgoljaiolnaa
open Go.RowKit
set_option linter.unusedVariables false
set_option maxRecDepth 20000 in
set_option maxHeartbeats 4000000 in
theorem alikeM_u (w : World) (P P' : Nat → Prop) (a a' : Option Addr) (n c c' : Nat) (M : List Mpr) (hM : rMps.rd w P [.slice a n c] M) (hM' : rMps.rd w P' [.slice a' n c'] M) :
    Calls Try.prog 25 #[.slice a n c, .slice a' n c'] w fun e w' => e = .returned (.int .i64 0) ∧ Below w.heap.size w w' := by
  have HL : Hid (M.length = n) := (rList_len hM).1
  have HM : Hid (rMps.rd w P [.slice a n c] M) := hM
  have HM' : Hid (rMps.rd w P' [.slice a' n c'] M) := hM'
  have hb : n * 32 ≤ 140737488351232 := (rList_len hM).2.2.2
  have hn : n ≤ 4398046510976 := by omega
  clear hM hM' hb
  go_enter Try.func25, Try.ntmps25
  go_wp2
  go_loopw [5] (fun i wr => ∃ k : Nat, k ≤ n ∧ i = .int .i64 k ∧ Below w.heap.size w wr) (fun i _ => n - (intOf i).toNat)
  case atStart => exact ⟨0, Nat.zero_le _, rfl, Below.refl _ _⟩
  case round =>
    obtain ⟨k, hk, rfl, bel⟩ := hrel
    have BR : Hid (Below w.heap.size w wr) := bel
    by_cases hkn : k < n
    · have hkM : k < M.length := by rw [HL.out]; exact hkn
      obtain ⟨g, off, rfl, -, hgl, hat⟩ := rMps_at HM.out (by omega)
      obtain ⟨a1, n1, k1, c0', c1', hrx, -⟩ := hat k hkM
      obtain ⟨h, hoff, rfl, -, hhl, hat'⟩ := rMps_at HM'.out (by omega)
      obtain ⟨a2, n2, k2, d0', d1', hrx', -⟩ := hat' k hkM
      have c0 := (bel.cell (p := ⟨g, off + k * 2, none⟩) hgl).trans c0'
      have c1 := (bel.cell (p := ⟨g, off + k * 2 + 1, none⟩) hgl).trans c1'
      have d0 := (bel.cell (p := ⟨h, hoff + k * 2, none⟩) hhl).trans d0'
      have d1 := (bel.cell (p := ⟨h, hoff + k * 2 + 1, none⟩) hhl).trans d1'
      have hgw : g < wr.heap.size := Nat.lt_of_lt_of_le hgl bel.size
      have hhw : h < wr.heap.size := Nat.lt_of_lt_of_le hhl bel.size
      have HX1 : Hid (rExts.rd wr.drew P [.slice a1 n1 k1] M[k].2) := rExts.keep (Rep.below hrx bel) (fun _ _ _ => rfl)
      have HX2 : Hid (rExts.rd wr.drew P' [.slice a2 n2 k2] M[k].2) := rExts.keep (Rep.below hrx' bel) (fun _ _ _ => rfl)
      have hkz : (k : Int) < (n : Int) := by omega
      generalize hGO : M[k].1 = O at *
      generalize hGX : M[k].2 = X at *
      clear hGO hGX hat hat' hrx hrx' bel c0' c1' d0' d1'
      go_wp2_with fail
      refine wp_region_held_drew (S := (fun w' : World => (w'.cell? ⟨g, off + k * 2, none⟩ = some (.int .i64 O) ∧ w'.cell? ⟨g, off + k * 2 + 1, none⟩ = some (.slice a1 n1 k1)) ∧ w'.cell? ⟨h, hoff + k * 2, none⟩ = some (.int .i64 O) ∧ w'.cell? ⟨h, hoff + k * 2 + 1, none⟩ = some (.slice a2 n2 k2))) (by kernel_rfl) (⟨⟨c0, c1⟩, d0, d1⟩) (fun hHeld => ?_)
      refine wpAnyH_takeL (i := 0) (v := ?_) rfl rfl (by kernel_rfl) (by kernel_rfl) (by kernel_rfl) (fun _ _ _ h => h) (Or.inl ⟨by rfl, ?_⟩) (by assumption) ?_
      rotate_left
      · intro w hSw
        try dsimp only at hSw
        go_simp
        all_goals with_reducible rfl
      simp only [List.set_cons_zero, List.set_cons_succ]
      refine wpAnyH_takeL (i := 1) (v := ?_) rfl rfl (by kernel_rfl) (by kernel_rfl) (by kernel_rfl) (fun _ _ _ h => h) (Or.inl ⟨by rfl, ?_⟩) (by assumption) ?_
      rotate_left
      · intro w hSw
        try dsimp only at hSw
        go_simp
        all_goals with_reducible rfl
      simp only [List.set_cons_zero, List.set_cons_succ]
      refine wpAnyH_takeL (i := 2) (v := ?_) rfl rfl (by kernel_rfl) (by kernel_rfl) (by kernel_rfl) (fun _ _ _ h => h) (Or.inl ⟨by rfl, ?_⟩) (by assumption) ?_
      rotate_left
      · intro w hSw
        try dsimp only at hSw
        go_simp
        all_goals with_reducible rfl
      simp only [List.set_cons_zero, List.set_cons_succ]
      refine wpAnyH_takeL (i := 3) (v := ?_) rfl rfl (by kernel_rfl) (by kernel_rfl) (by kernel_rfl) (fun _ _ _ h => h) (Or.inl ⟨by rfl, ?_⟩) (by assumption) ?_
      rotate_left
      · intro w hSw
        try dsimp only at hSw
        go_simp
        all_goals with_reducible rfl
      simp only [List.set_cons_zero, List.set_cons_succ]
      refine wpAnyH_takeL (i := 4) (v := ?_) rfl rfl (by kernel_rfl) (by kernel_rfl) (by kernel_rfl) (fun _ _ _ h => h) (Or.inl ⟨by rfl, ?_⟩) (by assumption) ?_
      rotate_left
      · intro w hSw
        try dsimp only at hSw
        go_simp
        all_goals with_reducible rfl
      simp only [List.set_cons_zero, List.set_cons_succ]
      refine wpAnyH_takeL (i := 5) (v := ?_) rfl rfl (by kernel_rfl) (by kernel_rfl) (by kernel_rfl) (fun _ _ _ h => h) (Or.inl ⟨by rfl, ?_⟩) (by assumption) ?_
      rotate_left
      · intro w hSw
        try dsimp only at hSw
        go_simp
        all_goals with_reducible rfl
      simp only [List.set_cons_zero, List.set_cons_succ]
      refine wpAnyH_takeL (i := 6) (v := ?_) rfl rfl (by kernel_rfl) (by kernel_rfl) (by kernel_rfl) (fun _ _ _ h => h) (Or.inl ⟨by rfl, ?_⟩) (by assumption) ?_
      rotate_left
      · intro w hSw
        try dsimp only at hSw
        go_simp
        all_goals with_reducible rfl
      simp only [List.set_cons_zero, List.set_cons_succ]
      refine wpAnyH_takeL (i := 7) (v := ?_) rfl rfl (by kernel_rfl) (by kernel_rfl) (by kernel_rfl) (fun _ _ _ h => h) (Or.inl ⟨by rfl, ?_⟩) (by assumption) ?_
      rotate_left
      · intro w hSw
        try dsimp only at hSw
        go_simp
        all_goals with_reducible rfl
      simp only [List.set_cons_zero, List.set_cons_succ]
      refine wpAnyH_takeL (i := 8) (v := ?_) rfl rfl (by kernel_rfl) (by kernel_rfl) (by kernel_rfl) (fun _ _ _ h => h) (Or.inl ⟨by rfl, ?_⟩) (by assumption) ?_
      rotate_left
      · intro w hSw
        try dsimp only at hSw
        go_simp
        all_goals with_reducible rfl
      simp only [List.set_cons_zero, List.set_cons_succ]
      refine wpAnyH_takeL (i := 9) (v := ?_) rfl rfl (by kernel_rfl) (by kernel_rfl) (by kernel_rfl) (fun _ _ _ h => h) (Or.inl ⟨by rfl, ?_⟩) (by assumption) ?_
      rotate_left
      · intro w hSw
        try dsimp only at hSw
        go_simp
        all_goals with_reducible rfl
      simp only [List.set_cons_zero, List.set_cons_succ]
      refine wpAnyH_takeL (i := 10) (v := ?_) rfl rfl (by kernel_rfl) (by kernel_rfl) (by kernel_rfl) (fun _ _ _ h => h) (Or.inl ⟨by rfl, ?_⟩) (by assumption) ?_
      rotate_left
      · intro w hSw
        try dsimp only at hSw
        go_simp
        all_goals with_reducible rfl
      simp only [List.set_cons_zero, List.set_cons_succ]
      refine wpAnyH_takeL (i := 11) (v := ?_) rfl rfl (by kernel_rfl) (by kernel_rfl) (by kernel_rfl) (fun _ _ _ h => h) (Or.inl ⟨by rfl, ?_⟩) (by assumption) ?_
      rotate_left
      · intro w hSw
        try dsimp only at hSw
        go_simp
        all_goals with_reducible rfl
      simp only [List.set_cons_zero, List.set_cons_succ]
      refine wpAnyH_takeL (i := 12) (v := ?_) rfl rfl (by kernel_rfl) (by kernel_rfl) (by kernel_rfl) (fun _ _ _ h => h) (Or.inl ⟨by rfl, ?_⟩) (by assumption) ?_
      rotate_left
      · intro w hSw
        try dsimp only at hSw
        go_simp
        all_goals with_reducible rfl
      simp only [List.set_cons_zero, List.set_cons_succ]
      refine wpAnyH_takeL (i := 13) (v := ?_) rfl rfl (by kernel_rfl) (by kernel_rfl) (by kernel_rfl) (fun _ _ _ h => h) (Or.inl ⟨by rfl, ?_⟩) (by assumption) ?_
      rotate_left
      · intro w hSw
        try dsimp only at hSw
        go_simp
        all_goals with_reducible rfl
      simp only [List.set_cons_zero, List.set_cons_succ]
      refine wpAnyH_takeL (i := 14) (v := ?_) rfl rfl (by kernel_rfl) (by kernel_rfl) (by kernel_rfl) (fun _ _ _ h => h) (Or.inl ⟨by rfl, ?_⟩) (by assumption) ?_
      rotate_left
      · intro w hSw
        try dsimp only at hSw
        go_simp
        all_goals with_reducible rfl
      simp only [List.set_cons_zero, List.set_cons_succ]
      refine wpAnyH_takeL (i := 15) (v := ?_) rfl rfl (by kernel_rfl) (by kernel_rfl) (by kernel_rfl) (fun _ _ _ h => h) (Or.inl ⟨by rfl, ?_⟩) (by assumption) ?_
      rotate_left
      · intro w hSw
        try dsimp only at hSw
        go_simp
        all_goals with_reducible rfl
      simp only [List.set_cons_zero, List.set_cons_succ]
      refine wpAnyH_takeL (i := 16) (v := ?_) rfl rfl (by kernel_rfl) (by kernel_rfl) (by kernel_rfl) (fun _ _ _ h => h) (Or.inl ⟨by rfl, ?_⟩) (by assumption) ?_
      rotate_left
      · intro w hSw
        try dsimp only at hSw
        go_simp
        all_goals with_reducible rfl
      simp only [List.set_cons_zero, List.set_cons_succ]
      refine wpAnyH_takeL (i := 17) (v := ?_) rfl rfl (by kernel_rfl) (by kernel_rfl) (by kernel_rfl) (fun _ _ _ h => h) (Or.inl ⟨by rfl, ?_⟩) (by assumption) ?_
      rotate_left
      · intro w hSw
        try dsimp only at hSw
        go_simp
        all_goals with_reducible rfl
      simp only [List.set_cons_zero, List.set_cons_succ]
      refine wpAnyH_takeL (i := 18) (v := ?_) rfl rfl (by kernel_rfl) (by kernel_rfl) (by kernel_rfl) (fun _ _ _ h => h) (Or.inl ⟨by rfl, ?_⟩) (by assumption) ?_
      rotate_left
      · intro w hSw
        try dsimp only at hSw
        go_simp
        all_goals with_reducible rfl
      simp only [List.set_cons_zero, List.set_cons_succ]
      refine wpAnyH_takeL (i := 19) (v := ?_) rfl rfl (by kernel_rfl) (by kernel_rfl) (by kernel_rfl) (fun _ _ _ h => h) (Or.inl ⟨by rfl, ?_⟩) (by assumption) ?_
      rotate_left
      · intro w hSw
        try dsimp only at hSw
        go_simp
        all_goals with_reducible rfl
      simp only [List.set_cons_zero, List.set_cons_succ]
      refine wpAnyH_takeL (i := 20) (v := ?_) rfl rfl (by kernel_rfl) (by kernel_rfl) (by kernel_rfl) (fun _ _ _ h => h) (Or.inl ⟨by rfl, ?_⟩) (by assumption) ?_
      rotate_left
      · intro w hSw
        try dsimp only at hSw
        go_simp
        all_goals with_reducible rfl
      simp only [List.set_cons_zero, List.set_cons_succ]
      refine wpAnyH_takeL (i := 21) (v := ?_) rfl rfl (by kernel_rfl) (by kernel_rfl) (by kernel_rfl) (fun _ _ _ h => h) (Or.inl ⟨by rfl, ?_⟩) (by assumption) ?_
      rotate_left
      · intro w hSw
        try dsimp only at hSw
        go_simp
        all_goals with_reducible rfl
      simp only [List.set_cons_zero, List.set_cons_succ]
      refine wpAnyH_ready (rs := [22]) (by kernel_rfl) (by simp) ?_
      refine AllReadyH.cons rfl (fun K hK => ?_) ?_
      · go_simp
        go_at_call 48
        refine Calls.mono (sameExts_u _ _ _ _ _ _ _ _ _ X X HX1.out HX2.out) ?_
        rintro e w5 ⟨rfl, bd5⟩
        rw [decide_eq_true (rfl : X = X)]
        have b5 : Below wr.heap.size wr w5 := below_drew_pre bd5
        have S1 := And.intro (And.intro ((b5.cell (p := ⟨g, off + k * 2, none⟩) hgw).trans c0) ((b5.cell (p := ⟨g, off + k * 2 + 1, none⟩) hgw).trans c1)) (And.intro ((b5.cell (p := ⟨h, hoff + k * 2, none⟩) hhw).trans d0) ((b5.cell (p := ⟨h, hoff + k * 2 + 1, none⟩) hhw).trans d1))
        have B5 : Hid (Below w.heap.size w w5) := on BR.out b5
        clear bd5 b5
        go_simp
        refine hK.out _ _ ?_ (fun hHeld => ?_)
        · try dsimp only
          exact S1
        clear hK K
        refine wpAnyH_takeL (i := 23) (v := ?_) rfl rfl (by kernel_rfl) (by kernel_rfl) (by kernel_rfl) (fun _ _ _ h => h) (Or.inl ⟨by rfl, ?_⟩) (by assumption) ?_
        rotate_left
        · intro w hSw
          try dsimp only at hSw
          go_simp
          all_goals with_reducible rfl
        simp only [List.set_cons_zero, List.set_cons_succ]
        refine wpAnyH_takeL (i := 24) (v := ?_) rfl rfl (by kernel_rfl) (by kernel_rfl) (by kernel_rfl) (fun _ _ _ h => h) (Or.inl ⟨by rfl, ?_⟩) (by assumption) ?_
        rotate_left
        · intro w hSw
          try dsimp only at hSw
          go_simp
          all_goals with_reducible rfl
        simp only [List.set_cons_zero, List.set_cons_succ]
        refine wpAnyH_done (by kernel_rfl) ?_ _
        go_wp2
        go_roundw
        case rel => exact ⟨k + 1, by omega, by go_num, B5.out⟩
        case measure => simp [intOf]; omega
      exact AllReadyH.nil
    · obtain rfl : k = n := by omega
      clear bel
      go_wp2
      go_ret
      exact ⟨rfl, BR.out⟩
theorem elem_map9D : ElemOf Try.prog 22 72 rMp := elemOf (z := .agg #[.int .i64 0, .slice none 0 0]) Try.underlying22 (by kernel_rfl) rfl rfl rfl (by decide)
end Go.Proofs.Ytinlgoljaiolnaa
namespace Go.Proofs.Ytinlgoljaiolnaa
open Go.RowKit
set_option linter.unusedVariables false
theorem rMps_flat {w : World} {P : Nat → Prop} {ad : Addr} {n c : Nat} {m : List Mpr} (h : rMps.rd w P [.slice (some ad) n c] m) :
    ∀ k, k ≤ m.length → ∃ xs, rdAll rMp w P xs (m.take k) ∧ xs.length = k * 2 ∧ ∀ j u, xs[j]? = some u → w.cell? (ad.add j) = some u := by
  obtain ⟨a', n', c', e, h1, h2, h3, h4, h5⟩ := h
  simp only [List.cons.injEq, Value.slice.injEq, and_true] at e
  obtain ⟨rfl, rfl, rfl⟩ := e
  intro k
  induction k with
  | zero => exact fun _ => ⟨[], rfl, rfl, fun j u hj => by simp at hj⟩
  | succ k ih =>
    intro hk
    obtain ⟨xs, g1, g2, g3⟩ := ih (by omega)
    obtain ⟨-, cs, k1, k2⟩ := h5 ad rfl k (by omega)
    have hc : cs.length = 2 := rMp.len k1
    refine ⟨xs ++ cs, ?_, by rw [List.length_append, g2, hc]; omega, fun j u hj => ?_⟩
    · rw [List.take_succ_eq_append_getElem (by omega)]
      exact rdAll_append g1 (rdAll_one_elem k1)
    · by_cases hj2 : j < xs.length
      · rw [List.getElem?_append_left hj2] at hj
        exact g3 j u hj
      · rw [List.getElem?_append_right (by omega), g2] at hj
        have := k2 (j - k * 2) u hj
        rw [show rMp.size = 2 from rfl, show k * 2 + (j - k * 2) = j by omega] at this
        exact this
theorem OwnsQ.base_mono {w : World} {base base' : Nat} {Q : Nat → Prop} {v : Value} {e : TypeId} {l : List Mpr} (h : OwnsQ rMp e w base Q v l) (hb : base' ≤ base) : OwnsQ rMp e w base' Q v l := by
  obtain ⟨xs, ⟨h1, h2⟩, h3⟩ := h
  refine ⟨xs, ⟨h1, ?_⟩, h3⟩
  rcases h2 with h2 | ⟨g, cap, cur, hv, hg, r⟩
  · exact .inl h2
  · exact .inr ⟨g, cap, cur, hv, by omega, r⟩
theorem run_append_maps {w : World} {base : Nat} {Q : Nat → Prop} {v : Value} {l : List Mpr} (hown : OwnsQ rMp 72 w base Q v l) {P : Nat → Prop} {a : Option Addr} {n c : Nat} {m : List Mpr} (h : rMps.rd w P [.slice a n c] m) (hP : ∀ b, P b → b < w.heap.size → Q b ∧ v.ownBlock ≠ some b) (hb : l.length + n ≤ 1000000) (hbase : base ≤ w.heap.size) (ty : TypeId) :
    ∃ v' w', (Builtin.append_ #[22, 22] ty #[v, .slice a n c]).run Try.prog w = .ok v' w' ∧ OwnsQ rMp 72 w' base Q v' (l ++ m) ∧ w.grownBy w' v.ownBlock ∧ (v'.ownBlock = v.ownBlock ∨ v'.ownBlock = some w.heap.size) := by
  obtain ⟨ht, i, z, hi, hz, hsize, hby, hzs, hpos⟩ := elem_map9D
  obtain ⟨hl, hnc, hnil, -⟩ := rList_len h
  cases a with
  | none =>
    obtain rfl := hnil rfl
    obtain rfl : n = 0 := by omega
    obtain rfl : m = [] := List.length_eq_zero_iff.1 hl
    obtain ⟨xs, h1, h2⟩ := hown
    exact ⟨v, w, run_append_owned_none (P := Try.prog) (w := w) base 22 ty 72 i 2 ht hi v l.length xs h1, by rw [List.append_nil]; exact ⟨xs, h1, h2⟩, World.grownBy.refl _ _, .inl rfl⟩
  | some ad =>
    obtain ⟨ys, g1, g2, g3⟩ := rMps_flat h m.length (Nat.le_refl _)
    rw [List.take_length] at g1
    obtain ⟨xs, h1, h2⟩ := hown
    obtain ⟨v', w', hr, k1, k2, -, k4⟩ := run_append_own_at (P := Try.prog) w base 22 ty 72 i z 2 32 ht hi hz hsize hby hzs (by decide) v l.length xs h1 ad n c ys (by rw [g2, hl]) g3
      (fun u hu => by
        obtain ⟨j, hj, rfl⟩ := List.mem_iff_getElem.1 hu
        exact rdAll_one g1 _ (List.getElem_mem hj)) (by unfold maxLen; omega) (by omega) hbase
    refine ⟨v', w', hr, ⟨xs ++ ys, by rw [List.length_append, hl]; exact k1, ?_⟩, k2, k4⟩
    have h3 : rdAll rMp w (fun b => Q b ∧ v.ownBlock ≠ some b) (xs ++ ys) (l ++ m) := rdAll_append h2 (rdAll_weaken hP g1)
    have h6 : rdAll rMp w (fun b => (Q b ∧ v'.ownBlock ≠ some b) ∧ v.ownBlock ≠ some b) (xs ++ ys) (l ++ m) := rdAll_weaken (fun b hb hl => ⟨⟨hb.1, fun e => by
      rcases k4 with h | h
      · exact hb.2 (h ▸ e)
      · rw [h] at e; cases e; omega⟩, hb.2⟩) h3
    exact rdAll_weaken (fun b hb _ => hb.1) (rdAll_keep (w' := w') (fun b hb hl => k2.block b hl (fun e => hb.2 e.symm)) h6)
end Go.Proofs.Ytinlgoljaiolnaa
namespace Go.Proofs.Ytinlgoljaiolnaa
open Go.RowKit
set_option linter.unusedVariables false
theorem rMps_front {w : World} {P : Nat → Prop} {a : Option Addr} {n c : Nat} {l : List Mpr} (h : rMps.rd w P [.slice a n c] l) {k : Nat} (hk : k ≤ n) : rMps.rd w P [.slice a k c] (l.take k) := by
  obtain ⟨a', n', c', e, h1, h2, h3, h4, h5⟩ := h
  simp only [List.cons.injEq, Value.slice.injEq, and_true] at e
  obtain ⟨rfl, rfl, rfl⟩ := e
  refine ⟨a, k, c, rfl, by rw [List.length_take]; omega, by omega, h3, by have : n * 32 ≤ 140737488351232 := h4; show k * 32 ≤ _; omega, fun x hx j hj => ?_⟩
  have hj' : j < l.length := by rw [List.length_take] at hj; omega
  have := h5 x hx j hj'
  rw [List.getElem_take]
  exact this
theorem rMps_rest {w : World} {P : Nat → Prop} {b off n c : Nat} {l : List Mpr} (h : rMps.rd w P [.slice (some ⟨b, off, none⟩) n c] l) {k : Nat} (hk : k ≤ n) : rMps.rd w P [.slice (some ⟨b, off + k * 2, none⟩) (n - k) (c - k)] (l.drop k) := by
  obtain ⟨a', n', c', e, h1, h2, h3, h4, h5⟩ := h
  simp only [List.cons.injEq, Value.slice.injEq, and_true] at e
  obtain ⟨rfl, rfl, rfl⟩ := e
  refine ⟨_, _, _, rfl, by rw [List.length_drop, h1], by omega, (fun e => by cases e), by have : n * 32 ≤ 140737488351232 := h4; show (n - k) * 32 ≤ _; omega, fun x hx j hj => ?_⟩
  simp only [Option.some.injEq] at hx
  subst hx
  have hj' : k + j < l.length := by rw [List.length_drop] at hj; omega
  obtain ⟨hp, cj, g1, g2⟩ := h5 ⟨b, off, none⟩ rfl (k + j) hj'
  refine ⟨hp, cj, by rw [List.getElem_drop]; exact g1, fun r v hv => ?_⟩
  have := g2 r v hv
  rw [Addr.add_lit] at this ⊢
  rw [show off + k * 2 + (j * rMp.size + r) = off + ((k + j) * rMp.size + r) from by rw [show rMp.size = 2 from rfl]; omega]
  exact this
theorem rMps_emptyAt (w : World) (P : Nat → Prop) (a : Option Addr) (c : Nat) (h : a = none → c = 0) : rMps.rd w P [.slice a 0 c] [] := ⟨a, 0, c, rfl, rfl, Nat.zero_le _, h, by decide, fun x hx j hj => by cases hj⟩
theorem rdAll_setMap {w : World} {P : Nat → Prop} {u : Value} {X : List Ext} (hu : rExts.rd w P [u] X) : ∀ {l : List Mpr} {xs : List Value}, rdAll rMp w P xs l → ∀ (j : Nat) (hj : j < l.length), rdAll rMp w P (xs.set (j * 2 + 1) u) (l.set j (l[j].1, X))
  | [], _, _, j, hj => absurd hj (by simp)
  | x :: l, xs, ⟨c, r, e, h1, h2⟩, 0, hj => by
    obtain ⟨c1, c2, rfl, k1, k2⟩ := h1
    have e1 : c1.length = 1 := rInt.len k1
    have e2 : c2.length = 1 := rExts.len k2
    match c1, e1, c2, e2 with
    | [p], _, [q], _ =>
      subst e
      exact ⟨[p] ++ [u], r, rfl, ⟨[p], [u], rfl, k1, hu⟩, h2⟩
  | x :: l, xs, ⟨c, r, e, h1, h2⟩, j + 1, hj => by
    have hc : c.length = 2 := rMp.len h1
    have ih := rdAll_setMap hu h2 j (by simpa using hj)
    refine ⟨c, r.set (j * 2 + 1) u, ?_, h1, by simpa using ih⟩
    rw [e, List.set_append_right _ _ (by omega), hc, show (j + 1) * 2 + 1 - 2 = j * 2 + 1 by omega]
theorem OwnsQ.cells9 {e : TypeId} {w : World} {base : Nat} {Q : Nat → Prop} {a : Option Addr} {n c : Nat} {l : List Mpr} (h : OwnsQ rMp e w base Q (.slice a n c) l) (hl : 0 < l.length) :
    ∃ g, a = some ⟨g, 0, none⟩ ∧ base ≤ g ∧ g < w.heap.size ∧ n = l.length ∧ (∀ k, w.frozen? ⟨g, k, none⟩ = false) ∧
    ∀ (j : Nat) (hj : j < l.length), ∃ a' n' c', w.cell? ⟨g, j * 2, none⟩ = some (.int .i64 l[j].1) ∧ w.cell? ⟨g, j * 2 + 1, none⟩ = some (.slice a' n' c') ∧ rExts.rd w (fun b => Q b ∧ g ≠ b) [.slice a' n' c'] l[j].2 ∧ In64 l[j].1 := by
  obtain ⟨xs, h1, h2⟩ := h
  rcases h1.2 with ⟨h3, h0⟩ | ⟨g, cap, cur, e1, g1, g2, g3, g4, g5, g6⟩
  · omega
  · have e2 := e1
    simp only [Value.slice.injEq] at e2
    obtain ⟨rfl, rfl, rfl⟩ := e2
    refine ⟨g, rfl, g1, (Array.getElem?_eq_some_iff.1 g2).1, rfl, (fun k => by simp [World.frozen?, g2]), fun j hj => ?_⟩
    obtain ⟨cj, r1, r2⟩ := rdAll_get h2 j hj
    obtain ⟨c1, c2, rfl, ⟨rfl, k1⟩, k2⟩ := r1
    obtain ⟨a', n', c', rfl, -⟩ := id k2
    have hc := h1.cells (g := g) rfl
    have a0 := hc _ _ (r2 0 _ rfl)
    have a1 := hc _ _ (r2 1 _ rfl)
    rw [Addr.add_lit, Nat.zero_add, show rMp.size = 2 from rfl] at a0 a1
    rw [Nat.add_zero] at a0
    exact ⟨a', n', c', a0, a1, rExts.weaken k2 (fun b hb _ => ⟨hb.1, fun e => hb.2 (by rw [e]; rfl)⟩), k1⟩
theorem OwnsQ.setList {e : TypeId} {w : World} {base : Nat} {Q : Nat → Prop} {g n c : Nat} {l : List Mpr} (h : OwnsQ rMp e w base Q (.slice (some ⟨g, 0, none⟩) n c) l) {u : Value} {X : List Ext} (hu : rExts.rd w (fun b => Q b ∧ g ≠ b) [u] X) (j : Nat) (hj : j < l.length) :
    OwnsQ rMp e (w.setCell ⟨g, j * 2 + 1, none⟩ u) base Q (.slice (some ⟨g, 0, none⟩) n c) (l.set j (l[j].1, X)) := by
  obtain ⟨xs, h1, h2⟩ := h
  have hn : n = l.length := by
    rcases h1.2 with ⟨h3, h0⟩ | ⟨g', cap, cur, e1, -⟩
    · cases h3
    · simp only [Value.slice.injEq] at e1; exact e1.2.1
  subst hn
  have hs := (h1.stored (j * 2 + 1) u).1
  refine ⟨xs.set (j * 2 + 1) u, by rw [List.length_set]; exact hs, ?_⟩
  have hu' : rExts.rd w (fun b => Q b ∧ (Value.slice (some ⟨g, 0, none⟩) l.length c).ownBlock ≠ some b) [u] X := rExts.weaken hu (fun b hb _ => ⟨hb.1, fun e => hb.2 (by cases e; rfl)⟩)
  exact rdAll_keep (fun b hb _ => heap_setCell_other w ⟨g, j * 2 + 1, none⟩ b u (fun e => hb.2 (by show some g = some b; rw [e]))) (rdAll_setMap hu' h2 j hj)
end Go.Proofs.Ytinlgoljaiolnaa
namespace Go.Proofs.Ytinlgoljaiolnaa
set_option linter.unusedVariables false
namespace Rf
def sumAt (p : Int) : List Cnr → Int
  | [] => 0
  | x :: l => (if x.1 ≤ p ∧ p < x.1 + x.2.1 then x.2.2 else 0) + sumAt p l
theorem sum_append (p : Int) : ∀ a b : List Cnr, sumAt p (a ++ b) = sumAt p a + sumAt p b
  | [], b => by simp [sumAt]
  | x :: a, b => by
    show _ + sumAt p (a ++ b) = _
    rw [sum_append p a b]
    simp only [sumAt]
    omega
end Rf
end Go.Proofs.Ytinlgoljaiolnaa
namespace Go.Proofs.Ytinlgoljaiolnaa
set_option linter.unusedVariables false
namespace Rf
def lk : List Mpr → Nat → List Ext
  | [], _ => []
  | o :: m, n => if o.1 = (n : Int) then o.2 else lk m n
theorem sizes_set (L : Nat → List Ext) (o : Nat) (X : List Ext) : ∀ n, sizes (setT L o X) n = sizes L n + if o < n then Ex.size X - Ex.size (L o) else 0
  | 0 => by simp [sizes]
  | n + 1 => by
    have ih := sizes_set L o X n
    unfold sizes
    rw [ih]
    unfold setT
    by_cases c : n = o
    · subst c
      rw [if_neg (by omega), if_pos rfl, if_pos (by omega)]
      omega
    · rw [if_neg c]
      by_cases q : o < n
      · rw [if_pos q, if_pos (by omega)]
        omega
      · rw [if_neg q, if_neg (by omega)]
        omega
def part (M : List Mpr) (D : List Rfr) (q : Nat) : List Ext := (lk M q).filter fun e => decide ((e.2.1, e.2.2, (q : Int), e.1) ∈ D)
end Rf
end Go.Proofs.Ytinlgoljaiolnaa
namespace Go.Proofs.Ytinlgoljaiolnaa
set_option linter.unusedVariables false
namespace Rf
def outFrom (L : Nat → List Ext) (s : Nat) : Nat → List Mpr
  | 0 => []
  | m + 1 => if L (s + m) = [] then outFrom L s m else outFrom L s m ++ [(((s + m : Nat) : Int), L (s + m))]
def outOne (L : Nat → List Ext) (o : Nat) : List Mpr := if L o = [] then [] else [((o : Int), L o)]
theorem out_split (L : Nat → List Ext) (o : Nat) : ∀ m, outOf L (o + 1 + m) = outOf L o ++ outOne L o ++ outFrom L (o + 1) m
  | 0 => by
    show (if L o = [] then outOf L o else outOf L o ++ [((o : Int), L o)]) = _
    unfold outOne outFrom
    split <;> simp
  | m + 1 => by
    have ih := out_split L o m
    show (if L (o + 1 + m) = [] then outOf L (o + 1 + m) else outOf L (o + 1 + m) ++ [(((o + 1 + m : Nat) : Int), L (o + 1 + m))]) = _
    rw [ih]
    show _ = outOf L o ++ outOne L o ++ (if L (o + 1 + m) = [] then outFrom L (o + 1) m else outFrom L (o + 1) m ++ [(((o + 1 + m : Nat) : Int), L (o + 1 + m))])
    split
    · rfl
    · rw [List.append_assoc (outOf L o ++ outOne L o)]
theorem out_low (L : Nat → List Ext) : ∀ n, ∀ x ∈ outOf L n, 0 ≤ x.1 ∧ x.1 < (n : Int) ∧ x.2 ≠ []
  | 0, x, hx => by cases hx
  | n + 1, x, hx => by
    have ih := out_low L n
    have e : outOf L (n + 1) = if L n = [] then outOf L n else outOf L n ++ [((n : Int), L n)] := rfl
    rw [e] at hx
    split at hx
    · have := ih x hx
      exact ⟨this.1, by omega, this.2.2⟩
    · rename_i hne
      rcases List.mem_append.1 hx with hx | hx
      · have := ih x hx
        exact ⟨this.1, by omega, this.2.2⟩
      · rw [List.mem_singleton] at hx
        subst hx
        exact ⟨by show 0 ≤ (n : Int); omega, by show (n : Int) < _; omega, hne⟩
theorem from_high (L : Nat → List Ext) (s : Nat) : ∀ m, ∀ x ∈ outFrom L s m, (s : Int) ≤ x.1
  | 0, x, hx => by cases hx
  | m + 1, x, hx => by
    have ih := from_high L s m
    have e : outFrom L s (m + 1) = if L (s + m) = [] then outFrom L s m else outFrom L s m ++ [(((s + m : Nat) : Int), L (s + m))] := rfl
    rw [e] at hx
    split at hx
    · exact ih x hx
    · rcases List.mem_append.1 hx with hx | hx
      · exact ih x hx
      · rw [List.mem_singleton] at hx
        subst hx
        show (s : Int) ≤ ((s + m : Nat) : Int)
        omega
theorem out_set (L : Nat → List Ext) (o : Nat) (X : List Ext) : ∀ n, n ≤ o → outOf (setT L o X) n = outOf L n
  | 0, _ => rfl
  | n + 1, h => by
    have ih := out_set L o X n (by omega)
    show (if setT L o X n = [] then outOf (setT L o X) n else outOf (setT L o X) n ++ [((n : Int), setT L o X n)]) = (if L n = [] then outOf L n else outOf L n ++ [((n : Int), L n)])
    rw [ih, show setT L o X n = L n from if_neg (by omega)]
theorem from_set (L : Nat → List Ext) (o : Nat) (X : List Ext) (s : Nat) (hs : o < s) : ∀ m, outFrom (setT L o X) s m = outFrom L s m
  | 0 => rfl
  | m + 1 => by
    have ih := from_set L o X s hs m
    show (if setT L o X (s + m) = [] then outFrom (setT L o X) s m else outFrom (setT L o X) s m ++ [(((s + m : Nat) : Int), setT L o X (s + m))]) = (if L (s + m) = [] then outFrom L s m else outFrom L s m ++ [(((s + m : Nat) : Int), L (s + m))])
    rw [ih, show setT L o X (s + m) = L (s + m) from if_neg (by omega)]
theorem out_around (L : Nat → List Ext) {o : Nat} (ho : o < 256) : outOf L 256 = outOf L o ++ outOne L o ++ outFrom L (o + 1) (255 - o) := by
  have := out_split L o (255 - o)
  rw [show o + 1 + (255 - o) = 256 by omega] at this
  exact this
theorem out_put (L : Nat → List Ext) {o : Nat} (ho : o < 256) {X : List Ext} (hX : X ≠ []) : outOf (setT L o X) 256 = outOf L o ++ [((o : Int), X)] ++ outFrom L (o + 1) (255 - o) := by
  rw [out_around (setT L o X) ho, out_set L o X o (Nat.le_refl _), from_set L o X (o + 1) (by omega)]
  have e : setT L o X o = X := if_pos rfl
  unfold outOne
  rw [e, if_neg hX]
theorem put_some {l : List Ext} {x : Ext} (h : Ex.putE l x = 0) : Ex.putL l x ≠ [] := by
  obtain ⟨h1, h2, h3⟩ := Ex.putE_zero.1 h
  obtain ⟨-, h4, h5⟩ := Ex.putL_ok h
  intro e
  have := h5 x.1
  unfold Ex.One at h2
  rw [e, if_pos (by omega)] at this
  cases this
theorem told_next {L : Nat → List Ext} {t : Int} {r : Rfr} (hm : MayR r L) : t + r.2.1 - sizes (setT L (ownN r) (Ex.putL (L (ownN r)) (extOf r))) 256 = t - sizes L 256 + Ex.again (L (ownN r)) (extOf r) := by
  obtain ⟨h1, h2, h3⟩ := hm
  have ho : ownN r < 256 := by unfold ownN; omega
  have hs := Ex.put_size h3
  have e : (extOf r).2.2 = r.2.1 := rfl
  rw [sizes_set, if_pos ho, hs, e]
  omega
def seen (l : List Ext) (x : Ext) : Bool := (Ex.look l x.1 x.2.2).any fun z => decide (z.2.1 ≠ -1)
theorem seen_again {l : List Ext} {x : Ext} (h : Ex.putE l x = 0) : seen l x = decide (0 < Ex.again l x) := by
  obtain ⟨h1, h2, h3⟩ := Ex.putE_zero.1 h
  rw [Bool.eq_iff_iff, decide_eq_true_eq, ← Ex.look_again h1 h2]
  unfold seen
  rw [List.any_eq_true]
  constructor
  · rintro ⟨z, hz, hd⟩
    exact ⟨z, hz, by simpa using hd⟩
  · rintro ⟨z, hz, hd⟩
    exact ⟨z, hz, by simpa using hd⟩
structure Beside (l : List Rfr) (k : Nat) (O : List Mpr) (tw : Bool) (L : Nat → List Ext) (t : Int) : Prop where
  puts : putsR (l.take k) = some (L, t)
  out : O = outOf L 256
  more : sizes L 256 ≤ t
  twice : tw = decide (0 < t - sizes L 256)
theorem sizes_none : ∀ n, sizes (fun _ => []) n = 0
  | 0 => rfl
  | n + 1 => by unfold sizes; rw [sizes_none n]; rfl
theorem out_none : ∀ n, outOf (fun _ => []) n = []
  | 0 => rfl
  | n + 1 => by
    show (if ([] : List Ext) = [] then outOf (fun _ => []) n else _) = []
    rw [if_pos rfl]
    exact out_none n
theorem Beside.start (l : List Rfr) : Beside l 0 [] false (fun _ => []) 0 :=
  ⟨rfl, (out_none 256).symm, by rw [sizes_none]; exact Int.le_refl _, by rw [sizes_none]; rfl⟩
theorem Beside.next {l : List Rfr} {k : Nat} {O : List Mpr} {tw : Bool} {L : Nat → List Ext} {t : Int} (h : Beside l k O tw L t) (hk : k < l.length) (hm : MayR l[k] L) :
    Beside l (k + 1) (outOf L (ownN l[k]) ++ [((ownN l[k] : Int), Ex.putL (L (ownN l[k])) (extOf l[k]))] ++ outFrom L (ownN l[k] + 1) (255 - ownN l[k])) (tw || seen (L (ownN l[k])) (extOf l[k]))
      (setT L (ownN l[k]) (Ex.putL (L (ownN l[k])) (extOf l[k]))) (t + l[k].2.1) := by
  have ho : ownN l[k] < 256 := by have := hm.1; have := hm.2.1; unfold ownN; omega
  have e := told_next (t := t) hm
  have ha := Ex.again_pos (L (ownN l[k])) (extOf l[k])
  have hmo := h.more
  refine ⟨puts_next hk h.puts hm, (out_put L ho (put_some hm.2.2)).symm, by omega, ?_⟩
  rw [e, h.twice, seen_again hm.2.2, Bool.eq_iff_iff]
  simp only [Bool.or_eq_true, decide_eq_true_eq]
  omega
theorem Beside.end_ {l : List Rfr} {O : List Mpr} {tw : Bool} {L : Nat → List Ext} {t : Int} (hl : ¬ 4096 < l.length) (h : Beside l l.length O tw L t) :
    backE l = (if tw = true then 6 else if 9 < O.length then 3 else 0) ∧ backL l = if backE l = 0 then O else [] := by
  have hp := h.puts
  rw [List.take_length] at hp
  obtain ⟨e1, e2⟩ := back_some hl hp
  rw [h.out]
  refine ⟨?_, e2⟩
  rw [e1, h.twice]
  by_cases c : 0 < t - sizes L 256
  · rw [if_pos c, if_pos (decide_eq_true c)]
  · rw [if_neg c, decide_eq_false c, if_neg Bool.false_ne_true]
end Rf
end Go.Proofs.Ytinlgoljaiolnaa
