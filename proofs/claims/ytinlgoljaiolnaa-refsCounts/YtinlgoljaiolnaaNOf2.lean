/-
  The laws' own copies of maps, for the program. Conditions: those that each contract names.
-/
import Derived.Test.YtinlgoljaiolnaaNOf
import Derived.Test.YtinlgoljaiolnaaXD
namespace Go.Proofs.Ytinlgoljaiolnaa
open Go.RowKit
set_option linter.unusedVariables false

theorem map_new (w : World) (O : Int) (v : Value) (t : TypeId) : ∀ j u, ([.int .i64 O, v] : List Value)[j]? = some u → (w.alloc (.cells #[.int .i64 O, v] t)).cell? ((⟨w.heap.size, 0, none⟩ : Addr).add j) = some u := by
  intro j u hj
  rw [Addr.add_lit, Nat.zero_add]
  match j, hj with
  | 0, hj => simp at hj; subst hj; simp
  | 1, hj => simp at hj; subst hj; simp

theorem map_rd {w : World} {P : Nat → Prop} {O : Int} {v : Value} {X : List Ext} (hO : In64 O) (h : rExts.rd w P [v] X) : rMp.rd w P [.int .i64 O, v] (O, X) := ⟨[.int .i64 O], [v], rfl, ⟨rfl, hO⟩, h⟩

theorem cell_grown {w w' : World} {r : Option Nat} (g : w.grownBy w' r) {p : Addr} (hp : p.block < w.heap.size) (hr : some p.block ≠ r) : w'.cell? p = w.cell? p := World.cell?_of_block (g.block p.block hp hr)

set_option maxRecDepth 20000 in
set_option maxHeartbeats 4000000 in
theorem of9_u (w : World) (P : Nat → Prop) (hP : ∀ b, P b → b < w.heap.size) (a : Option Addr) (n c : Nat) (M : List Mpr) (hM : rMps.rd w P [.slice a n c] M) :
    Calls Try.prog 9 #[.slice a n c] w fun e w' => ∃ a' c', e = .returned (.slice a' n c') ∧ rMps.rd w' (fun b => w.heap.size ≤ b) [.slice a' n c'] M ∧ Below w.heap.size w w' := by
  obtain ⟨hl, hnc, hnil, hb⟩ := rList_len hM
  have HL : Hid (M.length = n) := hl
  have HM : Hid (rMps.rd w P [.slice a n c] M) := hM
  have hb32 : n * 32 ≤ 140737488351232 := hb
  have hn : n ≤ 4398046510976 := by omega
  have HP : Hid (∀ b, P b → b < w.heap.size) := hP
  clear hl hnc hnil hb hM hP
  go_enter Try.func9, Try.ntmps9
  go_wp2
  go_loopw [3, 4] (fun o i wr => ∃ k : Nat, k ≤ n ∧ i = .int .i64 k ∧ Hid (Owns rMp 77 wr w.heap.size o (M.take k)) ∧ Below w.heap.size w wr) (fun _ i _ => n - (intOf i).toNat)
  case atStart => exact ⟨0, Nat.zero_le _, rfl, Owns.nil _ _ _ _, Below.refl _ _⟩
  case round =>
    obtain ⟨k, hk, rfl, HO, bel⟩ := hrel
    have BW : Hid (Below w.heap.size w wr) := bel
    by_cases hkn : k < n
    · have hkM : k < M.length := by rw [HL.out]; exact hkn
      obtain ⟨g, off, rfl, hgP, hgl', hat⟩ := rMps_at HM.out (by omega)
      obtain ⟨a1, n1, k1, c0', c1', hrx, hi64⟩ := hat k hkM
      have HTk : Hid (M.take (k + 1) = M.take k ++ [(M[k].1, M[k].2)]) := List.take_succ_eq_append_getElem hkM
      have c0 := (bel.cell (p := ⟨g, off + k * 2, none⟩) hgl').trans c0'
      have c1 := (bel.cell (p := ⟨g, off + k * 2 + 1, none⟩) hgl').trans c1'
      have hgl : g < wr.heap.size := Nat.lt_of_lt_of_le hgl' bel.size
      have HXd : Hid (rExts.rd wr.drew P [.slice a1 n1 k1] M[k].2) := rExts.keep (Rep.below hrx bel) (fun _ _ _ => rfl)
      have HXn : Hid (M[k].2.length ≤ 5864062014634) := by
        obtain ⟨h1, -, -, h4⟩ := rList_len hrx
        have h4 : n1 * 24 ≤ 140737488351232 := h4
        unfold Hid
        omega
      have HOi : Hid (In64 M[k].1) := hi64
      have HZr : Hid (w.heap.size ≤ wr.heap.size) := bel.size
      have HGo : Hid (some g ≠ u3.ownBlock) := fun e => by have := (HO.out.row g e.symm).1; omega
      have hkz : (k : Int) < (n : Int) := by omega
      generalize hGO : M[k].1 = O at *
      generalize hGX : M[k].2 = X at *
      clear hGO hGX hat hrx hi64 bel c0' c1' hgP hgl'
      go_wp2_with fail
      refine wp_region_held_drew (S := (fun w' : World => w'.cell? ⟨g, off + k * 2, none⟩ = some (.int .i64 O) ∧ w'.cell? ⟨g, off + k * 2 + 1, none⟩ = some (.slice a1 n1 k1))) (by kernel_rfl) (⟨c0, c1⟩) (fun hHeld => ?_)
      refine wpAnyH_takeL (i := 0) (v := ?_) rfl rfl (by kernel_rfl) (by kernel_rfl) (by kernel_rfl) (fun _ _ _ h => h) (Or.inl ⟨by rfl, ?_⟩) (by assumption) ?_
      rotate_left
      · intro w hSw
        try dsimp only at hSw
        go_simp
        all_goals with_reducible rfl
      simp only [List.set_cons_zero, List.set_cons_succ]
      refine wpAnyH_takeL (i := 1) (v := ?_) rfl rfl (by kernel_rfl) (by kernel_rfl) (by kernel_rfl) (fun _ _ _ h => h) (Or.inl ⟨by rfl, ?_⟩) (by assumption) ?_
      rotate_left
      · intro w hSw
        try dsimp only at hSw
        go_simp
        all_goals with_reducible rfl
      simp only [List.set_cons_zero, List.set_cons_succ]
      refine wpAnyH_takeL (i := 2) (v := ?_) rfl rfl (by kernel_rfl) (by kernel_rfl) (by kernel_rfl) (fun _ _ _ h => h) (Or.inl ⟨by rfl, ?_⟩) (by assumption) ?_
      rotate_left
      · intro w hSw
        try dsimp only at hSw
        go_simp
        all_goals with_reducible rfl
      simp only [List.set_cons_zero, List.set_cons_succ]
      refine wpAnyH_takeL (i := 3) (v := ?_) rfl rfl (by kernel_rfl) (by kernel_rfl) (by kernel_rfl) (fun _ _ _ h => h) (Or.inl ⟨by rfl, ?_⟩) (by assumption) ?_
      rotate_left
      · intro w hSw
        try dsimp only at hSw
        go_simp
        all_goals with_reducible rfl
      simp only [List.set_cons_zero, List.set_cons_succ]
      refine wpAnyH_takeL (i := 4) (v := ?_) rfl rfl (by kernel_rfl) (by kernel_rfl) (by kernel_rfl) (fun _ _ _ h => h) (Or.inl ⟨by rfl, ?_⟩) (by assumption) ?_
      rotate_left
      · intro w hSw
        try dsimp only at hSw
        go_simp
        all_goals with_reducible rfl
      simp only [List.set_cons_zero, List.set_cons_succ]
      refine wpAnyH_takeL (i := 5) (v := ?_) rfl rfl (by kernel_rfl) (by kernel_rfl) (by kernel_rfl) (fun _ _ _ h => h) (Or.inl ⟨by rfl, ?_⟩) (by assumption) ?_
      rotate_left
      · intro w hSw
        try dsimp only at hSw
        go_simp
        all_goals with_reducible rfl
      simp only [List.set_cons_zero, List.set_cons_succ]
      refine wpAnyH_takeL (i := 6) (v := ?_) rfl rfl (by kernel_rfl) (by kernel_rfl) (by kernel_rfl) (fun _ _ _ h => h) (Or.inl ⟨by rfl, ?_⟩) (by assumption) ?_
      rotate_left
      · intro w hSw
        try dsimp only at hSw
        go_simp
        all_goals with_reducible rfl
      simp only [List.set_cons_zero, List.set_cons_succ]
      refine wpAnyH_takeL (i := 7) (v := ?_) rfl rfl (by kernel_rfl) (by kernel_rfl) (by kernel_rfl) (fun _ _ _ h => h) (Or.inl ⟨by rfl, ?_⟩) (by assumption) ?_
      rotate_left
      · intro w hSw
        try dsimp only at hSw
        go_simp
        all_goals with_reducible rfl
      simp only [List.set_cons_zero, List.set_cons_succ]
      refine wpAnyH_takeL (i := 8) (v := ?_) rfl rfl (by kernel_rfl) (by kernel_rfl) (by kernel_rfl) (fun _ _ _ h => h) (Or.inl ⟨by rfl, ?_⟩) (by assumption) ?_
      rotate_left
      · intro w hSw
        try dsimp only at hSw
        go_simp
        all_goals with_reducible rfl
      simp only [List.set_cons_zero, List.set_cons_succ]
      refine wpAnyH_takeL (i := 9) (v := ?_) rfl rfl (by kernel_rfl) (by kernel_rfl) (by kernel_rfl) (fun _ _ _ h => h) (Or.inl ⟨by rfl, ?_⟩) (by assumption) ?_
      rotate_left
      · intro w hSw
        try dsimp only at hSw
        go_simp
        all_goals with_reducible rfl
      simp only [List.set_cons_zero, List.set_cons_succ]
      refine wpAnyH_takeL (i := 10) (v := ?_) rfl rfl (by kernel_rfl) (by kernel_rfl) (by kernel_rfl) (fun _ _ _ h => h) (Or.inl ⟨by rfl, ?_⟩) (by assumption) ?_
      rotate_left
      · intro w hSw
        try dsimp only at hSw
        go_simp
        all_goals with_reducible rfl
      simp only [List.set_cons_zero, List.set_cons_succ]
      refine wpAnyH_ready (rs := [11]) (by kernel_rfl) (by simp) ?_
      refine AllReadyH.cons rfl (fun K hK => ?_) ?_
      · go_simp
        go_at_call 30
        refine Calls.mono (copyExts_u _ P _ _ _ X HXd.out) ?_
        rintro e w5 ⟨b5, rfl, ho5, bd5⟩
        obtain ⟨a5, c5, rfl, -, -⟩ := ho5.slice
        have B5 : Hid (Below wr.heap.size wr w5) := below_drew_pre bd5
        have HR5 : Hid (rExts.rd w5 (fun b => wr.heap.size ≤ b) [.slice a5 X.length c5] X) := ho5.rd HXn.out
        have S1 := And.intro ((B5.out.cell (p := ⟨g, off + k * 2, none⟩) hgl).trans c0) ((B5.out.cell (p := ⟨g, off + k * 2 + 1, none⟩) hgl).trans c1)
        clear ho5 bd5
        go_simp
        refine hK.out _ _ ?_ (fun hHeld => ?_)
        · try dsimp only
          first | exact S3 | exact S2 | exact S1
        clear hK K
        refine wpAnyH_takeL (i := 12) (v := ?_) rfl rfl (by kernel_rfl) (by kernel_rfl) (by kernel_rfl) (fun _ _ _ h => h) (Or.inl ⟨by rfl, ?_⟩) (by assumption) ?_
        rotate_left
        · intro w hSw
          try dsimp only at hSw
          go_simp
          all_goals with_reducible rfl
        simp only [List.set_cons_zero, List.set_cons_succ]
        refine wpAnyH_ready (rs := [13]) (by kernel_rfl) (by simp) ?_
        refine AllReadyH.cons rfl (fun K hK => ?_) ?_
        · go_simp
          have BA : Hid (Below w5.heap.size w5 (w5.alloc (.cells #[.int .i64 O, .slice a5 X.length c5] 77))) := (Below.refl _ _).alloc (Nat.le_refl _) _
          have S2 := And.intro ((BA.out.cell (p := ⟨g, off + k * 2, none⟩) (Nat.lt_of_lt_of_le hgl B5.out.size)).trans S1.1) ((BA.out.cell (p := ⟨g, off + k * 2 + 1, none⟩) (Nat.lt_of_lt_of_le hgl B5.out.size)).trans S1.2)
          refine hK.out _ _ ?_ (fun hHeld => ?_)
          · try dsimp only
            first | exact S3 | exact S2 | exact S1
          clear hK K
          refine wpAnyH_ready (rs := [14]) (by kernel_rfl) (by simp) ?_
          refine AllReadyH.cons rfl (fun K hK => ?_) ?_
          · refine step_append_rep elem_map9 rfl (.tmp 11) (.tmp 24) rfl w.heap.size u3 (M.take k) (by simp [Go.Act.eval]) ((HO.out.below B5.out).below BA.out) ⟨w5.heap.size, 0, none⟩ [.int .i64 O, .slice a5 X.length c5] (O, X) (by simp [Go.Act.eval]) (map_new w5 O _ _) ?_ ?_ ?_ ?_ ?_
            · exact rMp.weaken (map_rd HOi.out (Rep.below HR5.out BA.out)) (fun b hb _ => ⟨Nat.le_trans HZr.out hb, fun e => by have := (HO.out.row b e).2; have hb : wr.heap.size ≤ b := hb; omega⟩)
            · rw [List.length_take]; show _ * 32 ≤ _; omega
            · rw [List.length_take]; unfold maxLen; omega
            · exact Nat.le_trans HZr.out (Nat.le_trans B5.out.size BA.out.size)
            intro b6 d6 w6 ho6 g6
            have HO6 : Hid (Owns rMp 77 w6 w.heap.size (.slice b6 (min k M.length + 1) d6) (M.take (k + 1))) := by unfold Hid; rw [HTk.out, ← List.length_take]; exact ho6
            have B6 : Hid (Below w.heap.size w w6) := ((on (on BW.out B5.out) BA.out)).grown g6 (Nat.le_trans HZr.out (Nat.le_trans B5.out.size BA.out.size)) (fun j hj => (HO.out.row j hj).1)
            have S3 := And.intro ((cell_grown g6 (Nat.lt_of_lt_of_le (Nat.lt_of_lt_of_le hgl B5.out.size) BA.out.size) HGo.out (p := ⟨g, off + k * 2, none⟩)).trans S2.1) ((cell_grown g6 (Nat.lt_of_lt_of_le (Nat.lt_of_lt_of_le hgl B5.out.size) BA.out.size) HGo.out (p := ⟨g, off + k * 2 + 1, none⟩)).trans S2.2)
            clear ho6 g6
            try go_simp
            refine hK.out _ _ ?_ (fun hHeld => ?_)
            · try dsimp only
              first | exact S3 | exact S2 | exact S1
            clear hK K
            refine wpAnyH_takeL (i := 15) (v := ?_) rfl rfl (by kernel_rfl) (by kernel_rfl) (by kernel_rfl) (fun _ _ _ h => h) (Or.inl ⟨by rfl, ?_⟩) (by assumption) ?_
            rotate_left
            · intro w hSw
              try dsimp only at hSw
              go_simp
              all_goals with_reducible rfl
            simp only [List.set_cons_zero, List.set_cons_succ]
            refine wpAnyH_done (by kernel_rfl) ?_ _
            go_wp2
            go_roundw
            case rel => exact ⟨k + 1, by omega, by go_num, HO6, B6.out⟩
            case measure => simp [intOf]; omega
          exact AllReadyH.nil
        exact AllReadyH.nil
      exact AllReadyH.nil
    · obtain rfl : k = n := by omega
      have HOa : Hid (Owns rMp 77 wr w.heap.size u3 M) := by
        have h := HO.out
        rw [List.take_of_length_le (by rw [HL.out]; exact Nat.le_refl _)] at h
        exact h
      obtain ⟨a9, c9, hv9, hr9⟩ := Owns.rd (hs := by decide) HOa.out (by rw [HL.out]; show k * 32 ≤ _; omega)
      rw [HL.out] at hv9 hr9
      subst hv9
      have HR9 : Hid (rMps.rd wr (fun b => w.heap.size ≤ b) [.slice a9 k c9] M) := hr9
      clear hr9
      go_wp2
      go_ret
      exact ⟨_, _, rfl, HR9.out, BW.out⟩

end Go.Proofs.Ytinlgoljaiolnaa
