/-
  The landed free: what spans have of some sectors, laid by a function that is handed in; the state of what is written. Conditions: those that each contract names.
-/
import Derived.Test.YtbbjbajdoekheaaYK
namespace Go.Proofs.Ytbbjbajdoekheaa
open Go.RowKit
set_option linter.unusedVariables false

theorem Fr.within_next {l : List Spn} {j : Nat} (hj : j < l.length) (f e : Int) : Fr.within (l.take (j + 1)) f e = Fr.within (l.take j) f e ++ [(max l[j].1 f, min (l[j].1 + l[j].2) e)] := by
  unfold Fr.within
  rw [List.take_succ_eq_append_getElem hj, List.map_append]
  rfl

set_option maxHeartbeats 4000000 in
theorem layWithin_u {f : Nat} {bs : Array Value} {J : List Fr.Pc → (Nat → Prop) → World → Prop} (L : Lays f bs J) (w : World) (P : Nat → Prop) (a : Option Addr) (n c : Nat) (l : List Spn) (hL : rSpns.rd w P [.slice a n c] l) (hM : ∀ y ∈ l, Fr.Mid y) (hn : n ≤ 1024)
    (ps : List Fr.Pc) (hps : ps.length ≤ 10000) (S : Nat → Prop) (hJ : J ps S w) (hPS : ∀ b, P b → b < w.heap.size → ¬ S b) (v en : Int) (hv0 : 0 ≤ v) (hv1 : v ≤ 65536) (he0 : 0 ≤ en) (he1 : en ≤ 65536) :
    Calls Try.prog 42 #[.slice a n c, .int .i64 v, .int .i64 en, .func (.func f) #[] bs] w fun e w' => e = .returned (.tuple #[]) ∧ ∃ S', J (ps ++ Fr.within l v en) S' w' ∧ Turns S S' w w' := by
  obtain ⟨hl, hnc, hnil, hb⟩ := rList_len hL
  have HL : Hid (l.length = n) := hl
  have HR : Hid _ := hL
  have HM : Hid _ := hM
  have HY : Hid (Lays f bs J) := L
  have eg := L.enters
  have HPS : Hid _ := hPS
  have HJ : Hid (J ps S w) := hJ
  have hmx := max_fact 3
  have hmn := min_fact 3
  clear hl hL hM hJ hPS L hb hnil hnc
  go_enter Try.func42, Try.ntmps42
  go_wp2
  go_loopw [12] (fun i wr => ∃ j : Nat, j ≤ n ∧ i = .int .i64 j ∧ Hid (∃ S', J (ps ++ Fr.within (l.take j) v en) S' wr ∧ Turns S S' w wr)) (fun i _ => n - (intOf i).toNat)
  case atStart => exact ⟨0, Nat.zero_le _, rfl, S, by rw [List.take_zero, show Fr.within [] v en = [] from rfl, List.append_nil]; exact HJ.out, Turns.of (Below.refl _ _)⟩
  case round =>
    obtain ⟨j, hj, rfl, HI⟩ := hrel
    obtain ⟨S1, hJ1, hT1⟩ := HI.out
    have HJ1 : Hid (J (ps ++ Fr.within (l.take j) v en) S1 wr) := hJ1
    have HT1 : Hid (Turns S S1 w wr) := hT1
    clear hJ1 hT1 HI
    by_cases hlt : j < n
    · have hjl : j < l.length := by rw [HL.out]; exact hlt
      obtain ⟨g, off, rfl, hPg, hgl, hat⟩ := rSpns_at HR.out (by omega)
      obtain ⟨c0, c1, -⟩ := hat j hjl
      have hNS : ¬ S g := HPS.out g hPg hgl
      have e0 : wr.cell? ⟨g, off + j * 2, none⟩ = some (.int .i64 l[j].1) := (HT1.out.cell (p := ⟨g, off + j * 2, none⟩) hgl hNS).trans c0
      have e1 : wr.cell? ⟨g, off + j * 2 + 1, none⟩ = some (.int .i64 l[j].2) := (HT1.out.cell (p := ⟨g, off + j * 2 + 1, none⟩) hgl hNS).trans c1
      have HNx : Hid _ := Fr.within_next hjl v en
      have hm := HM.out l[j] (List.getElem_mem hjl)
      obtain ⟨X, hX⟩ : ∃ X, X = l[j] := ⟨_, rfl⟩
      rw [← hX] at e0 e1 HNx hm
      clear hX c0 c1 hat hPg hgl hNS
      unfold Fr.Mid at hm
      obtain ⟨m1, m2, m3⟩ := hm
      have HXE : Hid (In64 (X.1 + X.2)) := by unfold Hid In64; omega
      have HSec : Hid (Fr.Sec (max X.1 v, min (X.1 + X.2) en)) := by unfold Hid Fr.Sec; simp only; omega
      have HLen : Hid ((ps ++ Fr.within (l.take j) v en).length ≤ 100000) := by
        unfold Hid
        rw [List.length_append, Fr.within_len, List.length_take]
        omega
      obtain ⟨w4, hw4, V4, b4, z4⟩ := boxedRow wr 26 [.int .i64 X.1, .int .i64 X.2]
      obtain ⟨d0, d1⟩ := V4.two
      have B4 : Hid (Below wr.heap.size wr w4) := b4
      have HV4 : Hid (Row w4.drew wr.heap.size 26 [.int .i64 X.1, .int .i64 X.2]) := V4.keep rfl
      have HN1 : Hid (¬ S1 wr.heap.size) := fun h => by have := HY.out.low HJ1.out _ h; omega
      have hjz : (j : Int) < (n : Int) := by omega
      clear V4 b4 z4
      go_wp2_with fail
      refine wp_region_held_drew (S := (fun w' : World => w'.cell? ⟨wr.heap.size, 0, none⟩ = some (.int .i64 X.1) ∧ w'.cell? ⟨wr.heap.size, 1, none⟩ = some (.int .i64 X.2))) (by kernel_rfl) (HV4.out.two) (fun hHeld => ?_)
      refine wpAnyH_takeL (i := 0) (v := ?_) rfl rfl (by kernel_rfl) (by kernel_rfl) (by kernel_rfl) (fun _ _ _ h => h) (Or.inl ⟨by rfl, ?_⟩) (by assumption) ?_
      rotate_left
      · intro w hSw
        try dsimp only at hSw
        go_simp
        all_goals with_reducible rfl
      simp only [List.set_cons_zero, List.set_cons_succ]
      refine wpAnyH_takeL (i := 1) (v := ?_) rfl rfl (by kernel_rfl) (by kernel_rfl) (by kernel_rfl) (fun _ _ _ h => h) (Or.inl ⟨by rfl, ?_⟩) (by assumption) ?_
      rotate_left
      · intro w hSw
        try dsimp only at hSw
        go_simp
        all_goals with_reducible rfl
      simp only [List.set_cons_zero, List.set_cons_succ]
      refine wpAnyH_takeL (i := 2) (v := ?_) rfl rfl (by kernel_rfl) (by kernel_rfl) (by kernel_rfl) (fun _ _ _ h => h) (Or.inl ⟨by rfl, ?_⟩) (by assumption) ?_
      rotate_left
      · intro w hSw
        try dsimp only at hSw
        go_simp
        all_goals with_reducible rfl
      simp only [List.set_cons_zero, List.set_cons_succ]
      refine wpAnyH_takeL (i := 3) (v := ?_) rfl rfl (by kernel_rfl) (by kernel_rfl) (by kernel_rfl) (fun _ _ _ h => h) (Or.inl ⟨by rfl, ?_⟩) (by assumption) ?_
      rotate_left
      · intro w hSw
        try dsimp only at hSw
        go_simp
        all_goals with_reducible rfl
      simp only [List.set_cons_zero, List.set_cons_succ]
      refine wpAnyH_takeL (i := 4) (v := ?_) rfl rfl (by kernel_rfl) (by kernel_rfl) (by kernel_rfl) (fun _ _ _ h => h) (Or.inl ⟨by rfl, ?_⟩) (by assumption) ?_
      rotate_left
      · intro w hSw
        try dsimp only at hSw
        go_simp
        all_goals with_reducible rfl
      simp only [List.set_cons_zero, List.set_cons_succ]
      refine wpAnyH_takeL (i := 5) (v := ?_) rfl rfl (by kernel_rfl) (by kernel_rfl) (by kernel_rfl) (fun _ _ _ h => h) (Or.inl ⟨by rfl, ?_⟩) (by assumption) ?_
      rotate_left
      · intro w hSw
        try dsimp only at hSw
        go_simp
        all_goals with_reducible rfl
      simp only [List.set_cons_zero, List.set_cons_succ]
      refine wpAnyH_takeL (i := 7) (v := ?_) rfl rfl (by kernel_rfl) (by kernel_rfl) (by kernel_rfl) (fun _ _ _ h => h) (Or.inl ⟨by rfl, ?_⟩) (by assumption) ?_
      rotate_left
      · intro w hSw
        try dsimp only at hSw
        go_simp
        all_goals with_reducible rfl
      simp only [List.set_cons_zero, List.set_cons_succ]
      refine wpAnyH_ready (rs := [6]) (by kernel_rfl) (by simp) ?_
      refine AllReadyH.cons rfl (fun K hK => ?_) ?_
      · go_simp
        go_at_call 36
        refine Calls.mono (spanEnd_u _ X HXE.out) ?_
        rintro e w5 ⟨rfl, hb5⟩
        have HB5 : Hid (Below wr.heap.size wr w5) := on B4.out (below_drew_pre0 hb5)
        have HV5 : Hid (Row w5 wr.heap.size 26 [.int .i64 X.1, .int .i64 X.2]) := HV4.out.below hb5
        have SS := HV5.out.two
        clear hb5
        go_simp
        refine hK.out _ _ ?_ (fun hHeld => ?_)
        · try dsimp only
          exact SS
        clear hK K
        refine wpAnyH_takeL (i := 8) (v := ?_) rfl rfl (by kernel_rfl) (by kernel_rfl) (by kernel_rfl) (fun _ _ _ h => h) (Or.inl ⟨by rfl, ?_⟩) (by assumption) ?_
        rotate_left
        · intro w hSw
          try dsimp only at hSw
          go_simp
          all_goals with_reducible rfl
        simp only [List.set_cons_zero, List.set_cons_succ]
        refine wpAnyH_ready (rs := [9]) (by kernel_rfl) (by simp) ?_
        refine AllReadyH.cons rfl (fun K hK => ?_) ?_
        · go_simp
          go_at_fn f
          refine Calls.mono (HY.out.call (x := (max X.1 v, min (X.1 + X.2) en)) (HY.out.below HJ1.out HB5.out) HLen.out HSec.out) ?_
          rintro e w6 ⟨rfl, S2, hj2, ht2⟩
          have HJ6 : Hid (J (ps ++ Fr.within (l.take (j + 1)) v en) S2 w6) := by unfold Hid; rw [HNx.out, ← List.append_assoc]; exact hj2
          have HT6 : Hid (Turns S S2 w w6) := (HT1.out.trans (Turns.of HB5.out)).trans ht2
          have SS := (ht2.row HV5.out HN1.out).two
          clear hj2 ht2
          go_simp
          refine hK.out _ _ ?_ (fun hHeld => ?_)
          · try dsimp only
            exact SS
          clear hK K
          refine wpAnyH_done (by kernel_rfl) ?_ _
          clear hHeld SS
          go_wp2
          go_roundw
          case rel => exact ⟨j + 1, by omega, by go_num, S2, HJ6.out, HT6.out⟩
          case measure => simp [intOf]; omega
        exact AllReadyH.nil
      exact AllReadyH.nil
    · have hjn : j = n := by omega
      have HE : Hid (Fr.within (l.take j) v en = Fr.within l v en) := by unfold Hid; rw [hjn, List.take_of_length_le (by rw [HL.out]; exact Nat.le_refl _)]
      have hjz : ¬ (j : Int) < (n : Int) := by omega
      go_wp2
      go_end0
      exact ⟨rfl, S1, by rw [← HE.out]; exact HJ1.out, HT1.out⟩

end Go.Proofs.Ytbbjbajdoekheaa
