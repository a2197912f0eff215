/-
  Facts that the proof rests on, part 12. Conditions: those that each of them names.
-/
import Derived.Test.YtinlgoljaiolnaaBK04
import Derived.Test.YtinlgoljaiolnaaBK08
import Derived.Test.YtinlgoljaiolnaaBK09
import Derived.Test.YtinlgoljaiolnaaBK10
namespace Go.Proofs.Ytinlgoljaiolnaa
open Go.RowKit
set_option linter.unusedVariables false
theorem info_exts9 : (Try.prog.info? 70).map (fun i => (i.zero, i.size, i.bytes)) = some (some (.slice none 0 0), 1, 24) := by kernel_rfl
structure Tabs (w : World) (g : Nat) (L : Nat → List Ext) : Prop where
  lists : ∃ vs : List Value, Row w g 70 vs ∧ vs.length = 256 ∧ ∀ o, o < 256 → ∃ a n c, vs[o]? = some (.slice a n c) ∧ rExts.rd w (fun b => g < b) [.slice a n c] (L o)
theorem Tabs.lt {w : World} {g : Nat} {L : Nat → List Ext} (h : Tabs w g L) : g < w.heap.size := by
  obtain ⟨vs, V, -, -⟩ := h.lists
  exact V.lt
theorem Tabs.below {w w' : World} {g : Nat} {L : Nat → List Ext} (h : Tabs w g L) (b : Below w.heap.size w w') : Tabs w' g L := by
  obtain ⟨vs, V, hl, hr⟩ := h.lists
  refine ⟨vs, V.below b, hl, fun o ho => ?_⟩
  obtain ⟨a, n, c, k1, k2⟩ := hr o ho
  exact ⟨a, n, c, k1, Rep.below k2 b⟩
theorem Tabs.at {w : World} {g : Nat} {L : Nat → List Ext} (h : Tabs w g L) {o : Nat} (ho : o < 256) : ∃ a n c, w.cell? ⟨g, o, none⟩ = some (.slice a n c) ∧ w.frozen? ⟨g, o, none⟩ = false ∧ rExts.rd w (fun b => g < b) [.slice a n c] (L o) := by
  obtain ⟨vs, V, hl, hr⟩ := h.lists
  obtain ⟨a, n, c, k1, k2⟩ := hr o ho
  exact ⟨a, n, c, V.cell k1, V.frozen o, k2⟩
theorem Tabs.set {w : World} {g : Nat} {L : Nat → List Ext} (h : Tabs w g L) {o : Nat} (ho : o < 256) {a : Option Addr} {n c : Nat} {X : List Ext} (hX : rExts.rd w (fun b => g < b) [.slice a n c] X) : Tabs (w.setCell ⟨g, o, none⟩ (.slice a n c)) g (Rf.setT L o X) := by
  obtain ⟨vs, V, hl, hr⟩ := h.lists
  have hk : ∀ b, g < b → b < w.heap.size → (w.setCell ⟨g, o, none⟩ (.slice a n c)).heap[b]? = w.heap[b]? := fun b hb _ => Below.heap_setCell _ _ _ _ (by show b ≠ g; omega)
  refine ⟨vs.set o (.slice a n c), V.set o _, by rw [List.length_set]; exact hl, fun q hq => ?_⟩
  by_cases e : q = o
  · subst e
    refine ⟨a, n, c, by rw [List.getElem?_set_self (by omega)], ?_⟩
    unfold Rf.setT
    rw [if_pos rfl]
    exact rExts.keep hX hk
  · obtain ⟨a', n', c', k1, k2⟩ := hr q hq
    refine ⟨a', n', c', by rw [List.getElem?_set_ne (fun e' => e e'.symm)]; exact k1, ?_⟩
    unfold Rf.setT
    rw [if_neg e]
    exact rExts.keep k2 hk
theorem Tabs.start {w : World} {g : Nat} (h : Row w g 70 (List.replicate 256 (.slice none 0 0))) : Tabs w g (fun _ => []) := by
  refine ⟨_, h, List.length_replicate, fun o ho => ⟨none, 0, 0, by rw [List.getElem?_replicate, if_pos ho], ?_⟩⟩
  exact ⟨none, 0, 0, rfl, rfl, Nat.le_refl _, (fun _ => rfl), by decide, fun x hx => by cases hx⟩
set_option maxRecDepth 20000 in
set_option maxHeartbeats 8000000 in
theorem putEach_u (w : World) (P : Nat → Prop) (a : Option Addr) (n c : Nat) (l : List Rfr) (hL : rRfrs.rd w P [.slice a n c] l) (hn : n ≤ 4096) :
    Calls Try.prog 49 #[.slice a n c] w fun e w' => (Rf.putsR l = none → e = .returned (.tuple #[.slice none 0 0, .int .i64 0, .int .i64 4])) ∧ (∀ L t, Rf.putsR l = some (L, t) → ∃ g, e = .returned (.tuple #[.slice (some ⟨g, 0, none⟩) 256 256, .int .i64 t, .int .i64 0]) ∧ w.heap.size ≤ g ∧ Tabs w' g L) ∧ Below w.heap.size w w' := by
  have HL : Hid (l.length = n) := (rList_len hL).1
  have HR : Hid (rRfrs.rd w P [.slice a n c] l) := hL
  clear hL
  go_enter Try.func49, Try.ntmps49
  go_wp2_with (at_make; refine make_row _ rfl _ _ 98 rfl 70 (.slice none 0 0) 24 Try.underlying98 info_exts9 rfl 256 _ rfl rfl rfl (by decide) (by decide) ?_; intro w1 HV1 b1 z1)
  have HT1 : Hid (Tabs w1 w.heap.size (fun _ => [])) := Tabs.start HV1.out
  have B1 : Hid (Below w.heap.size w w1) := b1
  clear HV1 b1 z1
  generalize hg0 : w.heap.size = g0 at *
  go_loopw [6, 14] (fun t i wr => ∃ (k : Nat) (L : Nat → List Ext) (tt : Int), k ≤ n ∧ i = .int .i64 k ∧ t = .int .i64 tt ∧ Hid (Rf.putsR (l.take k) = some (L, tt)) ∧ Hid (Tabs wr g0 L) ∧ Hid (Below g0 w wr)) (fun _ i _ => n - (intOf i).toNat)
  case atStart => exact ⟨0, _, 0, Nat.zero_le _, rfl, rfl, rfl, HT1, B1⟩
  case round =>
    obtain ⟨k, L, tt, hk, rfl, rfl, HP, HT, HB⟩ := hrel
    by_cases hlt : k < n
    · have hkl : k < l.length := by rw [HL.out]; exact hlt
      have HRr : Hid (rRfrs.rd wr P [.slice a n c] l) := Rep.below HR.out (by rw [hg0]; exact HB.out)
      obtain ⟨h, hoff, rfl, -, hhl, hat⟩ := rRfrs_at HRr.out (by omega)
      obtain ⟨c0, c1, c2, c3, hin⟩ := hat k hkl
      have hok := Rf.puts_ok k (by omega) HP.out
      have HNx : Hid (Rf.MayR l[k] L → Rf.putsR (l.take (k + 1)) = some (Rf.setT L (Rf.ownN l[k]) (Ex.putL (L (Rf.ownN l[k])) (Rf.extOf l[k])), tt + l[k].2.1)) := fun hm => Rf.puts_next hkl HP.out hm
      have HSt : Hid (¬ Rf.MayR l[k] L → Rf.putsR l = none) := fun hm => Rf.puts_stop hkl HP.out hm
      obtain ⟨r, hr⟩ : ∃ r, r = l[k] := ⟨_, rfl⟩
      rw [← hr] at c0 c1 c2 c3 hin HNx HSt
      have HIn : Hid (In4 r) := hin
      have HTO : Hid (Rf.TabOk L tt k) := hok
      have hlow := hok.low
      have hhigh := hok.high
      have hkz : (k : Int) < (n : Int) := by omega
      clear hr hat hin hok HRr hhl
      by_cases hO : 0 ≤ r.2.2.1 ∧ r.2.2.1 ≤ 255
      · obtain ⟨o, ho⟩ : ∃ o : Nat, r.2.2.1 = (o : Int) := ⟨r.2.2.1.toNat, by omega⟩
        have hOd : decide (0 ≤ (o : Int) ∧ (o : Int) ≤ 255) = true := decide_eq_true (by omega)
        have ho2 : o < 256 := by omega
        have HOn : Hid (Rf.ownN r = o) := by unfold Hid Rf.ownN; omega
        have HO' : Hid (0 ≤ r.2.2.1 ∧ r.2.2.1 ≤ 255) := hO
        rw [ho] at c2
        clear ho hO
        obtain ⟨w6, hw6, V6, b6, z6⟩ := boxedRow wr 63 [.int .i64 r.1, .int .i64 r.2.1, .int .i64 (o : Int), .int .i64 r.2.2.2]
        obtain ⟨d0, d1, d2, d3⟩ := V6.four9
        have HT6 : Hid (Tabs w6 g0 L) := HT.out.below b6
        have HV6 : Hid (Row w6 wr.heap.size 63 [.int .i64 r.1, .int .i64 r.2.1, .int .i64 (o : Int), .int .i64 r.2.2.2]) := V6
        have hgw : g0 < wr.heap.size := HT.out.lt
        have HG6 : Hid (g0 < w6.heap.size) := HT6.out.lt
        have B6 : Hid (Below g0 w w6) := HB.out.trans (b6.mono (Nat.le_of_lt hgw))
        clear V6 b6 z6 HT
        obtain ⟨a1, n1, k1, t0, tf, hrd⟩ := HT6.out.at ho2
        have HLd : Hid (rExts.rd w6.drew (fun b => g0 < b) [.slice a1 n1 k1] (L o)) := rExts.keep hrd (fun _ _ _ => rfl)
        have HE3 : Hid (In3 (Rf.extOf r)) := ⟨HIn.out.2.2.2, HIn.out.1, HIn.out.2.1⟩
        have hoz : (o : Int) < 256 := by omega
        have HMay : Hid (Rf.MayR r L ↔ Ex.putE (L o) (Rf.extOf r) = 0) := by
          unfold Hid Rf.MayR
          rw [HOn.out]
          exact ⟨fun h => h.2.2, fun h => ⟨HO'.out.1, HO'.out.2, h⟩⟩
        clear hrd
        go_wp2_with (go_at_call 45; refine (isOwner_u _ _ true hOd).mono ?_; rintro e w99 ⟨rfl, rfl⟩)
        go_wp2_with fail
        refine wp_region_held_drew (S := (fun w' : World => w'.cell? ⟨g0, o, none⟩ = some (.slice a1 n1 k1) ∧ w'.cell? ⟨wr.heap.size, 0, none⟩ = some (.int .i64 r.1) ∧ w'.cell? ⟨wr.heap.size, 1, none⟩ = some (.int .i64 r.2.1) ∧ w'.cell? ⟨wr.heap.size, 2, none⟩ = some (.int .i64 (o : Int)) ∧ w'.cell? ⟨wr.heap.size, 3, none⟩ = some (.int .i64 r.2.2.2))) (by kernel_rfl) (⟨t0, d0, d1, d2, d3⟩) (fun hHeld => ?_)
        refine wpAnyH_takeL (i := 0) (v := ?_) rfl rfl (by kernel_rfl) (by kernel_rfl) (by kernel_rfl) (fun _ _ _ h => h) (Or.inl ⟨by rfl, ?_⟩) (by assumption) ?_
        rotate_left
        · intro w hSw
          try dsimp only at hSw
          go_simp
          all_goals with_reducible rfl
        simp only [List.set_cons_zero, List.set_cons_succ]
        refine wpAnyH_takeL (i := 1) (v := ?_) rfl rfl (by kernel_rfl) (by kernel_rfl) (by kernel_rfl) (fun _ _ _ h => h) (Or.inl ⟨by rfl, ?_⟩) (by assumption) ?_
        rotate_left
        · intro w hSw
          try dsimp only at hSw
          go_simp
          all_goals with_reducible rfl
        simp only [List.set_cons_zero, List.set_cons_succ]
        refine wpAnyH_takeL (i := 2) (v := ?_) rfl rfl (by kernel_rfl) (by kernel_rfl) (by kernel_rfl) (fun _ _ _ h => h) (Or.inl ⟨by rfl, ?_⟩) (by assumption) ?_
        rotate_left
        · intro w hSw
          try dsimp only at hSw
          go_simp
          all_goals with_reducible rfl
        simp only [List.set_cons_zero, List.set_cons_succ]
        refine wpAnyH_takeL (i := 3) (v := ?_) rfl rfl (by kernel_rfl) (by kernel_rfl) (by kernel_rfl) (fun _ _ _ h => h) (Or.inl ⟨by rfl, ?_⟩) (by assumption) ?_
        rotate_left
        · intro w hSw
          try dsimp only at hSw
          go_simp
          all_goals with_reducible rfl
        simp only [List.set_cons_zero, List.set_cons_succ]
        refine wpAnyH_takeL (i := 4) (v := ?_) rfl rfl (by kernel_rfl) (by kernel_rfl) (by kernel_rfl) (fun _ _ _ h => h) (Or.inl ⟨by rfl, ?_⟩) (by assumption) ?_
        rotate_left
        · intro w hSw
          try dsimp only at hSw
          go_simp
          all_goals with_reducible rfl
        simp only [List.set_cons_zero, List.set_cons_succ]
        refine wpAnyH_takeL (i := 5) (v := ?_) rfl rfl (by kernel_rfl) (by kernel_rfl) (by kernel_rfl) (fun _ _ _ h => h) (Or.inl ⟨by rfl, ?_⟩) (by assumption) ?_
        rotate_left
        · intro w hSw
          try dsimp only at hSw
          go_simp
          all_goals with_reducible rfl
        simp only [List.set_cons_zero, List.set_cons_succ]
        refine wpAnyH_takeL (i := 6) (v := ?_) rfl rfl (by kernel_rfl) (by kernel_rfl) (by kernel_rfl) (fun _ _ _ h => h) (Or.inl ⟨by rfl, ?_⟩) (by assumption) ?_
        rotate_left
        · intro w hSw
          try dsimp only at hSw
          go_simp
          all_goals with_reducible rfl
        simp only [List.set_cons_zero, List.set_cons_succ]
        refine wpAnyH_takeL (i := 7) (v := ?_) rfl rfl (by kernel_rfl) (by kernel_rfl) (by kernel_rfl) (fun _ _ _ h => h) (Or.inl ⟨by rfl, ?_⟩) (by assumption) ?_
        rotate_left
        · intro w hSw
          try dsimp only at hSw
          go_simp
          all_goals with_reducible rfl
        simp only [List.set_cons_zero, List.set_cons_succ]
        refine wpAnyH_takeL (i := 8) (v := ?_) rfl rfl (by kernel_rfl) (by kernel_rfl) (by kernel_rfl) (fun _ _ _ h => h) (Or.inl ⟨by rfl, ?_⟩) (by assumption) ?_
        rotate_left
        · intro w hSw
          try dsimp only at hSw
          go_simp
          all_goals with_reducible rfl
        simp only [List.set_cons_zero, List.set_cons_succ]
        refine wpAnyH_takeL (i := 9) (v := ?_) rfl rfl (by kernel_rfl) (by kernel_rfl) (by kernel_rfl) (fun _ _ _ h => h) (Or.inl ⟨by rfl, ?_⟩) (by assumption) ?_
        rotate_left
        · intro w hSw
          try dsimp only at hSw
          go_simp
          all_goals with_reducible rfl
        simp only [List.set_cons_zero, List.set_cons_succ]
        refine wpAnyH_takeL (i := 10) (v := ?_) rfl rfl (by kernel_rfl) (by kernel_rfl) (by kernel_rfl) (fun _ _ _ h => h) (Or.inl ⟨by rfl, ?_⟩) (by assumption) ?_
        rotate_left
        · intro w hSw
          try dsimp only at hSw
          go_simp
          all_goals with_reducible rfl
        simp only [List.set_cons_zero, List.set_cons_succ]
        refine wpAnyH_takeL (i := 11) (v := ?_) rfl rfl (by kernel_rfl) (by kernel_rfl) (by kernel_rfl) (fun _ _ _ h => h) (Or.inl ⟨by rfl, ?_⟩) (by assumption) ?_
        rotate_left
        · intro w hSw
          try dsimp only at hSw
          go_simp
          all_goals with_reducible rfl
        simp only [List.set_cons_zero, List.set_cons_succ]
        refine wpAnyH_ready (rs := [12]) (by kernel_rfl) (by simp) ?_
        refine AllReadyH.cons rfl (fun K hK => ?_) ?_
        · go_simp
          go_at_call 62
          refine Calls.mono (extPut_u _ _ _ _ _ (L o) HLd.out (Rf.extOf r) HE3.out) ?_
          rintro e w7 ⟨v7, rfl, ho7, bd7⟩
          obtain ⟨a7, c7, rfl, -, -⟩ := ho7.slice
          have b7 : Below w6.heap.size w6 w7 := below_drew_pre bd7
          have HO7 : Hid (OwnE 80 w7 w6.heap.size _ _) := ho7
          have S1 := And.intro ((b7.cell (p := ⟨g0, o, none⟩) HG6.out).trans t0) (And.intro ((HV6.out.below b7).cell (j := 0) rfl) (And.intro ((HV6.out.below b7).cell (j := 1) rfl) (And.intro ((HV6.out.below b7).cell (j := 2) rfl) ((HV6.out.below b7).cell (j := 3) rfl))))
          have HT7 : Hid (Tabs w7 g0 L) := HT6.out.below b7
          have B7 : Hid (Below g0 w w7) := B6.out.trans (b7.mono (Nat.le_of_lt HG6.out))
          clear ho7 bd7 b7
          go_simp
          refine hK.out _ _ ?_ (fun hHeld => ?_)
          · try dsimp only
            exact S1
          clear hK K
          refine wpAnyH_takeL (i := 13) (v := ?_) rfl rfl (by kernel_rfl) (by kernel_rfl) (by kernel_rfl) (fun _ _ _ h => h) (Or.inl ⟨by rfl, ?_⟩) (by assumption) ?_
          rotate_left
          · intro w hSw
            try dsimp only at hSw
            go_simp
            all_goals with_reducible rfl
          simp only [List.set_cons_zero, List.set_cons_succ]
          refine wpAnyH_takeL (i := 14) (v := ?_) rfl rfl (by kernel_rfl) (by kernel_rfl) (by kernel_rfl) (fun _ _ _ h => h) (Or.inl ⟨by rfl, ?_⟩) (by assumption) ?_
          rotate_left
          · intro w hSw
            try dsimp only at hSw
            go_simp
            all_goals with_reducible rfl
          simp only [List.set_cons_zero, List.set_cons_succ]
          refine wpAnyH_takeL (i := 15) (v := ?_) rfl rfl (by kernel_rfl) (by kernel_rfl) (by kernel_rfl) (fun _ _ _ h => h) (Or.inl ⟨by rfl, ?_⟩) (by assumption) ?_
          rotate_left
          · intro w hSw
            try dsimp only at hSw
            go_simp
            all_goals with_reducible rfl
          simp only [List.set_cons_zero, List.set_cons_succ]
          refine wpAnyH_takeL (i := 16) (v := ?_) rfl rfl (by kernel_rfl) (by kernel_rfl) (by kernel_rfl) (fun _ _ _ h => h) (Or.inl ⟨by rfl, ?_⟩) (by assumption) ?_
          rotate_left
          · intro w hSw
            try dsimp only at hSw
            go_simp
            all_goals with_reducible rfl
          simp only [List.set_cons_zero, List.set_cons_succ]
          refine wpAnyH_takeL (i := 17) (v := ?_) rfl rfl (by kernel_rfl) (by kernel_rfl) (by kernel_rfl) (fun _ _ _ h => h) (Or.inl ⟨by rfl, ?_⟩) (by assumption) ?_
          rotate_left
          · intro w hSw
            try dsimp only at hSw
            go_simp
            all_goals with_reducible rfl
          simp only [List.set_cons_zero, List.set_cons_succ]
          refine wpAnyH_done (by kernel_rfl) ?_ _
          obtain ⟨u0, u1, u2, u3', u4⟩ := S1
          by_cases hE : Ex.putE (L o) (Rf.extOf r) = 0
          · have HNx2 : Hid (Rf.putsR (l.take (k + 1)) = some (Rf.setT L o (Ex.putL (L o) (Rf.extOf r)), tt + r.2.1)) := by
              have h := HNx.out (HMay.out.2 hE)
              rw [HOn.out] at h
              exact h
            obtain ⟨-, hr1, hr2⟩ := HTO.out.next (HMay.out.2 hE)
            have HXr : Hid (rExts.rd w7 (fun b => g0 < b) [.slice a7 (Ex.putL (L o) (Rf.extOf r)).length c7] (Ex.putL (L o) (Rf.extOf r))) := rExts.weaken (HO7.out.rd (by have := (Ex.putL_ok hE).2.1.1; omega)) (fun b hb _ => Nat.lt_of_lt_of_le HG6.out hb)
            have HT8 : Hid (Tabs (w7.setCell ⟨g0, o, none⟩ (.slice a7 (Ex.putL (L o) (Rf.extOf r)).length c7)) g0 (Rf.setT L o (Ex.putL (L o) (Rf.extOf r)))) := HT7.out.set ho2 HXr.out
            obtain ⟨-, -, -, -, tf7, -⟩ := HT7.out.at ho2
            have hwrg : ¬ wr.heap.size = g0 := by omega
            rw [hE]
            clear hE
            go_wp2
            go_roundw
            case rel => exact ⟨k + 1, _, _, by omega, by go_num, rfl, HNx2, HT8, B7.out.setCell (p := ⟨g0, o, none⟩) (Nat.le_refl _) _⟩
            case measure => simp [intOf]; omega
          · have HNone : Hid (Rf.putsR l = none) := HSt.out (fun h => hE (HMay.out.1 h))
            obtain ⟨E, hEE⟩ : ∃ E, Ex.putE (L o) (Rf.extOf r) = E := ⟨_, rfl⟩
            rw [hEE] at hE ⊢
            have hE0 : (E == 0) = false := beq_eq_false_iff_ne.2 hE
            clear hEE
            go_wp2
            go_ret3
            exact ⟨fun _ => rfl, (fun L t h => by rw [HNone.out] at h; cases h), by rw [hg0]; exact B7.out⟩
        exact AllReadyH.nil
      · have hOd : decide (0 ≤ r.2.2.1 ∧ r.2.2.1 ≤ 255) = false := decide_eq_false hO
        have HNone : Hid (Rf.putsR l = none) := HSt.out (fun h => hO ⟨h.1, h.2.1⟩)
        clear hO
        obtain ⟨w6, hw6, V6, b6, z6⟩ := boxedRow wr 63 [.int .i64 r.1, .int .i64 r.2.1, .int .i64 r.2.2.1, .int .i64 r.2.2.2]
        obtain ⟨d0, d1, d2, d3⟩ := V6.four9
        have HT6 : Hid (Tabs w6 g0 L) := HT.out.below b6
        have HV6 : Hid (Row w6 wr.heap.size 63 [.int .i64 r.1, .int .i64 r.2.1, .int .i64 r.2.2.1, .int .i64 r.2.2.2]) := V6
        have hgw : g0 < wr.heap.size := HT.out.lt
        have HG6 : Hid (g0 < w6.heap.size) := HT6.out.lt
        have B6 : Hid (Below g0 w w6) := HB.out.trans (b6.mono (Nat.le_of_lt hgw))
        clear V6 b6 z6 HT
        go_wp2_with (go_at_call 45; refine (isOwner_u _ _ false hOd).mono ?_; rintro e w99 ⟨rfl, rfl⟩)
        go_ret3
        exact ⟨fun _ => rfl, (fun L t h => by rw [HNone.out] at h; cases h), by rw [hg0]; exact B6.out⟩
    · obtain rfl : n = k := by omega
      have HAll : Hid (Rf.putsR l = some (L, tt)) := by
        have h := HP.out
        rw [List.take_of_length_le (by rw [HL.out]; exact Nat.le_refl _)] at h
        exact h
      clear HP
      go_wp2
      go_ret3
      refine ⟨(fun h => by rw [HAll.out] at h; cases h), fun L' t' h => ?_, by rw [hg0]; exact HB.out⟩
      rw [HAll.out] at h
      cases h
      exact ⟨g0, rfl, by rw [hg0]; exact Nat.le_refl _, HT.out⟩
end Go.Proofs.Ytinlgoljaiolnaa
