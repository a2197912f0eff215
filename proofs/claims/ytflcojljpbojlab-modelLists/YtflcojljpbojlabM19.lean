/-
  Facts that the proof rests on, part 20. Conditions: those that each of them names.
-/
import Derived.Test.YtflcojljpbojlabM18
namespace Go.Proofs.Ytflcojljpbojlab
open Go.RowKit
set_option linter.unusedVariables false
def rSnpF : Rep Snp := rPair rInt (rPair rStr rFrees)
def rSnpsF : Rep (List Snp) := rList rSnpF (by decide)
def rStaF : Rep Sta := rPair rFrees (rPair rSnpsF rInt)
theorem snpF_rd {w : World} {P : Nat → Prop} {id : Int} {nm : ByteArray} {v : Value} {d : Dsk} (h1 : -9223372036854775808 ≤ id ∧ id ≤ 9223372036854775807) (h2 : nm.size ≤ maxLen) (h : rFrees.rd w P [v] d) : rSnpF.rd w P [.int .i64 id, .string nm, v] (id, nm, d) :=
  ⟨[.int .i64 id], [.string nm, v], rfl, ⟨rfl, h1⟩, [.string nm], [v], rfl, ⟨rfl, h2⟩, h⟩
theorem snpF_snp {w : World} {P : Nat → Prop} {cs : List Value} {x : Snp} (h : rSnpF.rd w P cs x) : rSnp.rd w P cs x := by
  obtain ⟨c, d, e, h1, c', d', e', h2, h3⟩ := h
  exact ⟨c, d, e, h1, c', d', e', h2, frees_sectors h3⟩
theorem staF_sta {w : World} {P : Nat → Prop} {cs : List Value} {x : Sta} (h : rStaF.rd w P cs x) : rSta.rd w P cs x := by
  obtain ⟨c, d, e, h1, c', d', e', h2, h3⟩ := h
  exact ⟨c, d, e, frees_sectors h1, c', d', e', rList_map (A := rSnpF) (B := rSnp) rfl rfl (fun _ _ _ _ h => snpF_snp h) h2, h3⟩
theorem elem_snpF : ElemOf Try.prog 27 56 rSnpF := elemOf (z := .agg #[.int .i64 0, .string ByteArray.empty, .slice none 0 0]) Try.underlying27 (by kernel_rfl) rfl rfl rfl (by decide)
set_option maxRecDepth 20000 in
set_option maxHeartbeats 8000000 in
theorem of_o (w : World) (P : Nat → Prop) (a b : Option Addr) (n c m d : Nat) (s : Sta) (hS : rSta.rd w P [.slice a n c, .slice b m d, .int .i64 s.2.2] s) (hm8 : m * 48 ≤ 140737488351232) (hn6 : n * 24 ≤ 140737488351232) :
    Calls Try.prog 6 #[.agg #[.slice a n c, .slice b m d, .int .i64 s.2.2]] w fun e w' => ∃ ua uc v hi, e = .returned (.agg #[.slice ua n uc, v, .int .i64 s.2.2]) ∧ w.heap.size ≤ hi ∧ hi ≤ w'.heap.size ∧ OwnsQ rFree 31 w' w.heap.size (fun q => w.heap.size ≤ q ∧ q < hi) (.slice ua n uc) s.1 ∧ (∀ k, (Value.slice ua n uc).ownBlock = some k → k < hi) ∧ Owns rSnpF 56 w' hi v s.2.1 ∧ Below w.heap.size w w' := by
  obtain ⟨a', n', c', b', m', d', e, hD, hL, hi⟩ := rSta_cells hS
  simp only [List.cons.injEq, Value.slice.injEq, and_true] at e
  obtain ⟨⟨rfl, rfl, rfl⟩, rfl, rfl, rfl⟩ := e
  obtain ⟨D, l, next⟩ := s
  simp only at hD hL hi ⊢
  have HDl : Hid (D.length = n) := (rL_len hD).1
  have HM : Hid (l.length = m) := (rL_len hL).1
  obtain ⟨w0, hw0, V0, b0, z0⟩ := boxedRow w 25 [.slice a n c, .slice b m d, .int .i64 next]
  obtain ⟨w1, hw1, V1, b1, z1⟩ := boxedRow w0 29 [.slice none 0 0, .slice none 0 0, .int .i64 0]
  have HV0 : Hid (Row w1 w.heap.size 25 [.slice a n c, .slice b m d, .int .i64 next]) := V0.below b1
  have HV1 : Hid (Row w1 w0.heap.size 29 [.slice none 0 0, .slice none 0 0, .int .i64 0]) := V1
  have B1 : Hid (Below w.heap.size w w1) := on b0 b1
  have HZ : Hid (w0.heap.size = w.heap.size + 1 ∧ w1.heap.size = w.heap.size + 2) := ⟨z0, by omega⟩
  have HD1 : Hid (rSectors.rd w1 P [.slice a n c] D) := Rep.below hD B1.out
  have HL1 : Hid (rSnps.rd w1 P [.slice b m d] l) := Rep.below hL B1.out
  have HSee : Hid (∀ w', Below w1.heap.size w1 w' → w'.cell? ⟨w.heap.size, 0, none⟩ = some (.slice a n c) ∧ w'.cell? ⟨w.heap.size, 2, none⟩ = some (.int .i64 next)) := fun w' hb => ⟨(HV0.out.below hb).cell (j := 0) rfl, (HV0.out.below hb).cell (j := 2) rfl⟩
  have S0 := HSee.out _ (Below.refl _ w1).drew
  have HI : Hid _ := hi
  clear hS hD hL V0 V1 b0 b1 z0 z1 hi
  go_enter Try.func6, Try.ntmps6
  go_wp2_with fail
  go_cut [3] (fun t wx => ∃ vb ua uc, t = .pointer (some ⟨vb, 0, none⟩) ∧ w1.heap.size ≤ vb ∧ Hid (Row wx vb 29 [.slice ua n uc, .slice none 0 0, .int .i64 next]) ∧ Hid (OwnsQ rFree 31 wx w1.heap.size (fun q => w1.heap.size ≤ q ∧ q ≠ vb) (.slice ua n uc) D) ∧ Hid (∀ k, (Value.slice ua n uc).ownBlock = some k → k ≠ vb ∧ k < wx.heap.size) ∧ Hid (Below w1.heap.size w1 wx))
  case first =>
    refine wp_region_held_drew (S := (fun w' : World => w'.cell? ⟨w.heap.size, 0, none⟩ = some (.slice a n c) ∧ w'.cell? ⟨w.heap.size, 2, none⟩ = some (.int .i64 next))) (by kernel_rfl) (S0) (fun hHeld => ?_)
    refine wpAnyH_takeL (i := 0) (v := ?_) rfl rfl (by kernel_rfl) (by kernel_rfl) (by kernel_rfl) (fun _ _ _ h => h) (Or.inl ⟨by rfl, ?_⟩) (by assumption) ?_
    rotate_left
    · intro w hSw
      try dsimp only at hSw
      go_simp
      all_goals with_reducible rfl
    simp only [List.set_cons_zero, List.set_cons_succ]
    refine wpAnyH_takeL (i := 1) (v := ?_) rfl rfl (by kernel_rfl) (by kernel_rfl) (by kernel_rfl) (fun _ _ _ h => h) (Or.inl ⟨by rfl, ?_⟩) (by assumption) ?_
    rotate_left
    · intro w hSw
      try dsimp only at hSw
      go_simp
      all_goals with_reducible rfl
    simp only [List.set_cons_zero, List.set_cons_succ]
    refine wpAnyH_takeL (i := 3) (v := ?_) rfl rfl (by kernel_rfl) (by kernel_rfl) (by kernel_rfl) (fun _ _ _ h => h) (Or.inl ⟨by rfl, ?_⟩) (by assumption) ?_
    rotate_left
    · intro w hSw
      try dsimp only at hSw
      go_simp
      all_goals with_reducible rfl
    simp only [List.set_cons_zero, List.set_cons_succ]
    refine wpAnyH_takeL (i := 4) (v := ?_) rfl rfl (by kernel_rfl) (by kernel_rfl) (by kernel_rfl) (fun _ _ _ h => h) (Or.inl ⟨by rfl, ?_⟩) (by assumption) ?_
    rotate_left
    · intro w hSw
      try dsimp only at hSw
      go_simp
      all_goals with_reducible rfl
    simp only [List.set_cons_zero, List.set_cons_succ]
    refine wpAnyH_ready (rs := [2, 6]) (by kernel_rfl) (by simp) ?_
    refine AllReadyH.cons rfl (fun K hK => ?_) ?_
    · go_simp
      go_at_call 15
      refine Calls.mono (copyList_o w1.drew P a n c D (rSectors.keep HD1.out (fun _ _ _ => rfl))) ?_
      rintro e w2 ⟨u, rfl, ho, bd⟩
      have B2 : Hid (Below w1.heap.size w1 w2) := (Below.refl _ w1).drew.trans bd
      obtain ⟨ua, uc, hu, -⟩ := Owns.rd (hs := by decide) ho (by show _ * 24 ≤ _; rw [HDl.out]; omega)
      rw [HDl.out] at hu
      subst hu
      have HO2 : Hid (OwnsQ rFree 31 w2 w1.heap.size (fun q => w1.heap.size ≤ q ∧ q < w2.heap.size) (.slice ua n uc) D) := (Owns.toQ2 ho (fun q => w1.heap.size ≤ q ∧ q < w2.heap.size) (fun q h1 h2 => ⟨h1, h2⟩) (Below.refl _ _)).low (Nat.le_refl _)
      have S2 := HSee.out _ B2.out
      have HRw2 : Hid (∀ k, (Value.slice ua n uc).ownBlock = some k → k < w2.heap.size) := fun k hk => (ho.row k hk).2
      clear ho bd
      go_simp
      refine hK.out _ _ ?_ (fun hHeld => ?_)
      · try dsimp only
        first | exact S4 | exact S3 | exact S2 | exact S0
      clear hK K
      refine wpAnyH_takeL (i := 5) (v := ?_) rfl rfl (by kernel_rfl) (by kernel_rfl) (by kernel_rfl) (fun _ _ _ h => h) (Or.inl ⟨by rfl, ?_⟩) (by assumption) ?_
      rotate_left
      · intro w hSw
        try dsimp only at hSw
        go_simp
        all_goals with_reducible rfl
      simp only [List.set_cons_zero, List.set_cons_succ]
      refine wpAnyH_ready (rs := [6]) (by kernel_rfl) (by simp) ?_
      refine AllReadyH.cons rfl (fun K hK => ?_) ?_
      · go_simp
        obtain ⟨wB, hwB, vB, bB, zB⟩ := boxedRow w2 29 [.slice none 0 0, .slice none 0 0, .int .i64 0]
        obtain ⟨vb, hvb⟩ : ∃ vb, vb = w2.heap.size := ⟨_, rfl⟩
        have BA : Hid (Below w1.heap.size w1 wB) := on B2.out bB
        have HVb : Hid (w1.heap.size ≤ vb) := by rw [hvb]; exact B2.out.size
        have hvb' : w2.heap.size = vb := hvb.symm
        have VA : Hid (Row wB vb 29 [.slice none 0 0, .slice none 0 0, .int .i64 0]) := by rw [hvb]; exact vB.keep rfl
        have VM := VA
        have BM := BA
        have HRw : Hid (∀ k, (Value.slice ua n uc).ownBlock = some k → k ≠ vb ∧ k < wB.heap.size) := fun k hk => by have h1 := HRw2.out k hk; have h2 := bB.size; rw [hvb]; exact ⟨by omega, by omega⟩
        have HOf : Hid (OwnsQ rFree 31 wB w1.heap.size (fun q => w1.heap.size ≤ q ∧ q ≠ vb) (.slice ua n uc) D) := by rw [hvb]; exact (HO2.out.below bB).weaken (fun q hq => ⟨hq.1, by omega⟩)
        have S3 := HSee.out _ BA.out
        clear vB zB hvb bB
        rw [hwB, hvb']
        go_simp
        refine hK.out _ _ ?_ (fun hHeld => ?_)
        · try dsimp only
          first | exact S4 | exact S3 | exact S2 | exact S0
        clear hK K
        refine wpAnyH_ready (rs := [7]) (by kernel_rfl) (by simp) ?_
        refine AllReadyH.cons rfl (fun K hK => ?_) ?_
        · have p0 := VM.out.cell (j := 0) rfl
          have p1 := VM.out.cell (j := 1) rfl
          have p2 := VM.out.cell (j := 2) rfl
          have f0 := VM.out.frozen 0
          have f1 := VM.out.frozen 1
          have f2 := VM.out.frozen 2
          obtain ⟨wX, hwX, VX, KX⟩ := VM.out.whole3 (.slice ua n uc) (.slice none 0 0) (.int .i64 next)
          have HVX : Hid _ := VX
          have HKX : Hid _ := KX
          have BX : Hid (Below w1.heap.size w1 wX) := Kept.belowOf BM.out KX HVb.out
          have S4 := HSee.out _ BX.out
          clear VX KX
          go_simp
          refine hK.out _ _ ?_ (fun hHeld => ?_)
          · try dsimp only
            first | exact S4 | exact S3 | exact S2 | exact S0
          clear hK K
          refine wpAnyH_done (by kernel_rfl) ?_ _
          clear hHeld S4
          go_wp2_with fail
          go_meet
          exact ⟨vb, ua, uc, rfl, HVb.out, HVX, HOf.out.keepK HKX.out (fun q hq => hq.2) (fun k hk => (HRw.out k hk).1), fun k hk => ⟨(HRw.out k hk).1, Nat.lt_of_lt_of_le (HRw.out k hk).2 HKX.out.size⟩, BX⟩
        exact AllReadyH.nil
      exact AllReadyH.nil
    refine AllReadyH.cons rfl (fun K hK => ?_) ?_
    · go_simp
      obtain ⟨wB, hwB, vB, bB, zB⟩ := boxedRow w1 29 [.slice none 0 0, .slice none 0 0, .int .i64 0]
      obtain ⟨vb, hvb⟩ : ∃ vb, vb = w1.heap.size := ⟨_, rfl⟩
      have BA : Hid (Below w1.heap.size w1 wB.drew) := Below.drew bB
      have HVb : Hid (w1.heap.size ≤ vb) := by rw [hvb]; exact Nat.le_refl _
      have hvb' : w1.heap.size = vb := hvb.symm
      have VA : Hid (Row wB.drew vb 29 [.slice none 0 0, .slice none 0 0, .int .i64 0]) := by rw [hvb]; exact vB.keep rfl
      have HVl : Hid (vb < wB.drew.heap.size) := by rw [hvb]; exact Nat.lt_of_succ_le (Nat.le_of_eq zB.symm)
      have S3 := HSee.out _ BA.out
      clear vB zB hvb bB
      rw [hwB, hvb']
      refine hK.out _ _ ?_ (fun hHeld => ?_)
      · try dsimp only
        first | exact S4 | exact S3 | exact S2 | exact S0
      clear hK K
      refine wpAnyH_ready (rs := [2]) (by kernel_rfl) (by simp) ?_
      refine AllReadyH.cons rfl (fun K hK => ?_) ?_
      · go_simp
        go_at_call 15
        refine Calls.mono (copyList_o wB.drew P a n c D (Rep.below HD1.out BA.out)) ?_
        rintro e w2 ⟨u, rfl, ho, bd⟩
        have B2 : Hid (Below w1.heap.size w1 w2) := on BA.out bd
        obtain ⟨ua, uc, hu, -⟩ := Owns.rd (hs := by decide) ho (by show _ * 24 ≤ _; rw [HDl.out]; omega)
        rw [HDl.out] at hu
        subst hu
        have HO2 : Hid (OwnsQ rFree 31 w2 w1.heap.size (fun q => w1.heap.size ≤ q ∧ q ≠ vb) (.slice ua n uc) D) := (Owns.toQ2 ho (fun q => w1.heap.size ≤ q ∧ q ≠ vb) (fun q h1 h2 => ⟨Nat.le_trans BA.out.size h1, fun e => by have := HVl.out; omega⟩) (Below.refl _ _)).low BA.out.size
        have S2 := HSee.out _ B2.out
        have VM : Hid (Row w2 vb 29 [.slice none 0 0, .slice none 0 0, .int .i64 0]) := VA.out.below bd
        have BM : Hid (Below w1.heap.size w1 w2) := on BA.out bd
        have HRw : Hid (∀ k, (Value.slice ua n uc).ownBlock = some k → k ≠ vb ∧ k < w2.heap.size) := fun k hk => by have h1 := ho.row k hk; have h2 := HVl.out; exact ⟨by omega, h1.2⟩
        have HOf : Hid (OwnsQ rFree 31 w2 w1.heap.size (fun q => w1.heap.size ≤ q ∧ q ≠ vb) (.slice ua n uc) D) := HO2.out
        clear ho bd
        go_simp
        refine hK.out _ _ ?_ (fun hHeld => ?_)
        · try dsimp only
          first | exact S4 | exact S3 | exact S2 | exact S0
        clear hK K
        refine wpAnyH_takeL (i := 5) (v := ?_) rfl rfl (by kernel_rfl) (by kernel_rfl) (by kernel_rfl) (fun _ _ _ h => h) (Or.inl ⟨by rfl, ?_⟩) (by assumption) ?_
        rotate_left
        · intro w hSw
          try dsimp only at hSw
          go_simp
          all_goals with_reducible rfl
        simp only [List.set_cons_zero, List.set_cons_succ]
        refine wpAnyH_ready (rs := [7]) (by kernel_rfl) (by simp) ?_
        refine AllReadyH.cons rfl (fun K hK => ?_) ?_
        · have p0 := VM.out.cell (j := 0) rfl
          have p1 := VM.out.cell (j := 1) rfl
          have p2 := VM.out.cell (j := 2) rfl
          have f0 := VM.out.frozen 0
          have f1 := VM.out.frozen 1
          have f2 := VM.out.frozen 2
          obtain ⟨wX, hwX, VX, KX⟩ := VM.out.whole3 (.slice ua n uc) (.slice none 0 0) (.int .i64 next)
          have HVX : Hid _ := VX
          have HKX : Hid _ := KX
          have BX : Hid (Below w1.heap.size w1 wX) := Kept.belowOf BM.out KX HVb.out
          have S4 := HSee.out _ BX.out
          clear VX KX
          go_simp
          refine hK.out _ _ ?_ (fun hHeld => ?_)
          · try dsimp only
            first | exact S4 | exact S3 | exact S2 | exact S0
          clear hK K
          refine wpAnyH_done (by kernel_rfl) ?_ _
          clear hHeld S4
          go_wp2_with fail
          go_meet
          exact ⟨vb, ua, uc, rfl, HVb.out, HVX, HOf.out.keepK HKX.out (fun q hq => hq.2) (fun k hk => (HRw.out k hk).1), fun k hk => ⟨(HRw.out k hk).1, Nat.lt_of_lt_of_le (HRw.out k hk).2 HKX.out.size⟩, BX⟩
        exact AllReadyH.nil
      exact AllReadyH.nil
    exact AllReadyH.nil
  case rest =>
    obtain ⟨vb, ua, uc, rfl, hvb, HVX, HOX, HRX, BX⟩ := hcut
    obtain ⟨w3, hw3⟩ : ∃ w3, w3 = wc := ⟨_, rfl⟩
    subst hw3
    have HVb : Hid (vb < w3.heap.size) := HVX.out.lt
    have HVb1 : Hid (w1.heap.size ≤ vb) := hvb
    clear S0 hvb
    have c1 := (HV0.out.below BX.out).cell (j := 1) rfl
    go_wp2
    clear c1
    go_loopw [4] (fun i wr => ∃ (k : Nat) (v : Value), k ≤ m ∧ i = .int .i64 k ∧ Hid (Row wr vb 29 [.slice ua n uc, v, .int .i64 next]) ∧ Hid (Owns rSnpF 56 wr w3.heap.size v (l.take k)) ∧ Hid (Kept (fun q => q < w3.heap.size ∧ q ≠ vb) w3 wr)) (fun i _ => m - (intOf i).toNat)
    case atStart => exact ⟨0, _, Nat.zero_le _, rfl, HVX.out, Owns.nil _ _ _ _, Kept.refl _ _⟩
    case round =>
      obtain ⟨k, v, hk, rfl, HVr, HOr, HKr⟩ := hrel
      have HZr : Hid (w3.heap.size ≤ wr.heap.size) := HKr.out.size
      have BR : Hid (Below w1.heap.size w1 wr) := BX.out.trans (Kept.toBelow (HKr.out.mono (fun q hq => ⟨Nat.lt_of_lt_of_le hq BX.out.size, fun e => by have h1 := HVb1.out; have hq2 : q < w1.heap.size := hq; omega⟩)))
      have c1 := (HV0.out.below BR.out).cell (j := 1) rfl
      by_cases hlt : k < m
      · have hkl : k < l.length := by rw [HM.out]; exact hlt
        obtain ⟨gl, off, rfl, -, hgl, hat⟩ := rSnps_at HL1.out (by omega)
        obtain ⟨x, xm, xd, hX, hXl, e0, e1, e2, hid, hs⟩ := hat k hkl
        have HTk : Hid (l.take (k + 1) = l.take k ++ [(l[k].1, l[k].2.1, l[k].2.2)]) := List.take_succ_eq_append_getElem hkl
        have hkz : (k : Int) < (m : Int) := by omega
        obtain ⟨id, hidE⟩ : ∃ id, id = l[k].1 := ⟨_, rfl⟩
        obtain ⟨nm, hnmE⟩ : ∃ nm, nm = l[k].2.1 := ⟨_, rfl⟩
        obtain ⟨dk, hdkE⟩ : ∃ dk, dk = l[k].2.2 := ⟨_, rfl⟩
        rw [← hidE, ← hnmE, ← hdkE] at HTk
        rw [← hidE] at e0 hid
        rw [← hnmE] at e1 hs
        rw [← hdkE] at hX hXl
        have HX4 : Hid (rSectors.rd wr.drew P [.slice x xm xd] dk) := rSectors.keep (Rep.below hX BR.out) (fun _ _ _ => rfl)
        have HNs : Hid (nm.size ≤ maxLen) := hs
        have HI4 : Hid (-9223372036854775808 ≤ id ∧ id ≤ 9223372036854775807) := hid
        have HC : Hid (∀ w', Below w1.heap.size w1 w' → w'.cell? ⟨w.heap.size, 1, none⟩ = some (.slice (some ⟨gl, off, none⟩) m d) ∧ w'.cell? ⟨gl, off + k * 3, none⟩ = some (.int .i64 id) ∧ w'.cell? ⟨gl, off + k * 3 + 1, none⟩ = some (.string nm) ∧ w'.cell? ⟨gl, off + k * 3 + 2, none⟩ = some (.slice x xm xd)) := fun w' hb => ⟨(HV0.out.below hb).cell (j := 1) rfl, (hb.cell (p := ⟨gl, off + k * 3, none⟩) hgl).trans e0, (hb.cell (p := ⟨gl, off + k * 3 + 1, none⟩) hgl).trans e1, (hb.cell (p := ⟨gl, off + k * 3 + 2, none⟩) hgl).trans e2⟩
        have HSee4 : Hid (∀ w', Below wr.heap.size wr w' → w'.cell? ⟨w.heap.size, 1, none⟩ = some (.slice (some ⟨gl, off, none⟩) m d) ∧ w'.cell? ⟨gl, off + k * 3, none⟩ = some (.int .i64 id) ∧ w'.cell? ⟨gl, off + k * 3 + 1, none⟩ = some (.string nm) ∧ w'.cell? ⟨gl, off + k * 3 + 2, none⟩ = some (.slice x xm xd)) := fun w' hb => HC.out w' (BR.out.trans (hb.mono BR.out.size))
        have HSeeK : Hid (∀ w', Kept (fun q => q < w3.heap.size ∧ q ≠ vb) w3 w' → w'.cell? ⟨w.heap.size, 1, none⟩ = some (.slice (some ⟨gl, off, none⟩) m d) ∧ w'.cell? ⟨gl, off + k * 3, none⟩ = some (.int .i64 id) ∧ w'.cell? ⟨gl, off + k * 3 + 1, none⟩ = some (.string nm) ∧ w'.cell? ⟨gl, off + k * 3 + 2, none⟩ = some (.slice x xm xd)) := fun w' hk => HC.out w' (BX.out.trans (Kept.toBelow (hk.mono (fun q hq => ⟨Nat.lt_of_lt_of_le hq BX.out.size, fun e => by have h1 := HVb1.out; have hq2 : q < w1.heap.size := hq; omega⟩))))
        have S0 := HSee4.out _ (Below.refl _ wr).drew
        clear hidE hnmE hdkE hat hX hXl hs hid e0 e1 e2 hgl
        go_wp2_with fail
        refine wp_region_held_drew (S := (fun w' : World => w'.cell? ⟨w.heap.size, 1, none⟩ = some (.slice (some ⟨gl, off, none⟩) m d) ∧ w'.cell? ⟨gl, off + k * 3, none⟩ = some (.int .i64 id) ∧ w'.cell? ⟨gl, off + k * 3 + 1, none⟩ = some (.string nm) ∧ w'.cell? ⟨gl, off + k * 3 + 2, none⟩ = some (.slice x xm xd))) (by kernel_rfl) (S0) (fun hHeld => ?_)
        refine wpAnyH_takeL (i := 0) (v := ?_) rfl rfl (by kernel_rfl) (by kernel_rfl) (by kernel_rfl) (fun _ _ _ h => h) (Or.inl ⟨by rfl, ?_⟩) (by assumption) ?_
        rotate_left
        · intro w hSw
          try dsimp only at hSw
          go_simp
          all_goals with_reducible rfl
        simp only [List.set_cons_zero, List.set_cons_succ]
        refine wpAnyH_takeL (i := 2) (v := ?_) rfl rfl (by kernel_rfl) (by kernel_rfl) (by kernel_rfl) (fun _ _ _ h => h) (Or.inl ⟨by rfl, ?_⟩) (by assumption) ?_
        rotate_left
        · intro w hSw
          try dsimp only at hSw
          go_simp
          all_goals with_reducible rfl
        simp only [List.set_cons_zero, List.set_cons_succ]
        refine wpAnyH_takeL (i := 3) (v := ?_) rfl rfl (by kernel_rfl) (by kernel_rfl) (by kernel_rfl) (fun _ _ _ h => h) (Or.inl ⟨by rfl, ?_⟩) (by assumption) ?_
        rotate_left
        · intro w hSw
          try dsimp only at hSw
          go_simp
          all_goals with_reducible rfl
        simp only [List.set_cons_zero, List.set_cons_succ]
        refine wpAnyH_takeL (i := 4) (v := ?_) rfl rfl (by kernel_rfl) (by kernel_rfl) (by kernel_rfl) (fun _ _ _ h => h) (Or.inl ⟨by rfl, ?_⟩) (by assumption) ?_
        rotate_left
        · intro w hSw
          try dsimp only at hSw
          go_simp
          all_goals with_reducible rfl
        simp only [List.set_cons_zero, List.set_cons_succ]
        refine wpAnyH_takeL (i := 5) (v := ?_) rfl rfl (by kernel_rfl) (by kernel_rfl) (by kernel_rfl) (fun _ _ _ h => h) (Or.inl ⟨by rfl, ?_⟩) (by assumption) ?_
        rotate_left
        · intro w hSw
          try dsimp only at hSw
          go_simp
          all_goals with_reducible rfl
        simp only [List.set_cons_zero, List.set_cons_succ]
        refine wpAnyH_takeL (i := 6) (v := ?_) rfl rfl (by kernel_rfl) (by kernel_rfl) (by kernel_rfl) (fun _ _ _ h => h) (Or.inl ⟨by rfl, ?_⟩) (by assumption) ?_
        rotate_left
        · intro w hSw
          try dsimp only at hSw
          go_simp
          all_goals with_reducible rfl
        simp only [List.set_cons_zero, List.set_cons_succ]
        refine wpAnyH_takeL (i := 7) (v := ?_) rfl rfl (by kernel_rfl) (by kernel_rfl) (by kernel_rfl) (fun _ _ _ h => h) (Or.inl ⟨by rfl, ?_⟩) (by assumption) ?_
        rotate_left
        · intro w hSw
          try dsimp only at hSw
          go_simp
          all_goals with_reducible rfl
        simp only [List.set_cons_zero, List.set_cons_succ]
        refine wpAnyH_takeL (i := 8) (v := ?_) rfl rfl (by kernel_rfl) (by kernel_rfl) (by kernel_rfl) (fun _ _ _ h => h) (Or.inl ⟨by rfl, ?_⟩) (by assumption) ?_
        rotate_left
        · intro w hSw
          try dsimp only at hSw
          go_simp
          all_goals with_reducible rfl
        simp only [List.set_cons_zero, List.set_cons_succ]
        refine wpAnyH_takeL (i := 9) (v := ?_) rfl rfl (by kernel_rfl) (by kernel_rfl) (by kernel_rfl) (fun _ _ _ h => h) (Or.inl ⟨by rfl, ?_⟩) (by assumption) ?_
        rotate_left
        · intro w hSw
          try dsimp only at hSw
          go_simp
          all_goals with_reducible rfl
        simp only [List.set_cons_zero, List.set_cons_succ]
        refine wpAnyH_takeL (i := 10) (v := ?_) rfl rfl (by kernel_rfl) (by kernel_rfl) (by kernel_rfl) (fun _ _ _ h => h) (Or.inl ⟨by rfl, ?_⟩) (by assumption) ?_
        rotate_left
        · intro w hSw
          try dsimp only at hSw
          go_simp
          all_goals with_reducible rfl
        simp only [List.set_cons_zero, List.set_cons_succ]
        refine wpAnyH_takeL (i := 11) (v := ?_) rfl rfl (by kernel_rfl) (by kernel_rfl) (by kernel_rfl) (fun _ _ _ h => h) (Or.inl ⟨by rfl, ?_⟩) (by assumption) ?_
        rotate_left
        · intro w hSw
          try dsimp only at hSw
          go_simp
          all_goals with_reducible rfl
        simp only [List.set_cons_zero, List.set_cons_succ]
        refine wpAnyH_takeL (i := 12) (v := ?_) rfl rfl (by kernel_rfl) (by kernel_rfl) (by kernel_rfl) (fun _ _ _ h => h) (Or.inl ⟨by rfl, ?_⟩) (by assumption) ?_
        rotate_left
        · intro w hSw
          try dsimp only at hSw
          go_simp
          all_goals with_reducible rfl
        simp only [List.set_cons_zero, List.set_cons_succ]
        refine wpAnyH_takeL (i := 13) (v := ?_) rfl rfl (by kernel_rfl) (by kernel_rfl) (by kernel_rfl) (fun _ _ _ h => h) (Or.inl ⟨by rfl, ?_⟩) (by assumption) ?_
        rotate_left
        · intro w hSw
          try dsimp only at hSw
          go_simp
          all_goals with_reducible rfl
        simp only [List.set_cons_zero, List.set_cons_succ]
        refine wpAnyH_takeL (i := 14) (v := ?_) rfl rfl (by kernel_rfl) (by kernel_rfl) (by kernel_rfl) (fun _ _ _ h => h) (Or.inl ⟨by rfl, ?_⟩) (by assumption) ?_
        rotate_left
        · intro w hSw
          try dsimp only at hSw
          go_simp
          all_goals with_reducible rfl
        simp only [List.set_cons_zero, List.set_cons_succ]
        refine wpAnyH_takeL (i := 15) (v := ?_) rfl rfl (by kernel_rfl) (by kernel_rfl) (by kernel_rfl) (fun _ _ _ h => h) (Or.inl ⟨by rfl, ?_⟩) (by assumption) ?_
        rotate_left
        · intro w hSw
          try dsimp only at hSw
          go_simp
          all_goals with_reducible rfl
        simp only [List.set_cons_zero, List.set_cons_succ]
        refine wpAnyH_takeL (i := 16) (v := ?_) rfl rfl (by kernel_rfl) (by kernel_rfl) (by kernel_rfl) (fun _ _ _ h => h) (Or.inl ⟨by rfl, ?_⟩) (by assumption) ?_
        rotate_left
        · intro w hSw
          try dsimp only at hSw
          go_simp
          all_goals with_reducible rfl
        simp only [List.set_cons_zero, List.set_cons_succ]
        refine wpAnyH_takeL (i := 17) (v := ?_) rfl rfl (by kernel_rfl) (by kernel_rfl) (by kernel_rfl) (fun _ _ _ h => h) (Or.inl ⟨by rfl, ?_⟩) (by assumption) ?_
        rotate_left
        · intro w hSw
          try dsimp only at hSw
          go_simp
          all_goals with_reducible rfl
        simp only [List.set_cons_zero, List.set_cons_succ]
        refine wpAnyH_takeL (i := 18) (v := ?_) rfl rfl (by kernel_rfl) (by kernel_rfl) (by kernel_rfl) (fun _ _ _ h => h) (Or.inl ⟨by rfl, ?_⟩) (by assumption) ?_
        rotate_left
        · intro w hSw
          try dsimp only at hSw
          go_simp
          all_goals with_reducible rfl
        simp only [List.set_cons_zero, List.set_cons_succ]
        refine wpAnyH_takeL (i := 19) (v := ?_) rfl rfl (by kernel_rfl) (by kernel_rfl) (by kernel_rfl) (fun _ _ _ h => h) (Or.inl ⟨by rfl, ?_⟩) (by assumption) ?_
        rotate_left
        · intro w hSw
          try dsimp only at hSw
          go_simp
          all_goals with_reducible rfl
        simp only [List.set_cons_zero, List.set_cons_succ]
        refine wpAnyH_ready (rs := [1, 20]) (by kernel_rfl) (by simp) ?_
        refine AllReadyH.cons rfl (fun K hK => ?_) ?_
        · have rv := (HVr.out.below (Below.refl _ wr).drew).cell (j := 1) rfl
          go_simp
          refine hK.out _ _ ?_ (fun hHeld => ?_)
          · try dsimp only
            first | exact S4 | exact S3 | exact S2 | exact S1 | exact S0
          clear hK K
          refine wpAnyH_ready (rs := [20]) (by kernel_rfl) (by simp) ?_
          refine AllReadyH.cons rfl (fun K hK => ?_) ?_
          · go_simp
            go_at_call 15
            refine Calls.mono (copyList_f wr.drew P x xm xd dk HX4.out) ?_
            rintro e w5 ⟨g5, d5, rfl, hrd5, bd5⟩
            have B5 : Hid (Below wr.heap.size wr w5) := (Below.refl wr.heap.size wr).drew.trans bd5
            have HR5 : Hid (rFrees.rd w5 (fun b => wr.heap.size ≤ b) [.slice g5 xm d5] dk) := hrd5
            have S1 := HSee4.out _ B5.out
            clear hrd5 bd5
            go_simp
            refine hK.out _ _ ?_ (fun hHeld => ?_)
            · try dsimp only
              first | exact S4 | exact S3 | exact S2 | exact S1 | exact S0
            clear hK K
            refine wpAnyH_takeL (i := 21) (v := ?_) rfl rfl (by kernel_rfl) (by kernel_rfl) (by kernel_rfl) (fun _ _ _ h => h) (Or.inl ⟨by rfl, ?_⟩) (by assumption) ?_
            rotate_left
            · intro w hSw
              try dsimp only at hSw
              go_simp
              all_goals with_reducible rfl
            simp only [List.set_cons_zero, List.set_cons_succ]
            refine wpAnyH_ready (rs := [22]) (by kernel_rfl) (by simp) ?_
            refine AllReadyH.cons rfl (fun K hK => ?_) ?_
            · go_simp
              have BA : Hid (Below w5.heap.size w5 (w5.alloc (.cells #[.int .i64 id, .string nm, .slice g5 xm d5] 56))) := (Below.refl _ _).alloc (Nat.le_refl _) _
              have S2 := HSee4.out _ (on B5.out BA.out)
              refine hK.out _ _ ?_ (fun hHeld => ?_)
              · try dsimp only
                first | exact S4 | exact S3 | exact S2 | exact S1 | exact S0
              clear hK K
              refine wpAnyH_ready (rs := [23]) (by kernel_rfl) (by simp) ?_
              refine AllReadyH.cons rfl (fun K hK => ?_) ?_
              · refine step_append_rep elem_snpF rfl (.tmp 19) (.tmp 40) rfl w3.heap.size v (l.take k) (by simp [Go.Act.eval]) ((HOr.out.below B5.out).below BA.out) ⟨w5.heap.size, 0, none⟩ [.int .i64 id, .string nm, .slice g5 xm d5] (id, nm, dk) (by simp [Go.Act.eval]) (snp_newT w5 id nm _ _) ?_ ?_ ?_ ?_ ?_
                · exact rSnpF.weaken (snpF_rd HI4.out HNs.out (Rep.below HR5.out BA.out)) (fun b hb _ => ⟨Nat.le_trans HZr.out hb, fun e => by have h1 := (HOr.out.row b e).2; have hb : wr.heap.size ≤ b := hb; omega⟩)
                · rw [List.length_take]; show _ * 48 ≤ _; omega
                · rw [List.length_take]; unfold maxLen; omega
                · exact Nat.le_trans HZr.out (Nat.le_trans B5.out.size BA.out.size)
                intro b6 d6 w6 ho6 g6
                have B56 : Hid (Below wr.heap.size wr (w5.alloc (.cells #[.int .i64 id, .string nm, .slice g5 xm d5] 56))) := on B5.out BA.out
                have HO6 : Hid (Owns rSnpF 56 w6 w3.heap.size (.slice b6 (min k l.length + 1) d6) (l.take (k + 1))) := by unfold Hid; rw [HTk.out, ← List.length_take]; exact ho6
                have K6 : Hid (Kept (fun q => q < w3.heap.size ∧ q ≠ vb) w3 w6) := (HKr.out.on (fun q hq => Nat.lt_of_lt_of_le hq.1 HZr.out) B56.out).grown g6 (fun q hq => Nat.lt_of_lt_of_le hq.1 (Nat.le_trans HZr.out B56.out.size)) (fun j hj hs => by have := (HOr.out.row j hj).1; have := hs.1; omega)
                have hno : ∀ j, v.ownBlock = some j → w3.heap.size ≤ j := fun j hj => (HOr.out.row j hj).1
                have V6 : Hid (Row w6 vb 29 [.slice ua n uc, v, .int .i64 next]) := (HVr.out.below B56.out).keep (g6.block vb (Nat.lt_of_lt_of_le HVr.out.lt B56.out.size) (fun e => by have h1 := hno _ e.symm; have h2 := HVb.out; omega))
                have S3 := HSeeK.out _ K6.out
                clear ho6 g6 hno
                try go_simp
                refine hK.out _ _ ?_ (fun hHeld => ?_)
                · try dsimp only
                  first | exact S4 | exact S3 | exact S2 | exact S1 | exact S0
                clear hK K
                refine wpAnyH_takeL (i := 24) (v := ?_) rfl rfl (by kernel_rfl) (by kernel_rfl) (by kernel_rfl) (fun _ _ _ h => h) (Or.inl ⟨by rfl, ?_⟩) (by assumption) ?_
                rotate_left
                · intro w hSw
                  try dsimp only at hSw
                  go_simp
                  all_goals with_reducible rfl
                simp only [List.set_cons_zero, List.set_cons_succ]
                refine wpAnyH_ready (rs := [25]) (by kernel_rfl) (by simp) ?_
                refine AllReadyH.cons rfl (fun K hK => ?_) ?_
                · have p1 := V6.out.cell (j := 1) rfl
                  have f1 := V6.out.frozen 1
                  have HV7 : Hid (Row (w6.setCell ⟨vb, 1, none⟩ (.slice b6 (min k l.length + 1) d6)) vb 29 [.slice ua n uc, .slice b6 (min k l.length + 1) d6, .int .i64 next]) := V6.out.set 1 _
                  have HO7 : Hid (Owns rSnpF 56 (w6.setCell ⟨vb, 1, none⟩ (.slice b6 (min k l.length + 1) d6)) w3.heap.size (.slice b6 (min k l.length + 1) d6) (l.take (k + 1))) := HO6.out.setCell (p := ⟨vb, 1, none⟩) HVb.out _
                  have K7 : Hid (Kept (fun q => q < w3.heap.size ∧ q ≠ vb) w3 (w6.setCell ⟨vb, 1, none⟩ (.slice b6 (min k l.length + 1) d6))) := K6.out.setCell (p := ⟨vb, 1, none⟩) (fun h => h.2 rfl) _
                  have S4 := HSeeK.out _ K7.out
                  go_simp
                  refine hK.out _ _ ?_ (fun hHeld => ?_)
                  · try dsimp only
                    first | exact S4 | exact S3 | exact S2 | exact S1 | exact S0
                  clear hK K
                  refine wpAnyH_done (by kernel_rfl) ?_ _
                  clear hHeld p1 f1 S4 S3
                  go_wp2
                  go_roundw
                  case rel => exact ⟨k + 1, _, by omega, by go_num, HV7, HO7, K7⟩
                  case measure => simp [intOf]; omega
                exact AllReadyH.nil
              exact AllReadyH.nil
            exact AllReadyH.nil
          exact AllReadyH.nil
        refine AllReadyH.cons rfl (fun K hK => ?_) ?_
        · go_simp
          go_at_call 15
          refine Calls.mono (copyList_f wr.drew P x xm xd dk HX4.out) ?_
          rintro e w5 ⟨g5, d5, rfl, hrd5, bd5⟩
          have B5 : Hid (Below wr.heap.size wr w5) := (Below.refl wr.heap.size wr).drew.trans bd5
          have HR5 : Hid (rFrees.rd w5 (fun b => wr.heap.size ≤ b) [.slice g5 xm d5] dk) := hrd5
          have S1 := HSee4.out _ B5.out
          clear hrd5 bd5
          go_simp
          refine hK.out _ _ ?_ (fun hHeld => ?_)
          · try dsimp only
            first | exact S4 | exact S3 | exact S2 | exact S1 | exact S0
          clear hK K
          refine wpAnyH_takeL (i := 21) (v := ?_) rfl rfl (by kernel_rfl) (by kernel_rfl) (by kernel_rfl) (fun _ _ _ h => h) (Or.inl ⟨by rfl, ?_⟩) (by assumption) ?_
          rotate_left
          · intro w hSw
            try dsimp only at hSw
            go_simp
            all_goals with_reducible rfl
          simp only [List.set_cons_zero, List.set_cons_succ]
          refine wpAnyH_ready (rs := [1, 22]) (by kernel_rfl) (by simp) ?_
          refine AllReadyH.cons rfl (fun K hK => ?_) ?_
          · have rv := (HVr.out.below B5.out).cell (j := 1) rfl
            go_simp
            refine hK.out _ _ ?_ (fun hHeld => ?_)
            · try dsimp only
              first | exact S4 | exact S3 | exact S2 | exact S1 | exact S0
            clear hK K
            refine wpAnyH_ready (rs := [22]) (by kernel_rfl) (by simp) ?_
            refine AllReadyH.cons rfl (fun K hK => ?_) ?_
            · go_simp
              have BA : Hid (Below w5.heap.size w5 (w5.alloc (.cells #[.int .i64 id, .string nm, .slice g5 xm d5] 56))) := (Below.refl _ _).alloc (Nat.le_refl _) _
              have S2 := HSee4.out _ (on B5.out BA.out)
              refine hK.out _ _ ?_ (fun hHeld => ?_)
              · try dsimp only
                first | exact S4 | exact S3 | exact S2 | exact S1 | exact S0
              clear hK K
              refine wpAnyH_ready (rs := [23]) (by kernel_rfl) (by simp) ?_
              refine AllReadyH.cons rfl (fun K hK => ?_) ?_
              · refine step_append_rep elem_snpF rfl (.tmp 19) (.tmp 40) rfl w3.heap.size v (l.take k) (by simp [Go.Act.eval]) ((HOr.out.below B5.out).below BA.out) ⟨w5.heap.size, 0, none⟩ [.int .i64 id, .string nm, .slice g5 xm d5] (id, nm, dk) (by simp [Go.Act.eval]) (snp_newT w5 id nm _ _) ?_ ?_ ?_ ?_ ?_
                · exact rSnpF.weaken (snpF_rd HI4.out HNs.out (Rep.below HR5.out BA.out)) (fun b hb _ => ⟨Nat.le_trans HZr.out hb, fun e => by have h1 := (HOr.out.row b e).2; have hb : wr.heap.size ≤ b := hb; omega⟩)
                · rw [List.length_take]; show _ * 48 ≤ _; omega
                · rw [List.length_take]; unfold maxLen; omega
                · exact Nat.le_trans HZr.out (Nat.le_trans B5.out.size BA.out.size)
                intro b6 d6 w6 ho6 g6
                have B56 : Hid (Below wr.heap.size wr (w5.alloc (.cells #[.int .i64 id, .string nm, .slice g5 xm d5] 56))) := on B5.out BA.out
                have HO6 : Hid (Owns rSnpF 56 w6 w3.heap.size (.slice b6 (min k l.length + 1) d6) (l.take (k + 1))) := by unfold Hid; rw [HTk.out, ← List.length_take]; exact ho6
                have K6 : Hid (Kept (fun q => q < w3.heap.size ∧ q ≠ vb) w3 w6) := (HKr.out.on (fun q hq => Nat.lt_of_lt_of_le hq.1 HZr.out) B56.out).grown g6 (fun q hq => Nat.lt_of_lt_of_le hq.1 (Nat.le_trans HZr.out B56.out.size)) (fun j hj hs => by have := (HOr.out.row j hj).1; have := hs.1; omega)
                have hno : ∀ j, v.ownBlock = some j → w3.heap.size ≤ j := fun j hj => (HOr.out.row j hj).1
                have V6 : Hid (Row w6 vb 29 [.slice ua n uc, v, .int .i64 next]) := (HVr.out.below B56.out).keep (g6.block vb (Nat.lt_of_lt_of_le HVr.out.lt B56.out.size) (fun e => by have h1 := hno _ e.symm; have h2 := HVb.out; omega))
                have S3 := HSeeK.out _ K6.out
                clear ho6 g6 hno
                try go_simp
                refine hK.out _ _ ?_ (fun hHeld => ?_)
                · try dsimp only
                  first | exact S4 | exact S3 | exact S2 | exact S1 | exact S0
                clear hK K
                refine wpAnyH_takeL (i := 24) (v := ?_) rfl rfl (by kernel_rfl) (by kernel_rfl) (by kernel_rfl) (fun _ _ _ h => h) (Or.inl ⟨by rfl, ?_⟩) (by assumption) ?_
                rotate_left
                · intro w hSw
                  try dsimp only at hSw
                  go_simp
                  all_goals with_reducible rfl
                simp only [List.set_cons_zero, List.set_cons_succ]
                refine wpAnyH_ready (rs := [25]) (by kernel_rfl) (by simp) ?_
                refine AllReadyH.cons rfl (fun K hK => ?_) ?_
                · have p1 := V6.out.cell (j := 1) rfl
                  have f1 := V6.out.frozen 1
                  have HV7 : Hid (Row (w6.setCell ⟨vb, 1, none⟩ (.slice b6 (min k l.length + 1) d6)) vb 29 [.slice ua n uc, .slice b6 (min k l.length + 1) d6, .int .i64 next]) := V6.out.set 1 _
                  have HO7 : Hid (Owns rSnpF 56 (w6.setCell ⟨vb, 1, none⟩ (.slice b6 (min k l.length + 1) d6)) w3.heap.size (.slice b6 (min k l.length + 1) d6) (l.take (k + 1))) := HO6.out.setCell (p := ⟨vb, 1, none⟩) HVb.out _
                  have K7 : Hid (Kept (fun q => q < w3.heap.size ∧ q ≠ vb) w3 (w6.setCell ⟨vb, 1, none⟩ (.slice b6 (min k l.length + 1) d6))) := K6.out.setCell (p := ⟨vb, 1, none⟩) (fun h => h.2 rfl) _
                  have S4 := HSeeK.out _ K7.out
                  go_simp
                  refine hK.out _ _ ?_ (fun hHeld => ?_)
                  · try dsimp only
                    first | exact S4 | exact S3 | exact S2 | exact S1 | exact S0
                  clear hK K
                  refine wpAnyH_done (by kernel_rfl) ?_ _
                  clear hHeld p1 f1 S4 S3
                  go_wp2
                  go_roundw
                  case rel => exact ⟨k + 1, _, by omega, by go_num, HV7, HO7, K7⟩
                  case measure => simp [intOf]; omega
                exact AllReadyH.nil
              exact AllReadyH.nil
            exact AllReadyH.nil
          refine AllReadyH.cons rfl (fun K hK => ?_) ?_
          · go_simp
            have BA : Hid (Below w5.heap.size w5 (w5.alloc (.cells #[.int .i64 id, .string nm, .slice g5 xm d5] 56))) := (Below.refl _ _).alloc (Nat.le_refl _) _
            have S2 := HSee4.out _ (on B5.out BA.out)
            refine hK.out _ _ ?_ (fun hHeld => ?_)
            · try dsimp only
              first | exact S4 | exact S3 | exact S2 | exact S1 | exact S0
            clear hK K
            refine wpAnyH_ready (rs := [1]) (by kernel_rfl) (by simp) ?_
            refine AllReadyH.cons rfl (fun K hK => ?_) ?_
            · have rv := (HVr.out.below (on B5.out BA.out)).cell (j := 1) rfl
              go_simp
              refine hK.out _ _ ?_ (fun hHeld => ?_)
              · try dsimp only
                first | exact S4 | exact S3 | exact S2 | exact S1 | exact S0
              clear hK K
              refine wpAnyH_ready (rs := [23]) (by kernel_rfl) (by simp) ?_
              refine AllReadyH.cons rfl (fun K hK => ?_) ?_
              · refine step_append_rep elem_snpF rfl (.tmp 19) (.tmp 40) rfl w3.heap.size v (l.take k) (by simp [Go.Act.eval]) ((HOr.out.below B5.out).below BA.out) ⟨w5.heap.size, 0, none⟩ [.int .i64 id, .string nm, .slice g5 xm d5] (id, nm, dk) (by simp [Go.Act.eval]) (snp_newT w5 id nm _ _) ?_ ?_ ?_ ?_ ?_
                · exact rSnpF.weaken (snpF_rd HI4.out HNs.out (Rep.below HR5.out BA.out)) (fun b hb _ => ⟨Nat.le_trans HZr.out hb, fun e => by have h1 := (HOr.out.row b e).2; have hb : wr.heap.size ≤ b := hb; omega⟩)
                · rw [List.length_take]; show _ * 48 ≤ _; omega
                · rw [List.length_take]; unfold maxLen; omega
                · exact Nat.le_trans HZr.out (Nat.le_trans B5.out.size BA.out.size)
                intro b6 d6 w6 ho6 g6
                have B56 : Hid (Below wr.heap.size wr (w5.alloc (.cells #[.int .i64 id, .string nm, .slice g5 xm d5] 56))) := on B5.out BA.out
                have HO6 : Hid (Owns rSnpF 56 w6 w3.heap.size (.slice b6 (min k l.length + 1) d6) (l.take (k + 1))) := by unfold Hid; rw [HTk.out, ← List.length_take]; exact ho6
                have K6 : Hid (Kept (fun q => q < w3.heap.size ∧ q ≠ vb) w3 w6) := (HKr.out.on (fun q hq => Nat.lt_of_lt_of_le hq.1 HZr.out) B56.out).grown g6 (fun q hq => Nat.lt_of_lt_of_le hq.1 (Nat.le_trans HZr.out B56.out.size)) (fun j hj hs => by have := (HOr.out.row j hj).1; have := hs.1; omega)
                have hno : ∀ j, v.ownBlock = some j → w3.heap.size ≤ j := fun j hj => (HOr.out.row j hj).1
                have V6 : Hid (Row w6 vb 29 [.slice ua n uc, v, .int .i64 next]) := (HVr.out.below B56.out).keep (g6.block vb (Nat.lt_of_lt_of_le HVr.out.lt B56.out.size) (fun e => by have h1 := hno _ e.symm; have h2 := HVb.out; omega))
                have S3 := HSeeK.out _ K6.out
                clear ho6 g6 hno
                try go_simp
                refine hK.out _ _ ?_ (fun hHeld => ?_)
                · try dsimp only
                  first | exact S4 | exact S3 | exact S2 | exact S1 | exact S0
                clear hK K
                refine wpAnyH_takeL (i := 24) (v := ?_) rfl rfl (by kernel_rfl) (by kernel_rfl) (by kernel_rfl) (fun _ _ _ h => h) (Or.inl ⟨by rfl, ?_⟩) (by assumption) ?_
                rotate_left
                · intro w hSw
                  try dsimp only at hSw
                  go_simp
                  all_goals with_reducible rfl
                simp only [List.set_cons_zero, List.set_cons_succ]
                refine wpAnyH_ready (rs := [25]) (by kernel_rfl) (by simp) ?_
                refine AllReadyH.cons rfl (fun K hK => ?_) ?_
                · have p1 := V6.out.cell (j := 1) rfl
                  have f1 := V6.out.frozen 1
                  have HV7 : Hid (Row (w6.setCell ⟨vb, 1, none⟩ (.slice b6 (min k l.length + 1) d6)) vb 29 [.slice ua n uc, .slice b6 (min k l.length + 1) d6, .int .i64 next]) := V6.out.set 1 _
                  have HO7 : Hid (Owns rSnpF 56 (w6.setCell ⟨vb, 1, none⟩ (.slice b6 (min k l.length + 1) d6)) w3.heap.size (.slice b6 (min k l.length + 1) d6) (l.take (k + 1))) := HO6.out.setCell (p := ⟨vb, 1, none⟩) HVb.out _
                  have K7 : Hid (Kept (fun q => q < w3.heap.size ∧ q ≠ vb) w3 (w6.setCell ⟨vb, 1, none⟩ (.slice b6 (min k l.length + 1) d6))) := K6.out.setCell (p := ⟨vb, 1, none⟩) (fun h => h.2 rfl) _
                  have S4 := HSeeK.out _ K7.out
                  go_simp
                  refine hK.out _ _ ?_ (fun hHeld => ?_)
                  · try dsimp only
                    first | exact S4 | exact S3 | exact S2 | exact S1 | exact S0
                  clear hK K
                  refine wpAnyH_done (by kernel_rfl) ?_ _
                  clear hHeld p1 f1 S4 S3
                  go_wp2
                  go_roundw
                  case rel => exact ⟨k + 1, _, by omega, by go_num, HV7, HO7, K7⟩
                  case measure => simp [intOf]; omega
                exact AllReadyH.nil
              exact AllReadyH.nil
            exact AllReadyH.nil
          exact AllReadyH.nil
        exact AllReadyH.nil
      · obtain rfl : m = k := by omega
        have HF : Hid (l.take m = l) := List.take_of_length_le (by rw [HM.out]; exact Nat.le_refl _)
        obtain ⟨va, vc, hv, -⟩ := Owns.rd (hs := by decide) HOr.out (by rw [List.length_take]; show _ * 48 ≤ _; omega)
        obtain ⟨vn, hvn⟩ : ∃ vn, (l.take m).length = vn := ⟨_, rfl⟩
        rw [hvn] at hv
        subst hv
        clear hvn
        have p0 := HVr.out.cell (j := 0) rfl
        have p1 := HVr.out.cell (j := 1) rfl
        have p2 := HVr.out.cell (j := 2) rfl
        have HVq : Hid (Row wr w0.heap.size 29 [.slice none 0 0, .slice none 0 0, .int .i64 0]) := HV1.out.below BR.out
        have q0 := HVq.out.cell (j := 0) rfl
        have q1 := HVq.out.cell (j := 1) rfl
        have q2 := HVq.out.cell (j := 2) rfl
        have f0 := HVq.out.frozen 0
        have f1 := HVq.out.frozen 1
        have f2 := HVq.out.frozen 2
        obtain ⟨w9, hw9, V9, K9⟩ := HVq.out.whole3 (.slice ua n uc) (.slice va vn vc) (.int .i64 next)
        have HV9 : Hid _ := V9
        have HK9 : Hid _ := K9
        have HZ1 : Hid (w0.heap.size < w1.heap.size ∧ w.heap.size ≤ w0.heap.size) := by have h := HZ.out; unfold Hid at *; omega
        clear V9 K9
        go_wp2
        have hkk : Kept (fun q => q < w3.heap.size ∧ q ≠ vb ∧ q ≠ w0.heap.size) w3 w9 := (HKr.out.mono (fun q hq => ⟨hq.1, hq.2.1⟩)).trans (HK9.out.mono (fun q hq => hq.2.2))
        refine bodyPost_ret (results_row rfl rfl HV9.out Try.underlying29 rfl (by kernel_rfl)) rfl ⟨_, _, _, w3.heap.size, rfl, ?_, ?_, ?_, ?_, ?_, ?_⟩
        · exact Nat.le_trans B1.out.size BX.out.size
        · exact hkk.size
        · exact ((HOX.out.bounded.keepK hkk (fun q hq => ⟨hq.2, hq.1.2, by have h1 := hq.1.1; have h2 := HZ1.out; omega⟩) (fun q hq => ⟨(HRX.out q hq).2, (HRX.out q hq).1, by have h1 := (HOX.out.row q hq).1; have h2 := HZ1.out; omega⟩)).low B1.out.size).weaken (fun q hq => ⟨Nat.le_trans B1.out.size hq.1.1, hq.2⟩)
        · exact fun q hq => (HRX.out q hq).2
        · have ho := HOr.out
          rw [HF.out] at ho
          exact ho.keep (fun q hq _ => HK9.out.block q (by have h1 := BX.out.size; have h2 := HZ1.out; omega))
        · exact Kept.toBelow ((Kept.below (on B1.out BR.out)).trans (HK9.out.mono (fun q hq => by have hq2 : q < w.heap.size := hq; have h2 := HZ1.out; omega)))
set_option maxRecDepth 20000 in
theorem of_f (w : World) (P : Nat → Prop) (a b : Option Addr) (n c m d : Nat) (s : Sta) (hS : rSta.rd w P [.slice a n c, .slice b m d, .int .i64 s.2.2] s) :
    Calls Try.prog 6 #[.agg #[.slice a n c, .slice b m d, .int .i64 s.2.2]] w fun e w' => ∃ ua uc va vc, e = .returned (.agg #[.slice ua n uc, .slice va m vc, .int .i64 s.2.2]) ∧ rStaF.rd w' (fun q => w.heap.size ≤ q) [.slice ua n uc, .slice va m vc, .int .i64 s.2.2] s ∧ Below w.heap.size w w' := by
  obtain ⟨a', n', c', b', m', d', e, hD, hL, hi⟩ := rSta_cells hS
  simp only [List.cons.injEq, Value.slice.injEq, and_true] at e
  obtain ⟨⟨rfl, rfl, rfl⟩, rfl, rfl, rfl⟩ := e
  have h1 : s.1.length = n := (rL_len hD).1
  have h2 : s.2.1.length = m := (rL_len hL).1
  have h3 : n * 24 ≤ 140737488351232 := (rL_len hD).2.2.2
  have h4 : m * 48 ≤ 140737488351232 := by have h : m * 48 ≤ 140737488351232 := (rL_len hL).2.2.2; exact h
  refine Calls.mono (of_o w P a b n c m d s hS h4 h3) ?_
  rintro e w' ⟨ua, uc, v, hi', rfl, g1, g2, g3, g4, g5, g6⟩
  have r1 := OwnsQ.rdQ (hs := by decide) g3 h1 h3 (fun k hk => ⟨(g3.row k hk).1, g4 k hk⟩)
  obtain ⟨va, vc, e2, r2⟩ := Owns.rd (hs := by decide) g5 (by rw [h2]; exact h4)
  rw [h2] at e2 r2
  refine ⟨ua, uc, va, vc, by rw [e2], ⟨[_], [_, _], rfl, rFrees.weaken r1 (fun q hq _ => hq.1), [_], [_], rfl, rSnpsF.weaken r2 (fun q hq _ => Nat.le_trans g1 hq), rfl, hi⟩, g6⟩
set_option maxRecDepth 20000 in
theorem ofV (w : World) (P : Nat → Prop) (a b : Option Addr) (n c m d : Nat) (t : Int) (s : Sta) (hS : rSta.rd w P [.slice a n c, .slice b m d, .int .i64 t] s) :
    Calls Try.prog 6 #[.agg #[.slice a n c, .slice b m d, .int .i64 t]] w fun e w' => ∃ ua uc va vc, e = .returned (.agg #[.slice ua n uc, .slice va m vc, .int .i64 t]) ∧ rStaF.rd w' (fun q => w.heap.size ≤ q) [.slice ua n uc, .slice va m vc, .int .i64 t] s ∧ Below w.heap.size w w' := by
  obtain ⟨a', n', c', b', m', d', e, -, -, -⟩ := rSta_cells hS
  simp only [List.cons.injEq, Value.slice.injEq, Value.int.injEq, and_true, true_and] at e
  obtain ⟨-, -, rfl⟩ := e
  exact of_f w P a b n c m d s hS
end Go.Proofs.Ytflcojljpbojlab
