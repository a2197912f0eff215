/-
  Facts that the proof rests on, part 19. Conditions: those that each of them names.
-/
import Derived.Test.YtoophkmnppoppaaM09
import Derived.Test.YtoophkmnppoppaaM10
import Derived.Test.YtoophkmnppoppaaM13
import Derived.Test.YtoophkmnppoppaaM17
namespace Go.Proofs.Ytoophkmnppoppaa
set_option maxHeartbeats 16000000
open Go.RowKit
set_option linter.unusedVariables false
theorem OwnsQ.low {α : Type} {A : Rep α} {e : TypeId} {w : World} {base base' : Nat} {Q : Nat → Prop} {v : Value} {l : List α} (h : OwnsQ A e w base Q v l) (hb : base' ≤ base) : OwnsQ A e w base' Q v l := by
 obtain ⟨xs, h1, h2⟩ := h
 exact ⟨xs, qAj h1 hb, h2⟩
theorem OwnsQ.keepK {α : Type} {A : Rep α} {e : TypeId} {w w' : World} {base : Nat} {Q S : Nat → Prop} {v : Value} {l : List α} (h : OwnsQ A e w base Q v l) (k : Kept S w w') (hQ : ∀ b, Q b → S b) (hr : ∀ b, v.ownBlock = some b → S b) : OwnsQ A e w' base Q v l := by
 obtain ⟨xs, h1, h2⟩ := h
 exact ⟨xs, q6J h1 (fun b hb _ _ => k.block b (hr b hb)), q3X (fun b hb _ => k.block b (hQ b hb.1)) h2⟩
theorem OwnsQ.bounded {α : Type} {A : Rep α} {e : TypeId} {w : World} {base : Nat} {Q : Nat → Prop} {v : Value} {l : List α} (h : OwnsQ A e w base Q v l) : OwnsQ A e w base (fun b => Q b ∧ b < w.heap.size) v l := by
 obtain ⟨xs, h1, h2⟩ := h
 exact ⟨xs, h1, q1j (fun b hb hl => ⟨⟨hb.1, hl⟩, hb.2⟩) h2⟩
theorem q3Z : q6q Try.prog 23 67 rSnp := qBQ (z := .agg #[.int .i64 0, .string ByteArray.empty, .slice none 0 0]) Try.underlying23 (by kernel_rfl) rfl rfl rfl (by decide)
theorem q3J (w : World) (id : Int) (nm : ByteArray) (v : Value) (t : TypeId) : ∀ j u, ([.int .i64 id, .string nm, v] : List Value)[j]? = some u → (w.alloc (.cells #[.int .i64 id, .string nm, v] t)).cell? ((⟨w.heap.size, 0, none⟩ : Addr).add j) = some u := q6x w id nm v t
set_option maxRecDepth 20000 in
theorem docOwn_u (w : World) (P : Nat → Prop) (a b : Option Addr) (n c m d : Nat) (s : Sta) (hS : rSta.rd w P [.slice a n c, .slice b m d, .int .i64 s.2.2] s) (hm8 : m ≤ 8) (hn6 : n ≤ 65536) :
 Calls Try.prog 32 #[.agg #[.slice a n c, .slice b m d, .int .i64 s.2.2]] w fun e w' => ∃ u v hi, e = .returned (.agg #[u, v, .int .i64 s.2.2]) ∧ w.heap.size ≤ hi ∧ hi ≤ w'.heap.size ∧ OwnsQ rBytes 26 w' w.heap.size (fun q => w.heap.size ≤ q ∧ q < hi) u s.1 ∧ (∀ k, u.ownBlock = some k → k < hi) ∧ Owns rSnp 67 w' hi v s.2.1 ∧ Below w.heap.size w w' := by
 obtain ⟨a', n', c', b', m', d', e, hD, hL, hi⟩ := q0X hS
 simp only [List.cons.injEq, Value.slice.injEq, and_true] at e
 obtain ⟨⟨rfl, rfl, rfl⟩, rfl, rfl, rfl⟩ := e
 obtain ⟨D, l, next⟩ := s
 simp only at hD hL hi ⊢
 have HDl : Hid (D.length = n) := (q0Q hD).1
 have HM : Hid (l.length = m) := (q0Q hL).1
 obtain ⟨w0, hw0, V0, b0, z0⟩ := q0q w 25 [.slice a n c, .slice b m d, .int .i64 next]
 obtain ⟨w1, hw1, V1, b1, z1⟩ := q0q w0 25 [.slice none 0 0, .slice none 0 0, .int .i64 0]
 have HV0 : Hid (Row w1 w.heap.size 25 [.slice a n c, .slice b m d, .int .i64 next]) := V0.below b1
 have HV1 : Hid _ := V1
 have B1 : Hid (Below w.heap.size w w1) := on b0 b1
 have HZ : Hid (w0.heap.size = w.heap.size + 1 ∧ w1.heap.size = w.heap.size + 2) := ⟨z0, by omega⟩
 have HD1 : Hid (rSectors.rd w1 P [.slice a n c] D) := Rep.below hD B1.out
 have HL1 : Hid (rSnps.rd w1 P [.slice b m d] l) := Rep.below hL B1.out
 have HSee : Hid (∀ w', Below w1.heap.size w1 w' → w'.cell? ⟨w.heap.size, 0, none⟩ = some (.slice a n c) ∧ w'.cell? ⟨w.heap.size, 2, none⟩ = some (.int .i64 next)) := fun w' hb => ⟨(HV0.out.below hb).cell (j := 0) rfl, (HV0.out.below hb).cell (j := 2) rfl⟩
 have S0 := HSee.out _ (Below.refl _ w1).drew
 have HI : Hid _ := hi
 clear hS hD hL V0 V1 b0 b1 z0 z1 hi
 go_enter Try.func32, Try.ntmps32
 go_wp2_with fail
 go_cut [3] (fun t wx => ∃ vb ua uc, t = .pointer (some ⟨vb, 0, none⟩) ∧ w1.heap.size ≤ vb ∧ Hid (Row wx vb 25 [.slice ua n uc, .slice none 0 0, .int .i64 next]) ∧ Hid (OwnsQ rBytes 26 wx w1.heap.size (fun q => w1.heap.size ≤ q ∧ q ≠ vb) (.slice ua n uc) D) ∧ Hid (∀ k, (Value.slice ua n uc).ownBlock = some k → k ≠ vb ∧ k < wx.heap.size) ∧ Hid (Below w1.heap.size w1 wx))
 case first =>
  refine wp_region_held_drew (S := (fun w' : World => w'.cell? ⟨w.heap.size, 0, none⟩ = some (.slice a n c) ∧ w'.cell? ⟨w.heap.size, 2, none⟩ = some (.int .i64 next))) (by kernel_rfl) (S0) (fun hH => ?_)
  refine tkM 0 _ rfl rfl ?_; simp only [sz, ss]
  refine tkM 1 _ rfl rfl ?_; simp only [sz, ss]
  refine tkM 3 _ rfl rfl ?_; simp only [sz, ss]
  refine tkM 4 _ rfl rfl ?_; simp only [sz, ss]
  refine rdL [2, 6] ?_
  refine rcL (fun K hK => ?_) ?_
  · go_simp
    go_at_call 52
    refine Calls.mono (qCQ w1.drew P a n c D (rSectors.keep HD1.out (fun _ _ _ => rfl))) ?_
    rintro e w2 ⟨u, rfl, ho, bd⟩
    have B2 : Hid (Below w1.heap.size w1 w2) := (Below.refl _ w1).drew.trans bd
    obtain ⟨ua, uc, hu, -⟩ := Owns.rd (hs := by decide) ho (by show _ * 24 ≤ _; rw [HDl.out]; omega)
    rw [HDl.out] at hu
    subst hu
    have HO2 : Hid (OwnsQ rBytes 26 w2 w1.heap.size (fun q => w1.heap.size ≤ q ∧ q < w2.heap.size) (.slice ua n uc) D) := (Owns.toQ2 ho (fun q => w1.heap.size ≤ q ∧ q < w2.heap.size) (fun q h1 h2 => ⟨h1, h2⟩) (Below.refl _ _)).low (Nat.le_refl _)
    have S2 := HSee.out _ B2.out
    have HRw2 : Hid (∀ k, (Value.slice ua n uc).ownBlock = some k → k < w2.heap.size) := fun k hk => (ho.row k hk).2
    clear ho bd
    go_simp
    refine hK.out _ _ ?_ (fun hH => ?_)
    · try dsimp only
      first | exact S4 | exact S3 | exact S2 | exact S0
    clear hK K
    refine tkM 5 _ rfl rfl ?_; simp only [sz, ss]
    refine r1L 6 rfl fun K hK => ?_
    · go_simp
      obtain ⟨wB, hwB, vB, bB, zB⟩ := q0q w2 25 [.slice none 0 0, .slice none 0 0, .int .i64 0]
      obtain ⟨vb, hvb⟩ : ∃ vb, vb = w2.heap.size := ⟨_, rfl⟩
      have BA : Hid _ := on B2.out bB
      have HVb : Hid (w1.heap.size ≤ vb) := by rw [hvb]; exact B2.out.size
      have hvb' : w2.heap.size = vb := hvb.symm
      have VA : Hid (Row wB vb 25 [.slice none 0 0, .slice none 0 0, .int .i64 0]) := by rw [hvb]; exact vB.keep rfl
      have VM := VA
      have BM := BA
      have HRw : Hid (∀ k, (Value.slice ua n uc).ownBlock = some k → k ≠ vb ∧ k < wB.heap.size) := fun k hk => by have h1 := HRw2.out k hk; have h2 := bB.size; rw [hvb]; exact ⟨by omega, by omega⟩
      have HOf : Hid (OwnsQ rBytes 26 wB w1.heap.size (fun q => w1.heap.size ≤ q ∧ q ≠ vb) (.slice ua n uc) D) := by rw [hvb]; exact (HO2.out.below bB).weaken (fun q hq => ⟨hq.1, by omega⟩)
      have S3 := HSee.out _ BA.out
      clear vB zB hvb bB
      rw [hwB, hvb']
      go_simp
      refine hK.out _ _ ?_ (fun hH => ?_)
      · try dsimp only
        first | exact S4 | exact S3 | exact S2 | exact S0
      clear hK K
      refine r1L 7 rfl fun K hK => ?_
      · have p0 := VM.out.cell (j := 0) rfl
        have p1 := VM.out.cell (j := 1) rfl
        have p2 := VM.out.cell (j := 2) rfl
        have f0 := VM.out.frozen 0
        have f1 := VM.out.frozen 1
        have f2 := VM.out.frozen 2
        obtain ⟨wX, hwX, VX, KX⟩ := VM.out.whole3 (.slice ua n uc) (.slice none 0 0) (.int .i64 next)
        have HVX : Hid _ := VX
        have HKX : Hid _ := KX
        have BX : Hid (Below w1.heap.size w1 wX) := Kept.belowOf BM.out KX HVb.out
        have S4 := HSee.out _ BX.out
        clear VX KX
        go_simp
        refine hK.out _ _ ?_ (fun hH => ?_)
        · try dsimp only
          first | exact S4 | exact S3 | exact S2 | exact S0
        clear hK K
        refine wpAnyH_done (by kernel_rfl) ?_ _
        clear hH S4
        go_wp2_with fail
        go_meet
        exact ⟨vb, ua, uc, rfl, HVb.out, HVX, HOf.out.keepK HKX.out (fun q hq => hq.2) (fun k hk => (HRw.out k hk).1), fun k hk => ⟨(HRw.out k hk).1, Nat.lt_of_lt_of_le (HRw.out k hk).2 HKX.out.size⟩, BX⟩
  refine rcL (fun K hK => ?_) ?_
  · go_simp
    obtain ⟨wB, hwB, vB, bB, zB⟩ := q0q w1 25 [.slice none 0 0, .slice none 0 0, .int .i64 0]
    obtain ⟨vb, hvb⟩ : ∃ vb, vb = w1.heap.size := ⟨_, rfl⟩
    have BA : Hid (Below w1.heap.size w1 wB.drew) := Below.drew bB
    have HVb : Hid (w1.heap.size ≤ vb) := by rw [hvb]; exact Nat.le_refl _
    have hvb' : w1.heap.size = vb := hvb.symm
    have VA : Hid (Row wB.drew vb 25 [.slice none 0 0, .slice none 0 0, .int .i64 0]) := by rw [hvb]; exact vB.keep rfl
    have HVl : Hid (vb < wB.drew.heap.size) := by rw [hvb]; exact Nat.lt_of_succ_le (Nat.le_of_eq zB.symm)
    have S3 := HSee.out _ BA.out
    clear vB zB hvb bB
    rw [hwB, hvb']
    refine hK.out _ _ ?_ (fun hH => ?_)
    · try dsimp only
      first | exact S4 | exact S3 | exact S2 | exact S0
    clear hK K
    refine r1L 2 rfl fun K hK => ?_
    · go_simp
      go_at_call 52
      refine Calls.mono (qCQ wB.drew P a n c D (Rep.below HD1.out BA.out)) ?_
      rintro e w2 ⟨u, rfl, ho, bd⟩
      have B2 : Hid _ := on BA.out bd
      obtain ⟨ua, uc, hu, -⟩ := Owns.rd (hs := by decide) ho (by show _ * 24 ≤ _; rw [HDl.out]; omega)
      rw [HDl.out] at hu
      subst hu
      have HO2 : Hid (OwnsQ rBytes 26 w2 w1.heap.size (fun q => w1.heap.size ≤ q ∧ q ≠ vb) (.slice ua n uc) D) := (Owns.toQ2 ho (fun q => w1.heap.size ≤ q ∧ q ≠ vb) (fun q h1 h2 => ⟨Nat.le_trans BA.out.size h1, fun e => by have := HVl.out; omega⟩) (Below.refl _ _)).low BA.out.size
      have S2 := HSee.out _ B2.out
      have VM : Hid _ := VA.out.below bd
      have BM : Hid _ := on BA.out bd
      have HRw : Hid (∀ k, (Value.slice ua n uc).ownBlock = some k → k ≠ vb ∧ k < w2.heap.size) := fun k hk => by have h1 := ho.row k hk; have h2 := HVl.out; exact ⟨by omega, h1.2⟩
      have HOf : Hid (OwnsQ rBytes 26 w2 w1.heap.size (fun q => w1.heap.size ≤ q ∧ q ≠ vb) (.slice ua n uc) D) := HO2.out
      clear ho bd
      go_simp
      refine hK.out _ _ ?_ (fun hH => ?_)
      · try dsimp only
        first | exact S4 | exact S3 | exact S2 | exact S0
      clear hK K
      refine tkM 5 _ rfl rfl ?_; simp only [sz, ss]
      refine r1L 7 rfl fun K hK => ?_
      · have p0 := VM.out.cell (j := 0) rfl
        have p1 := VM.out.cell (j := 1) rfl
        have p2 := VM.out.cell (j := 2) rfl
        have f0 := VM.out.frozen 0
        have f1 := VM.out.frozen 1
        have f2 := VM.out.frozen 2
        obtain ⟨wX, hwX, VX, KX⟩ := VM.out.whole3 (.slice ua n uc) (.slice none 0 0) (.int .i64 next)
        have HVX : Hid _ := VX
        have HKX : Hid _ := KX
        have BX : Hid (Below w1.heap.size w1 wX) := Kept.belowOf BM.out KX HVb.out
        have S4 := HSee.out _ BX.out
        clear VX KX
        go_simp
        refine hK.out _ _ ?_ (fun hH => ?_)
        · try dsimp only
          first | exact S4 | exact S3 | exact S2 | exact S0
        clear hK K
        refine wpAnyH_done (by kernel_rfl) ?_ _
        clear hH S4
        go_wp2_with fail
        go_meet
        exact ⟨vb, ua, uc, rfl, HVb.out, HVX, HOf.out.keepK HKX.out (fun q hq => hq.2) (fun k hk => (HRw.out k hk).1), fun k hk => ⟨(HRw.out k hk).1, Nat.lt_of_lt_of_le (HRw.out k hk).2 HKX.out.size⟩, BX⟩
  exact rnL
 case rest =>
  obtain ⟨vb, ua, uc, rfl, hvb, HVX, HOX, HRX, BX⟩ := hcut
  obtain ⟨w3, hw3⟩ : ∃ w3, w3 = wc := ⟨_, rfl⟩
  subst hw3
  have HVb : Hid (vb < w3.heap.size) := HVX.out.lt
  have HVb1 : Hid (w1.heap.size ≤ vb) := hvb
  clear S0 hvb
  have c1 := (HV0.out.below BX.out).cell (j := 1) rfl
  go_wp2
  clear c1
  go_loopw [4] (fun i wr => ∃ (k : Nat) (v : Value), k ≤ m ∧ i = .int .i64 k ∧ Hid (Row wr vb 25 [.slice ua n uc, v, .int .i64 next]) ∧ Hid (Owns rSnp 67 wr w3.heap.size v (l.take k)) ∧ Hid (Kept (fun q => q < w3.heap.size ∧ q ≠ vb) w3 wr)) (fun i _ => m - (intOf i).toNat)
  case atStart => exact ⟨0, _, Nat.zero_le _, rfl, HVX.out, Owns.nil _ _ _ _, Kept.refl _ _⟩
  case round =>
   obtain ⟨k, v, hk, rfl, HVr, HOr, HKr⟩ := hrel
   have HZr : Hid (w3.heap.size ≤ wr.heap.size) := HKr.out.size
   have BR : Hid (Below w1.heap.size w1 wr) := BX.out.trans (Kept.toBelow (HKr.out.mono (fun q hq => ⟨Nat.lt_of_lt_of_le hq BX.out.size, fun e => by have h1 := HVb1.out; have hq2 : q < w1.heap.size := hq; omega⟩)))
   have c1 := (HV0.out.below BR.out).cell (j := 1) rfl
   by_cases hlt : k < m
   · have hkl : k < l.length := by rw [HM.out]; exact hlt
     obtain ⟨gl, off, rfl, -, hgl, hat⟩ := q1J HL1.out (by omega)
     obtain ⟨x, xm, xd, hX, hXl, e0, e1, e2, hid, hs⟩ := hat k hkl
     have HTk : Hid (l.take (k + 1) = l.take k ++ [(l[k].1, l[k].2.1, l[k].2.2)]) := List.take_succ_eq_append_getElem hkl
     have hkz : (k : Int) < (m : Int) := by omega
     obtain ⟨id, hidE⟩ : ∃ id, id = l[k].1 := ⟨_, rfl⟩
     obtain ⟨nm, hnmE⟩ : ∃ nm, nm = l[k].2.1 := ⟨_, rfl⟩
     obtain ⟨dk, hdkE⟩ : ∃ dk, dk = l[k].2.2 := ⟨_, rfl⟩
     rw [← hidE, ← hnmE, ← hdkE] at HTk
     rw [← hidE] at e0 hid
     rw [← hnmE] at e1 hs
     rw [← hdkE] at hX hXl
     have HX4 : Hid (rSectors.rd wr.drew P [.slice x xm xd] dk) := rSectors.keep (Rep.below hX BR.out) (fun _ _ _ => rfl)
     have HNs : Hid (nm.size ≤ maxLen) := hs
     have HI4 : Hid (-9223372036854775808 ≤ id ∧ id ≤ 9223372036854775807) := hid
     have HC : Hid (∀ w', Below w1.heap.size w1 w' → w'.cell? ⟨w.heap.size, 1, none⟩ = some (.slice (some ⟨gl, off, none⟩) m d) ∧ w'.cell? ⟨gl, off + k * 3, none⟩ = some (.int .i64 id) ∧ w'.cell? ⟨gl, off + k * 3 + 1, none⟩ = some (.string nm) ∧ w'.cell? ⟨gl, off + k * 3 + 2, none⟩ = some (.slice x xm xd)) := fun w' hb => ⟨(HV0.out.below hb).cell (j := 1) rfl, (hb.cell (p := ⟨gl, off + k * 3, none⟩) hgl).trans e0, (hb.cell (p := ⟨gl, off + k * 3 + 1, none⟩) hgl).trans e1, (hb.cell (p := ⟨gl, off + k * 3 + 2, none⟩) hgl).trans e2⟩
     have HSee4 : Hid (∀ w', Below wr.heap.size wr w' → w'.cell? ⟨w.heap.size, 1, none⟩ = some (.slice (some ⟨gl, off, none⟩) m d) ∧ w'.cell? ⟨gl, off + k * 3, none⟩ = some (.int .i64 id) ∧ w'.cell? ⟨gl, off + k * 3 + 1, none⟩ = some (.string nm) ∧ w'.cell? ⟨gl, off + k * 3 + 2, none⟩ = some (.slice x xm xd)) := fun w' hb => HC.out w' (BR.out.trans (hb.mono BR.out.size))
     have HSeeK : Hid (∀ w', Kept (fun q => q < w3.heap.size ∧ q ≠ vb) w3 w' → w'.cell? ⟨w.heap.size, 1, none⟩ = some (.slice (some ⟨gl, off, none⟩) m d) ∧ w'.cell? ⟨gl, off + k * 3, none⟩ = some (.int .i64 id) ∧ w'.cell? ⟨gl, off + k * 3 + 1, none⟩ = some (.string nm) ∧ w'.cell? ⟨gl, off + k * 3 + 2, none⟩ = some (.slice x xm xd)) := fun w' hk => HC.out w' (BX.out.trans (Kept.toBelow (hk.mono (fun q hq => ⟨Nat.lt_of_lt_of_le hq BX.out.size, fun e => by have h1 := HVb1.out; have hq2 : q < w1.heap.size := hq; omega⟩))))
     have S0 := HSee4.out _ (Below.refl _ wr).drew
     clear hidE hnmE hdkE hat hX hXl hs hid e0 e1 e2 hgl
     go_wp2_with fail
     refine wp_region_held_drew (S := (fun w' : World => w'.cell? ⟨w.heap.size, 1, none⟩ = some (.slice (some ⟨gl, off, none⟩) m d) ∧ w'.cell? ⟨gl, off + k * 3, none⟩ = some (.int .i64 id) ∧ w'.cell? ⟨gl, off + k * 3 + 1, none⟩ = some (.string nm) ∧ w'.cell? ⟨gl, off + k * 3 + 2, none⟩ = some (.slice x xm xd))) (by kernel_rfl) (S0) (fun hH => ?_)
     refine tkM 0 _ rfl rfl ?_; simp only [sz, ss]
     refine tkM 2 _ rfl rfl ?_; simp only [sz, ss]
     refine tkM 3 _ rfl rfl ?_; simp only [sz, ss]
     refine tkM 4 _ rfl rfl ?_; simp only [sz, ss]
     refine tkM 5 _ rfl rfl ?_; simp only [sz, ss]
     refine tkM 6 _ rfl rfl ?_; simp only [sz, ss]
     refine tkM 7 _ rfl rfl ?_; simp only [sz, ss]
     refine tkM 8 _ rfl rfl ?_; simp only [sz, ss]
     refine tkM 9 _ rfl rfl ?_; simp only [sz, ss]
     refine tkM 10 _ rfl rfl ?_; simp only [sz, ss]
     refine tkM 11 _ rfl rfl ?_; simp only [sz, ss]
     refine tkM 12 _ rfl rfl ?_; simp only [sz, ss]
     refine tkM 13 _ rfl rfl ?_; simp only [sz, ss]
     refine tkM 14 _ rfl rfl ?_; simp only [sz, ss]
     refine tkM 15 _ rfl rfl ?_; simp only [sz, ss]
     refine tkM 16 _ rfl rfl ?_; simp only [sz, ss]
     refine tkM 17 _ rfl rfl ?_; simp only [sz, ss]
     refine tkM 18 _ rfl rfl ?_; simp only [sz, ss]
     refine tkM 19 _ rfl rfl ?_; simp only [sz, ss]
     refine rdL [1, 20] ?_
     refine rcL (fun K hK => ?_) ?_
     · have rv := (HVr.out.below (Below.refl _ wr).drew).cell (j := 1) rfl
       go_simp
       refine hK.out _ _ ?_ (fun hH => ?_)
       · try dsimp only
         first | exact S4 | exact S3 | exact S2 | exact S1 | exact S0
       clear hK K
       refine r1L 20 rfl fun K hK => ?_
       · go_simp
         go_at_call 52
         refine Calls.mono (q4Q wr.drew P x xm xd dk HX4.out) ?_
         rintro e w5 ⟨g5, d5, rfl, hrd5, bd5⟩
         have B5 : Hid (Below wr.heap.size wr w5) := (Below.refl wr.heap.size wr).drew.trans bd5
         have HR5 : Hid (rSectors.rd w5 (fun b => wr.heap.size ≤ b) [.slice g5 xm d5] dk) := hrd5
         have S1 := HSee4.out _ B5.out
         clear hrd5 bd5
         go_simp
         refine hK.out _ _ ?_ (fun hH => ?_)
         · try dsimp only
           first | exact S4 | exact S3 | exact S2 | exact S1 | exact S0
         clear hK K
         refine tkM 21 _ rfl rfl ?_; simp only [sz, ss]
         refine r1L 22 rfl fun K hK => ?_
         · go_simp
           have BA : Hid (Below w5.heap.size w5 (w5.alloc (.cells #[.int .i64 id, .string nm, .slice g5 xm d5] 67))) := (Below.refl _ _).alloc (Nat.le_refl _) _
           have S2 := HSee4.out _ (on B5.out BA.out)
           refine hK.out _ _ ?_ (fun hH => ?_)
           · try dsimp only
             first | exact S4 | exact S3 | exact S2 | exact S1 | exact S0
           clear hK K
           refine r1L 23 rfl fun K hK => ?_
           · refine q0J q3Z rfl (.tmp 19) (.tmp 40) rfl w3.heap.size v (l.take k) (by simp [Go.Act.eval]) ((HOr.out.below B5.out).below BA.out) ⟨w5.heap.size, 0, none⟩ [.int .i64 id, .string nm, .slice g5 xm d5] (id, nm, dk) (by simp [Go.Act.eval]) (q3J w5 id nm _ _) ?_ ?_ ?_ ?_ ?_
             · exact rSnp.weaken (q4j HI4.out HNs.out (Rep.below HR5.out BA.out)) (fun b hb _ => ⟨Nat.le_trans HZr.out hb, fun e => by have h1 := (HOr.out.row b e).2; have hb : wr.heap.size ≤ b := hb; omega⟩)
             · rw [List.length_take]; show _ * 48 ≤ _; omega
             · rw [List.length_take]; unfold maxLen; omega
             · exact Nat.le_trans HZr.out (Nat.le_trans B5.out.size BA.out.size)
             intro b6 d6 w6 ho6 g6
             have B56 : Hid _ := on B5.out BA.out
             have HO6 : Hid (Owns rSnp 67 w6 w3.heap.size (.slice b6 (min k l.length + 1) d6) (l.take (k + 1))) := by unfold Hid; rw [HTk.out, ← List.length_take]; exact ho6
             have K6 : Hid (Kept (fun q => q < w3.heap.size ∧ q ≠ vb) w3 w6) := (HKr.out.on (fun q hq => Nat.lt_of_lt_of_le hq.1 HZr.out) B56.out).grown g6 (fun q hq => Nat.lt_of_lt_of_le hq.1 (Nat.le_trans HZr.out B56.out.size)) (fun j hj hs => by have := (HOr.out.row j hj).1; have := hs.1; omega)
             have hno : ∀ j, v.ownBlock = some j → w3.heap.size ≤ j := fun j hj => (HOr.out.row j hj).1
             have V6 : Hid (Row w6 vb 25 [.slice ua n uc, v, .int .i64 next]) := (HVr.out.below B56.out).keep (g6.block vb (Nat.lt_of_lt_of_le HVr.out.lt B56.out.size) (fun e => by have h1 := hno _ e.symm; have h2 := HVb.out; omega))
             have S3 := HSeeK.out _ K6.out
             clear ho6 g6 hno
             try go_simp
             refine hK.out _ _ ?_ (fun hH => ?_)
             · try dsimp only
               first | exact S4 | exact S3 | exact S2 | exact S1 | exact S0
             clear hK K
             refine tkM 24 _ rfl rfl ?_; simp only [sz, ss]
             refine r1L 25 rfl fun K hK => ?_
             · have p1 := V6.out.cell (j := 1) rfl
               have f1 := V6.out.frozen 1
               have HV7 : Hid (Row (w6.setCell ⟨vb, 1, none⟩ (.slice b6 (min k l.length + 1) d6)) vb 25 [.slice ua n uc, .slice b6 (min k l.length + 1) d6, .int .i64 next]) := V6.out.set 1 _
               have HO7 : Hid (Owns rSnp 67 (w6.setCell ⟨vb, 1, none⟩ (.slice b6 (min k l.length + 1) d6)) w3.heap.size (.slice b6 (min k l.length + 1) d6) (l.take (k + 1))) := HO6.out.setCell (p := ⟨vb, 1, none⟩) HVb.out _
               have K7 : Hid (Kept (fun q => q < w3.heap.size ∧ q ≠ vb) w3 (w6.setCell ⟨vb, 1, none⟩ (.slice b6 (min k l.length + 1) d6))) := K6.out.setCell (p := ⟨vb, 1, none⟩) (fun h => h.2 rfl) _
               have S4 := HSeeK.out _ K7.out
               go_simp
               refine hK.out _ _ ?_ (fun hH => ?_)
               · try dsimp only
                 first | exact S4 | exact S3 | exact S2 | exact S1 | exact S0
               clear hK K
               refine wpAnyH_done (by kernel_rfl) ?_ _
               clear hH p1 f1 S4 S3
               go_wp2
               go_roundw
               case rel => exact ⟨k + 1, _, by omega, by go_num, HV7, HO7, K7⟩
               case measure => simp [intOf]; omega
     refine rcL (fun K hK => ?_) ?_
     · go_simp
       go_at_call 52
       refine Calls.mono (q4Q wr.drew P x xm xd dk HX4.out) ?_
       rintro e w5 ⟨g5, d5, rfl, hrd5, bd5⟩
       have B5 : Hid (Below wr.heap.size wr w5) := (Below.refl wr.heap.size wr).drew.trans bd5
       have HR5 : Hid (rSectors.rd w5 (fun b => wr.heap.size ≤ b) [.slice g5 xm d5] dk) := hrd5
       have S1 := HSee4.out _ B5.out
       clear hrd5 bd5
       go_simp
       refine hK.out _ _ ?_ (fun hH => ?_)
       · try dsimp only
         first | exact S4 | exact S3 | exact S2 | exact S1 | exact S0
       clear hK K
       refine tkM 21 _ rfl rfl ?_; simp only [sz, ss]
       refine rdL [1, 22] ?_
       refine rcL (fun K hK => ?_) ?_
       · have rv := (HVr.out.below B5.out).cell (j := 1) rfl
         go_simp
         refine hK.out _ _ ?_ (fun hH => ?_)
         · try dsimp only
           first | exact S4 | exact S3 | exact S2 | exact S1 | exact S0
         clear hK K
         refine r1L 22 rfl fun K hK => ?_
         · go_simp
           have BA : Hid (Below w5.heap.size w5 (w5.alloc (.cells #[.int .i64 id, .string nm, .slice g5 xm d5] 67))) := (Below.refl _ _).alloc (Nat.le_refl _) _
           have S2 := HSee4.out _ (on B5.out BA.out)
           refine hK.out _ _ ?_ (fun hH => ?_)
           · try dsimp only
             first | exact S4 | exact S3 | exact S2 | exact S1 | exact S0
           clear hK K
           refine r1L 23 rfl fun K hK => ?_
           · refine q0J q3Z rfl (.tmp 19) (.tmp 40) rfl w3.heap.size v (l.take k) (by simp [Go.Act.eval]) ((HOr.out.below B5.out).below BA.out) ⟨w5.heap.size, 0, none⟩ [.int .i64 id, .string nm, .slice g5 xm d5] (id, nm, dk) (by simp [Go.Act.eval]) (q3J w5 id nm _ _) ?_ ?_ ?_ ?_ ?_
             · exact rSnp.weaken (q4j HI4.out HNs.out (Rep.below HR5.out BA.out)) (fun b hb _ => ⟨Nat.le_trans HZr.out hb, fun e => by have h1 := (HOr.out.row b e).2; have hb : wr.heap.size ≤ b := hb; omega⟩)
             · rw [List.length_take]; show _ * 48 ≤ _; omega
             · rw [List.length_take]; unfold maxLen; omega
             · exact Nat.le_trans HZr.out (Nat.le_trans B5.out.size BA.out.size)
             intro b6 d6 w6 ho6 g6
             have B56 : Hid _ := on B5.out BA.out
             have HO6 : Hid (Owns rSnp 67 w6 w3.heap.size (.slice b6 (min k l.length + 1) d6) (l.take (k + 1))) := by unfold Hid; rw [HTk.out, ← List.length_take]; exact ho6
             have K6 : Hid (Kept (fun q => q < w3.heap.size ∧ q ≠ vb) w3 w6) := (HKr.out.on (fun q hq => Nat.lt_of_lt_of_le hq.1 HZr.out) B56.out).grown g6 (fun q hq => Nat.lt_of_lt_of_le hq.1 (Nat.le_trans HZr.out B56.out.size)) (fun j hj hs => by have := (HOr.out.row j hj).1; have := hs.1; omega)
             have hno : ∀ j, v.ownBlock = some j → w3.heap.size ≤ j := fun j hj => (HOr.out.row j hj).1
             have V6 : Hid (Row w6 vb 25 [.slice ua n uc, v, .int .i64 next]) := (HVr.out.below B56.out).keep (g6.block vb (Nat.lt_of_lt_of_le HVr.out.lt B56.out.size) (fun e => by have h1 := hno _ e.symm; have h2 := HVb.out; omega))
             have S3 := HSeeK.out _ K6.out
             clear ho6 g6 hno
             try go_simp
             refine hK.out _ _ ?_ (fun hH => ?_)
             · try dsimp only
               first | exact S4 | exact S3 | exact S2 | exact S1 | exact S0
             clear hK K
             refine tkM 24 _ rfl rfl ?_; simp only [sz, ss]
             refine r1L 25 rfl fun K hK => ?_
             · have p1 := V6.out.cell (j := 1) rfl
               have f1 := V6.out.frozen 1
               have HV7 : Hid (Row (w6.setCell ⟨vb, 1, none⟩ (.slice b6 (min k l.length + 1) d6)) vb 25 [.slice ua n uc, .slice b6 (min k l.length + 1) d6, .int .i64 next]) := V6.out.set 1 _
               have HO7 : Hid (Owns rSnp 67 (w6.setCell ⟨vb, 1, none⟩ (.slice b6 (min k l.length + 1) d6)) w3.heap.size (.slice b6 (min k l.length + 1) d6) (l.take (k + 1))) := HO6.out.setCell (p := ⟨vb, 1, none⟩) HVb.out _
               have K7 : Hid (Kept (fun q => q < w3.heap.size ∧ q ≠ vb) w3 (w6.setCell ⟨vb, 1, none⟩ (.slice b6 (min k l.length + 1) d6))) := K6.out.setCell (p := ⟨vb, 1, none⟩) (fun h => h.2 rfl) _
               have S4 := HSeeK.out _ K7.out
               go_simp
               refine hK.out _ _ ?_ (fun hH => ?_)
               · try dsimp only
                 first | exact S4 | exact S3 | exact S2 | exact S1 | exact S0
               clear hK K
               refine wpAnyH_done (by kernel_rfl) ?_ _
               clear hH p1 f1 S4 S3
               go_wp2
               go_roundw
               case rel => exact ⟨k + 1, _, by omega, by go_num, HV7, HO7, K7⟩
               case measure => simp [intOf]; omega
       refine rcL (fun K hK => ?_) ?_
       · go_simp
         have BA : Hid (Below w5.heap.size w5 (w5.alloc (.cells #[.int .i64 id, .string nm, .slice g5 xm d5] 67))) := (Below.refl _ _).alloc (Nat.le_refl _) _
         have S2 := HSee4.out _ (on B5.out BA.out)
         refine hK.out _ _ ?_ (fun hH => ?_)
         · try dsimp only
           first | exact S4 | exact S3 | exact S2 | exact S1 | exact S0
         clear hK K
         refine r1L 1 rfl fun K hK => ?_
         · have rv := (HVr.out.below (on B5.out BA.out)).cell (j := 1) rfl
           go_simp
           refine hK.out _ _ ?_ (fun hH => ?_)
           · try dsimp only
             first | exact S4 | exact S3 | exact S2 | exact S1 | exact S0
           clear hK K
           refine r1L 23 rfl fun K hK => ?_
           · refine q0J q3Z rfl (.tmp 19) (.tmp 40) rfl w3.heap.size v (l.take k) (by simp [Go.Act.eval]) ((HOr.out.below B5.out).below BA.out) ⟨w5.heap.size, 0, none⟩ [.int .i64 id, .string nm, .slice g5 xm d5] (id, nm, dk) (by simp [Go.Act.eval]) (q3J w5 id nm _ _) ?_ ?_ ?_ ?_ ?_
             · exact rSnp.weaken (q4j HI4.out HNs.out (Rep.below HR5.out BA.out)) (fun b hb _ => ⟨Nat.le_trans HZr.out hb, fun e => by have h1 := (HOr.out.row b e).2; have hb : wr.heap.size ≤ b := hb; omega⟩)
             · rw [List.length_take]; show _ * 48 ≤ _; omega
             · rw [List.length_take]; unfold maxLen; omega
             · exact Nat.le_trans HZr.out (Nat.le_trans B5.out.size BA.out.size)
             intro b6 d6 w6 ho6 g6
             have B56 : Hid _ := on B5.out BA.out
             have HO6 : Hid (Owns rSnp 67 w6 w3.heap.size (.slice b6 (min k l.length + 1) d6) (l.take (k + 1))) := by unfold Hid; rw [HTk.out, ← List.length_take]; exact ho6
             have K6 : Hid (Kept (fun q => q < w3.heap.size ∧ q ≠ vb) w3 w6) := (HKr.out.on (fun q hq => Nat.lt_of_lt_of_le hq.1 HZr.out) B56.out).grown g6 (fun q hq => Nat.lt_of_lt_of_le hq.1 (Nat.le_trans HZr.out B56.out.size)) (fun j hj hs => by have := (HOr.out.row j hj).1; have := hs.1; omega)
             have hno : ∀ j, v.ownBlock = some j → w3.heap.size ≤ j := fun j hj => (HOr.out.row j hj).1
             have V6 : Hid (Row w6 vb 25 [.slice ua n uc, v, .int .i64 next]) := (HVr.out.below B56.out).keep (g6.block vb (Nat.lt_of_lt_of_le HVr.out.lt B56.out.size) (fun e => by have h1 := hno _ e.symm; have h2 := HVb.out; omega))
             have S3 := HSeeK.out _ K6.out
             clear ho6 g6 hno
             try go_simp
             refine hK.out _ _ ?_ (fun hH => ?_)
             · try dsimp only
               first | exact S4 | exact S3 | exact S2 | exact S1 | exact S0
             clear hK K
             refine tkM 24 _ rfl rfl ?_; simp only [sz, ss]
             refine r1L 25 rfl fun K hK => ?_
             · have p1 := V6.out.cell (j := 1) rfl
               have f1 := V6.out.frozen 1
               have HV7 : Hid (Row (w6.setCell ⟨vb, 1, none⟩ (.slice b6 (min k l.length + 1) d6)) vb 25 [.slice ua n uc, .slice b6 (min k l.length + 1) d6, .int .i64 next]) := V6.out.set 1 _
               have HO7 : Hid (Owns rSnp 67 (w6.setCell ⟨vb, 1, none⟩ (.slice b6 (min k l.length + 1) d6)) w3.heap.size (.slice b6 (min k l.length + 1) d6) (l.take (k + 1))) := HO6.out.setCell (p := ⟨vb, 1, none⟩) HVb.out _
               have K7 : Hid (Kept (fun q => q < w3.heap.size ∧ q ≠ vb) w3 (w6.setCell ⟨vb, 1, none⟩ (.slice b6 (min k l.length + 1) d6))) := K6.out.setCell (p := ⟨vb, 1, none⟩) (fun h => h.2 rfl) _
               have S4 := HSeeK.out _ K7.out
               go_simp
               refine hK.out _ _ ?_ (fun hH => ?_)
               · try dsimp only
                 first | exact S4 | exact S3 | exact S2 | exact S1 | exact S0
               clear hK K
               refine wpAnyH_done (by kernel_rfl) ?_ _
               clear hH p1 f1 S4 S3
               go_wp2
               go_roundw
               case rel => exact ⟨k + 1, _, by omega, by go_num, HV7, HO7, K7⟩
               case measure => simp [intOf]; omega
       exact rnL
     exact rnL
   · obtain rfl : m = k := by omega
     have HF : Hid (l.take m = l) := List.take_of_length_le (by rw [HM.out]; exact Nat.le_refl _)
     obtain ⟨va, vc, hv, -⟩ := Owns.rd (hs := by decide) HOr.out (by rw [List.length_take]; show _ * 48 ≤ _; omega)
     obtain ⟨vn, hvn⟩ : ∃ vn, (l.take m).length = vn := ⟨_, rfl⟩
     rw [hvn] at hv
     subst hv
     clear hvn
     have p0 := HVr.out.cell (j := 0) rfl
     have p1 := HVr.out.cell (j := 1) rfl
     have p2 := HVr.out.cell (j := 2) rfl
     have HVq : Hid _ := HV1.out.below BR.out
     have q0 := HVq.out.cell (j := 0) rfl
     have q1 := HVq.out.cell (j := 1) rfl
     have q2 := HVq.out.cell (j := 2) rfl
     have f0 := HVq.out.frozen 0
     have f1 := HVq.out.frozen 1
     have f2 := HVq.out.frozen 2
     obtain ⟨w9, hw9, V9, K9⟩ := HVq.out.whole3 (.slice ua n uc) (.slice va vn vc) (.int .i64 next)
     have HV9 : Hid _ := V9
     have HK9 : Hid _ := K9
     have HZ1 : Hid (w0.heap.size < w1.heap.size ∧ w.heap.size ≤ w0.heap.size) := by have h := HZ.out; unfold Hid at *; omega
     clear V9 K9
     go_wp2
     have hkk : Kept (fun q => q < w3.heap.size ∧ q ≠ vb ∧ q ≠ w0.heap.size) w3 w9 := (HKr.out.mono (fun q hq => ⟨hq.1, hq.2.1⟩)).trans (HK9.out.mono (fun q hq => hq.2.2))
     refine bodyPost_ret (q1q rfl rfl HV9.out Try.underlying25 rfl (by kernel_rfl)) rfl ⟨_, _, w3.heap.size, rfl, ?_, ?_, ?_, ?_, ?_, ?_⟩
     · exact Nat.le_trans B1.out.size BX.out.size
     · exact hkk.size
     · exact ((HOX.out.bounded.keepK hkk (fun q hq => ⟨hq.2, hq.1.2, by have h1 := hq.1.1; have h2 := HZ1.out; omega⟩) (fun q hq => ⟨(HRX.out q hq).2, (HRX.out q hq).1, by have h1 := (HOX.out.row q hq).1; have h2 := HZ1.out; omega⟩)).low B1.out.size).weaken (fun q hq => ⟨Nat.le_trans B1.out.size hq.1.1, hq.2⟩)
     · exact fun q hq => (HRX.out q hq).2
     · have ho := HOr.out
       rw [HF.out] at ho
       exact ho.keep (fun q hq _ => HK9.out.block q (by have h1 := BX.out.size; have h2 := HZ1.out; omega))
     · exact Kept.toBelow ((Kept.below (on B1.out BR.out)).trans (HK9.out.mono (fun q hq => by have hq2 : q < w.heap.size := hq; have h2 := HZ1.out; omega)))
theorem elem_frees : q6q Try.prog 22 26 rFree := qBQ (z := .slice none 0 0) Try.underlying22 (by kernel_rfl) rfl rfl rfl (by decide)
theorem rFree_owned {w : World} {base n c : Nat} {a : Option Addr} {l : List UInt8} (h : w.ownsRow base 5 1 (.slice a n c) n (cellsOf l)) (hn : n ≤ 140737488351232) : rFree.rd w (fun b => base ≤ b) [.slice a n c] l := by
 refine ⟨q4q h hn, fun a' n' c' e x hx j hj => ?_⟩
 simp only [List.cons.injEq, Value.slice.injEq, and_true] at e
 obtain ⟨rfl, rfl, rfl⟩ := e
 rcases h.2 with ⟨e1, e2⟩ | ⟨g, cap, cur, e1, e2, e3, _⟩
 · omega
 · simp only [Value.slice.injEq] at e1
   obtain ⟨rfl, _, rfl⟩ := e1
   cases hx
   rw [Addr.add_lit]
   simp [World.frozen?, e3]
theorem copy_f (w : World) (P : Nat → Prop) (a : Option Addr) (n c : Nat) (l : List UInt8) (h : rBytes.rd w P [.slice a n c] l) :
 Calls Try.prog 28 #[.slice a n c] w fun e w' => ∃ b d, e = .returned (.slice b n d) ∧ rFree.rd w' (fun k => w.heap.size ≤ k) [.slice b n d] l ∧ Below w.heap.size w w' := by
 obtain ⟨h1, h2, h3, h4⟩ := q1Q h
 refine (copy_u w a n c l (by omega) h3 h1).mono ?_
 rintro e w' ⟨b, d, rfl, ho, hb⟩
 exact ⟨b, d, rfl, rFree_owned ho h4, hb⟩
set_option maxRecDepth 20000 in
theorem qCx (w : World) (P : Nat → Prop) (a : Option Addr) (n c : Nat) (L : List (List UInt8)) (h : rSectors.rd w P [.slice a n c] L) :
 Calls Try.prog 27 #[.slice a n c] w fun e w' => ∃ v, e = .returned v ∧ Owns rFree 26 w' w.heap.size v L ∧ Below w.heap.size w w' := by
 have hl : L.length = n ∧ n ≤ 5864062014634 := by
  obtain ⟨a', n', c', e, h1, _, _, h4, _⟩ := h
  simp only [List.cons.injEq, Value.slice.injEq, and_true] at e
  obtain ⟨rfl, rfl, rfl⟩ := e
  have h5 : n * 24 ≤ 140737488351232 := h4
  exact ⟨h1, by omega⟩
 obtain ⟨hn, hn2⟩ := hl
 have HN : Hid _ := hn
 clear hn
 have H0 : Owns rFree 26 w w.heap.size (.slice none 0 0) (L.take 0) := by rw [List.take_zero]; exact Owns.nil _ _ _ _
 go_enter Try.func27, Try.ntmps27
 go_wp2
 go_loopw [3, 4] (fun s i wr => ∃ (k : Nat) (M : List (List UInt8)), k ≤ n ∧ i = .int .i64 k ∧ M.length = k ∧ Hid (M = L.take k) ∧ Hid (Owns rFree 26 wr w.heap.size s M) ∧ Below w.heap.size w wr) (fun _ i _ => n - (intOf i).toNat)
 case atStart => exact ⟨0, _, Nat.zero_le _, rfl, by simp, rfl, H0, Below.refl _ _⟩
 case round =>
  obtain ⟨k, M, hk, rfl, hml, HMk, O, bel⟩ := hrel
  clear H0
  by_cases hlt : k < n
  · have hAr := Rep.below h bel
    obtain ⟨g, off, rfl, -, hgl, hat⟩ := q5J hAr (by omega)
    have hkl : k < L.length := by rw [HN.out]; exact hlt
    obtain ⟨x, l, e, hx, hl, hcell⟩ := hat k hkl
    have HNX : Hid (M ++ [L[k]] = L.take (k + 1)) := by unfold Hid; rw [HMk.out, List.take_succ_eq_append_getElem hkl]
    have hz : w.heap.size ≤ wr.heap.size := bel.size
    have hok : Hid ((k + 1) * 24 ≤ 140737488355328 ∧ k + 1 ≤ maxLen) := ⟨by omega, by unfold maxLen; omega⟩
    clear hat hl hAr
    generalize L[k] = X at *
    go_wp2_with (first
     | (go_at_call 28
        refine (copy_f _ _ x l e _ hx).mono ?_
        rintro e w5 ⟨b5, d5, rfl, hr5, bb5⟩
        have hz5 : w.heap.size ≤ (w5.alloc (.cells #[.slice b5 l d5] 26)).heap.size := by have := bb5.size; simp only [World.size_alloc]; omega)
     | (at_builtin
        (refine qIz elem_frees rfl _ _ rfl w.heap.size _ M rfl ((O.out.below bb5).below ((Below.refl _ _).alloc (Nat.le_refl _) _)) ⟨w5.heap.size, 0, none⟩ [.slice b5 l d5] X rfl (cell_one_new _ _ _) (O.out.elem hz hr5 (fun b hb => hb) _) (by rw [hml]; exact hok.out.1) (by rw [hml]; exact hok.out.2) hz5 ?_; intro b6 d6 w6 ho6 g6; rw [hml] at ho6)))
    go_roundw
    case rel => exact ⟨k + 1, M ++ [X], by omega, by go_num, by simp [hml], HNX, ho6, ((on bel bb5).alloc (by have := bb5.size; omega) _).grown g6 hz5 (fun k hk => (O.out.row k hk).1)⟩
    case measure => simp [intOf]; omega
  · obtain rfl : k = n := by omega
    go_wp2
    go_ret
    rw [List.take_of_length_le (by rw [HN.out]; exact Nat.le_refl _)] at HMk
    rw [HMk.out] at O
    exact ⟨_, rfl, O.out, bel⟩
theorem qIq (w : World) (P : Nat → Prop) (a : Option Addr) (n c : Nat) (L : List (List UInt8)) (h : rSectors.rd w P [.slice a n c] L) :
 Calls Try.prog 27 #[.slice a n c] w fun e w' => ∃ b d, e = .returned (.slice b n d) ∧ rFrees.rd w' (fun k => w.heap.size ≤ k) [.slice b n d] L ∧ Below w.heap.size w w' := by
 refine Calls.mono (qCx w P a n c L h) ?_
 rintro e w' ⟨v, rfl, O, bel⟩
 have hl := (q0Q h).1
 have hb := (q0Q h).2.2.2
 obtain ⟨a', c', e1, e2⟩ := Owns.rd (hs := by decide) O (by rw [hl]; exact hb)
 rw [hl] at e1 e2
 exact ⟨a', c', by rw [e1], e2, bel⟩
end Go.Proofs.Ytoophkmnppoppaa
