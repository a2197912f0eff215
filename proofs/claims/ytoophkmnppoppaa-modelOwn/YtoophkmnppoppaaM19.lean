/-
  Facts that the proof rests on, part 20. Conditions: those that each of them names.
-/
import Derived.BigQuiet
import Derived.Deep.QuietTactic
import Derived.Test.YtoophkmnppoppaaM00
import Derived.Test.YtoophkmnppoppaaM02
import Derived.Test.YtoophkmnppoppaaM03
import Derived.Test.YtoophkmnppoppaaM05
import Derived.Test.YtoophkmnppoppaaM10
import Derived.Test.YtoophkmnppoppaaM13
import Derived.Test.YtoophkmnppoppaaM18
namespace Go.Proofs.Ytoophkmnppoppaa
set_option maxHeartbeats 16000000
open Go.RowKit
set_option linter.unusedVariables false
def rSnpF : Rep Snp := q9Z rInt (q9Z rStr rFrees)
def rSnpsF : Rep (List Snp) := q6Z rSnpF (by decide)
def rStaF : Rep Sta := q9Z rFrees (q9Z rSnpsF rInt)
theorem snpF_rd {w : World} {P : Nat → Prop} {id : Int} {nm : ByteArray} {v : Value} {d : Dsk} (h1 : -9223372036854775808 ≤ id ∧ id ≤ 9223372036854775807) (h2 : nm.size ≤ maxLen) (h : rFrees.rd w P [v] d) : rSnpF.rd w P [.int .i64 id, .string nm, v] (id, nm, d) :=
 ⟨[.int .i64 id], [.string nm, v], rfl, ⟨rfl, h1⟩, [.string nm], [v], rfl, ⟨rfl, h2⟩, h⟩
theorem snpF_snp {w : World} {P : Nat → Prop} {cs : List Value} {x : Snp} (h : rSnpF.rd w P cs x) : rSnp.rd w P cs x := by
 obtain ⟨c, d, e, h1, c', d', e', h2, h3⟩ := h
 exact ⟨c, d, e, h1, c', d', e', h2, q7Z h3⟩
theorem staF_sta {w : World} {P : Nat → Prop} {cs : List Value} {x : Sta} (h : rStaF.rd w P cs x) : rSta.rd w P cs x := by
 obtain ⟨c, d, e, h1, c', d', e', h2, h3⟩ := h
 exact ⟨c, d, e, q7Z h1, c', d', e', rList_map (A := rSnpF) (B := rSnp) rfl rfl (fun _ _ _ _ h => snpF_snp h) h2, h3⟩
theorem qGq : q6q Try.prog 29 66 rSnpF := qBQ (z := .agg #[.int .i64 0, .string ByteArray.empty, .slice none 0 0]) Try.underlying29 (by kernel_rfl) rfl rfl rfl (by decide)
set_option maxRecDepth 20000 in
theorem of_o (w : World) (P : Nat → Prop) (a b : Option Addr) (n c m d : Nat) (s : Sta) (hS : rSta.rd w P [.slice a n c, .slice b m d, .int .i64 s.2.2] s) (hm8 : m * 48 ≤ 140737488351232) (hn6 : n * 24 ≤ 140737488351232) :
 Calls Try.prog 9 #[.agg #[.slice a n c, .slice b m d, .int .i64 s.2.2]] w fun e w' => ∃ ua uc v hi, e = .returned (.agg #[.slice ua n uc, v, .int .i64 s.2.2]) ∧ w.heap.size ≤ hi ∧ hi ≤ w'.heap.size ∧ OwnsQ rFree 26 w' w.heap.size (fun q => w.heap.size ≤ q ∧ q < hi) (.slice ua n uc) s.1 ∧ (∀ k, (Value.slice ua n uc).ownBlock = some k → k < hi) ∧ Owns rSnpF 66 w' hi v s.2.1 ∧ Below w.heap.size w w' := by
 obtain ⟨a', n', c', b', m', d', e, hD, hL, hi⟩ := q0X hS
 simp only [List.cons.injEq, Value.slice.injEq, and_true] at e
 obtain ⟨⟨rfl, rfl, rfl⟩, rfl, rfl, rfl⟩ := e
 obtain ⟨D, l, next⟩ := s
 simp only at hD hL hi ⊢
 have HDl : Hid (D.length = n) := (q0Q hD).1
 have HM : Hid (l.length = m) := (q0Q hL).1
 obtain ⟨w0, hw0, V0, b0, z0⟩ := q0q w 25 [.slice a n c, .slice b m d, .int .i64 next]
 obtain ⟨w1, hw1, V1, b1, z1⟩ := q0q w0 31 [.slice none 0 0, .slice none 0 0, .int .i64 0]
 have HV0 : Hid (Row w1 w.heap.size 25 [.slice a n c, .slice b m d, .int .i64 next]) := V0.below b1
 have HV1 : Hid _ := V1
 have B1 : Hid (Below w.heap.size w w1) := on b0 b1
 have HZ : Hid (w0.heap.size = w.heap.size + 1 ∧ w1.heap.size = w.heap.size + 2) := ⟨z0, by omega⟩
 have HD1 : Hid (rSectors.rd w1 P [.slice a n c] D) := Rep.below hD B1.out
 have HL1 : Hid (rSnps.rd w1 P [.slice b m d] l) := Rep.below hL B1.out
 have HSee : Hid (∀ w', Below w1.heap.size w1 w' → w'.cell? ⟨w.heap.size, 0, none⟩ = some (.slice a n c) ∧ w'.cell? ⟨w.heap.size, 2, none⟩ = some (.int .i64 next)) := fun w' hb => ⟨(HV0.out.below hb).cell (j := 0) rfl, (HV0.out.below hb).cell (j := 2) rfl⟩
 have S0 := HSee.out _ (Below.refl _ w1).drew
 have HI : Hid _ := hi
 clear hS hD hL V0 V1 b0 b1 z0 z1 hi
 go_enter Try.func9, Try.ntmps9
 go_wp2_with fail
 go_cut [3] (fun t wx => ∃ vb ua uc, t = .pointer (some ⟨vb, 0, none⟩) ∧ w1.heap.size ≤ vb ∧ Hid (Row wx vb 31 [.slice ua n uc, .slice none 0 0, .int .i64 next]) ∧ Hid (OwnsQ rFree 26 wx w1.heap.size (fun q => w1.heap.size ≤ q ∧ q ≠ vb) (.slice ua n uc) D) ∧ Hid (∀ k, (Value.slice ua n uc).ownBlock = some k → k ≠ vb ∧ k < wx.heap.size) ∧ Hid (Below w1.heap.size w1 wx))
 case first =>
  refine wp_region_held_drew (S := (fun w' : World => w'.cell? ⟨w.heap.size, 0, none⟩ = some (.slice a n c) ∧ w'.cell? ⟨w.heap.size, 2, none⟩ = some (.int .i64 next))) (by kernel_rfl) (S0) (fun hH => ?_)
  refine tkM 0 _ rfl rfl ?_; simp only [sz, ss]
  refine tkM 1 _ rfl rfl ?_; simp only [sz, ss]
  refine tkM 3 _ rfl rfl ?_; simp only [sz, ss]
  refine tkM 4 _ rfl rfl ?_; simp only [sz, ss]
  refine rdL [2, 6] ?_
  refine rcL (fun K hK => ?_) ?_
  · go_simp
    go_at_call 27
    refine Calls.mono (qCx w1.drew P a n c D (rSectors.keep HD1.out (fun _ _ _ => rfl))) ?_
    rintro e w2 ⟨u, rfl, ho, bd⟩
    have B2 : Hid (Below w1.heap.size w1 w2) := (Below.refl _ w1).drew.trans bd
    obtain ⟨ua, uc, hu, -⟩ := Owns.rd (hs := by decide) ho (by show _ * 24 ≤ _; rw [HDl.out]; omega)
    rw [HDl.out] at hu
    subst hu
    have HO2 : Hid (OwnsQ rFree 26 w2 w1.heap.size (fun q => w1.heap.size ≤ q ∧ q < w2.heap.size) (.slice ua n uc) D) := (Owns.toQ2 ho (fun q => w1.heap.size ≤ q ∧ q < w2.heap.size) (fun q h1 h2 => ⟨h1, h2⟩) (Below.refl _ _)).low (Nat.le_refl _)
    have S2 := HSee.out _ B2.out
    have HRw2 : Hid (∀ k, (Value.slice ua n uc).ownBlock = some k → k < w2.heap.size) := fun k hk => (ho.row k hk).2
    clear ho bd
    go_simp
    refine hK.out _ _ ?_ (fun hH => ?_)
    · try dsimp only
      first | exact S4 | exact S3 | exact S2 | exact S0
    clear hK K
    refine tkM 5 _ rfl rfl ?_; simp only [sz, ss]
    refine r1L 6 rfl fun K hK => ?_
    · go_simp
      obtain ⟨wB, hwB, vB, bB, zB⟩ := q0q w2 31 [.slice none 0 0, .slice none 0 0, .int .i64 0]
      obtain ⟨vb, hvb⟩ : ∃ vb, vb = w2.heap.size := ⟨_, rfl⟩
      have BA : Hid _ := on B2.out bB
      have HVb : Hid (w1.heap.size ≤ vb) := by rw [hvb]; exact B2.out.size
      have hvb' : w2.heap.size = vb := hvb.symm
      have VA : Hid (Row wB vb 31 [.slice none 0 0, .slice none 0 0, .int .i64 0]) := by rw [hvb]; exact vB.keep rfl
      have VM := VA
      have BM := BA
      have HRw : Hid (∀ k, (Value.slice ua n uc).ownBlock = some k → k ≠ vb ∧ k < wB.heap.size) := fun k hk => by have h1 := HRw2.out k hk; have h2 := bB.size; rw [hvb]; exact ⟨by omega, by omega⟩
      have HOf : Hid (OwnsQ rFree 26 wB w1.heap.size (fun q => w1.heap.size ≤ q ∧ q ≠ vb) (.slice ua n uc) D) := by rw [hvb]; exact (HO2.out.below bB).weaken (fun q hq => ⟨hq.1, by omega⟩)
      have S3 := HSee.out _ BA.out
      clear vB zB hvb bB
      rw [hwB, hvb']
      go_simp
      refine hK.out _ _ ?_ (fun hH => ?_)
      · try dsimp only
        first | exact S4 | exact S3 | exact S2 | exact S0
      clear hK K
      refine r1L 7 rfl fun K hK => ?_
      · have p0 := VM.out.cell (j := 0) rfl
        have p1 := VM.out.cell (j := 1) rfl
        have p2 := VM.out.cell (j := 2) rfl
        have f0 := VM.out.frozen 0
        have f1 := VM.out.frozen 1
        have f2 := VM.out.frozen 2
        obtain ⟨wX, hwX, VX, KX⟩ := VM.out.whole3 (.slice ua n uc) (.slice none 0 0) (.int .i64 next)
        have HVX : Hid _ := VX
        have HKX : Hid _ := KX
        have BX : Hid (Below w1.heap.size w1 wX) := Kept.belowOf BM.out KX HVb.out
        have S4 := HSee.out _ BX.out
        clear VX KX
        go_simp
        refine hK.out _ _ ?_ (fun hH => ?_)
        · try dsimp only
          first | exact S4 | exact S3 | exact S2 | exact S0
        clear hK K
        refine wpAnyH_done (by kernel_rfl) ?_ _
        clear hH S4
        go_wp2_with fail
        go_meet
        exact ⟨vb, ua, uc, rfl, HVb.out, HVX, HOf.out.keepK HKX.out (fun q hq => hq.2) (fun k hk => (HRw.out k hk).1), fun k hk => ⟨(HRw.out k hk).1, Nat.lt_of_lt_of_le (HRw.out k hk).2 HKX.out.size⟩, BX⟩
  refine rcL (fun K hK => ?_) ?_
  · go_simp
    obtain ⟨wB, hwB, vB, bB, zB⟩ := q0q w1 31 [.slice none 0 0, .slice none 0 0, .int .i64 0]
    obtain ⟨vb, hvb⟩ : ∃ vb, vb = w1.heap.size := ⟨_, rfl⟩
    have BA : Hid (Below w1.heap.size w1 wB.drew) := Below.drew bB
    have HVb : Hid (w1.heap.size ≤ vb) := by rw [hvb]; exact Nat.le_refl _
    have hvb' : w1.heap.size = vb := hvb.symm
    have VA : Hid (Row wB.drew vb 31 [.slice none 0 0, .slice none 0 0, .int .i64 0]) := by rw [hvb]; exact vB.keep rfl
    have HVl : Hid (vb < wB.drew.heap.size) := by rw [hvb]; exact Nat.lt_of_succ_le (Nat.le_of_eq zB.symm)
    have S3 := HSee.out _ BA.out
    clear vB zB hvb bB
    rw [hwB, hvb']
    refine hK.out _ _ ?_ (fun hH => ?_)
    · try dsimp only
      first | exact S4 | exact S3 | exact S2 | exact S0
    clear hK K
    refine r1L 2 rfl fun K hK => ?_
    · go_simp
      go_at_call 27
      refine Calls.mono (qCx wB.drew P a n c D (Rep.below HD1.out BA.out)) ?_
      rintro e w2 ⟨u, rfl, ho, bd⟩
      have B2 : Hid _ := on BA.out bd
      obtain ⟨ua, uc, hu, -⟩ := Owns.rd (hs := by decide) ho (by show _ * 24 ≤ _; rw [HDl.out]; omega)
      rw [HDl.out] at hu
      subst hu
      have HO2 : Hid (OwnsQ rFree 26 w2 w1.heap.size (fun q => w1.heap.size ≤ q ∧ q ≠ vb) (.slice ua n uc) D) := (Owns.toQ2 ho (fun q => w1.heap.size ≤ q ∧ q ≠ vb) (fun q h1 h2 => ⟨Nat.le_trans BA.out.size h1, fun e => by have := HVl.out; omega⟩) (Below.refl _ _)).low BA.out.size
      have S2 := HSee.out _ B2.out
      have VM : Hid _ := VA.out.below bd
      have BM : Hid _ := on BA.out bd
      have HRw : Hid (∀ k, (Value.slice ua n uc).ownBlock = some k → k ≠ vb ∧ k < w2.heap.size) := fun k hk => by have h1 := ho.row k hk; have h2 := HVl.out; exact ⟨by omega, h1.2⟩
      have HOf : Hid (OwnsQ rFree 26 w2 w1.heap.size (fun q => w1.heap.size ≤ q ∧ q ≠ vb) (.slice ua n uc) D) := HO2.out
      clear ho bd
      go_simp
      refine hK.out _ _ ?_ (fun hH => ?_)
      · try dsimp only
        first | exact S4 | exact S3 | exact S2 | exact S0
      clear hK K
      refine tkM 5 _ rfl rfl ?_; simp only [sz, ss]
      refine r1L 7 rfl fun K hK => ?_
      · have p0 := VM.out.cell (j := 0) rfl
        have p1 := VM.out.cell (j := 1) rfl
        have p2 := VM.out.cell (j := 2) rfl
        have f0 := VM.out.frozen 0
        have f1 := VM.out.frozen 1
        have f2 := VM.out.frozen 2
        obtain ⟨wX, hwX, VX, KX⟩ := VM.out.whole3 (.slice ua n uc) (.slice none 0 0) (.int .i64 next)
        have HVX : Hid _ := VX
        have HKX : Hid _ := KX
        have BX : Hid (Below w1.heap.size w1 wX) := Kept.belowOf BM.out KX HVb.out
        have S4 := HSee.out _ BX.out
        clear VX KX
        go_simp
        refine hK.out _ _ ?_ (fun hH => ?_)
        · try dsimp only
          first | exact S4 | exact S3 | exact S2 | exact S0
        clear hK K
        refine wpAnyH_done (by kernel_rfl) ?_ _
        clear hH S4
        go_wp2_with fail
        go_meet
        exact ⟨vb, ua, uc, rfl, HVb.out, HVX, HOf.out.keepK HKX.out (fun q hq => hq.2) (fun k hk => (HRw.out k hk).1), fun k hk => ⟨(HRw.out k hk).1, Nat.lt_of_lt_of_le (HRw.out k hk).2 HKX.out.size⟩, BX⟩
  exact rnL
 case rest =>
  obtain ⟨vb, ua, uc, rfl, hvb, HVX, HOX, HRX, BX⟩ := hcut
  obtain ⟨w3, hw3⟩ : ∃ w3, w3 = wc := ⟨_, rfl⟩
  subst hw3
  have HVb : Hid (vb < w3.heap.size) := HVX.out.lt
  have HVb1 : Hid (w1.heap.size ≤ vb) := hvb
  clear S0 hvb
  have c1 := (HV0.out.below BX.out).cell (j := 1) rfl
  go_wp2
  clear c1
  go_loopw [4] (fun i wr => ∃ (k : Nat) (v : Value), k ≤ m ∧ i = .int .i64 k ∧ Hid (Row wr vb 31 [.slice ua n uc, v, .int .i64 next]) ∧ Hid (Owns rSnpF 66 wr w3.heap.size v (l.take k)) ∧ Hid (Kept (fun q => q < w3.heap.size ∧ q ≠ vb) w3 wr)) (fun i _ => m - (intOf i).toNat)
  case atStart => exact ⟨0, _, Nat.zero_le _, rfl, HVX.out, Owns.nil _ _ _ _, Kept.refl _ _⟩
  case round =>
   obtain ⟨k, v, hk, rfl, HVr, HOr, HKr⟩ := hrel
   have HZr : Hid (w3.heap.size ≤ wr.heap.size) := HKr.out.size
   have BR : Hid (Below w1.heap.size w1 wr) := BX.out.trans (Kept.toBelow (HKr.out.mono (fun q hq => ⟨Nat.lt_of_lt_of_le hq BX.out.size, fun e => by have h1 := HVb1.out; have hq2 : q < w1.heap.size := hq; omega⟩)))
   have c1 := (HV0.out.below BR.out).cell (j := 1) rfl
   by_cases hlt : k < m
   · have hkl : k < l.length := by rw [HM.out]; exact hlt
     obtain ⟨gl, off, rfl, -, hgl, hat⟩ := q1J HL1.out (by omega)
     obtain ⟨x, xm, xd, hX, hXl, e0, e1, e2, hid, hs⟩ := hat k hkl
     have HTk : Hid (l.take (k + 1) = l.take k ++ [(l[k].1, l[k].2.1, l[k].2.2)]) := List.take_succ_eq_append_getElem hkl
     have hkz : (k : Int) < (m : Int) := by omega
     obtain ⟨id, hidE⟩ : ∃ id, id = l[k].1 := ⟨_, rfl⟩
     obtain ⟨nm, hnmE⟩ : ∃ nm, nm = l[k].2.1 := ⟨_, rfl⟩
     obtain ⟨dk, hdkE⟩ : ∃ dk, dk = l[k].2.2 := ⟨_, rfl⟩
     rw [← hidE, ← hnmE, ← hdkE] at HTk
     rw [← hidE] at e0 hid
     rw [← hnmE] at e1 hs
     rw [← hdkE] at hX hXl
     have HX4 : Hid (rSectors.rd wr.drew P [.slice x xm xd] dk) := rSectors.keep (Rep.below hX BR.out) (fun _ _ _ => rfl)
     have HNs : Hid (nm.size ≤ maxLen) := hs
     have HI4 : Hid (-9223372036854775808 ≤ id ∧ id ≤ 9223372036854775807) := hid
     have HC : Hid (∀ w', Below w1.heap.size w1 w' → w'.cell? ⟨w.heap.size, 1, none⟩ = some (.slice (some ⟨gl, off, none⟩) m d) ∧ w'.cell? ⟨gl, off + k * 3, none⟩ = some (.int .i64 id) ∧ w'.cell? ⟨gl, off + k * 3 + 1, none⟩ = some (.string nm) ∧ w'.cell? ⟨gl, off + k * 3 + 2, none⟩ = some (.slice x xm xd)) := fun w' hb => ⟨(HV0.out.below hb).cell (j := 1) rfl, (hb.cell (p := ⟨gl, off + k * 3, none⟩) hgl).trans e0, (hb.cell (p := ⟨gl, off + k * 3 + 1, none⟩) hgl).trans e1, (hb.cell (p := ⟨gl, off + k * 3 + 2, none⟩) hgl).trans e2⟩
     have HSee4 : Hid (∀ w', Below wr.heap.size wr w' → w'.cell? ⟨w.heap.size, 1, none⟩ = some (.slice (some ⟨gl, off, none⟩) m d) ∧ w'.cell? ⟨gl, off + k * 3, none⟩ = some (.int .i64 id) ∧ w'.cell? ⟨gl, off + k * 3 + 1, none⟩ = some (.string nm) ∧ w'.cell? ⟨gl, off + k * 3 + 2, none⟩ = some (.slice x xm xd)) := fun w' hb => HC.out w' (BR.out.trans (hb.mono BR.out.size))
     have HSeeK : Hid (∀ w', Kept (fun q => q < w3.heap.size ∧ q ≠ vb) w3 w' → w'.cell? ⟨w.heap.size, 1, none⟩ = some (.slice (some ⟨gl, off, none⟩) m d) ∧ w'.cell? ⟨gl, off + k * 3, none⟩ = some (.int .i64 id) ∧ w'.cell? ⟨gl, off + k * 3 + 1, none⟩ = some (.string nm) ∧ w'.cell? ⟨gl, off + k * 3 + 2, none⟩ = some (.slice x xm xd)) := fun w' hk => HC.out w' (BX.out.trans (Kept.toBelow (hk.mono (fun q hq => ⟨Nat.lt_of_lt_of_le hq BX.out.size, fun e => by have h1 := HVb1.out; have hq2 : q < w1.heap.size := hq; omega⟩))))
     have S0 := HSee4.out _ (Below.refl _ wr).drew
     clear hidE hnmE hdkE hat hX hXl hs hid e0 e1 e2 hgl
     go_wp2_with fail
     refine wp_region_held_drew (S := (fun w' : World => w'.cell? ⟨w.heap.size, 1, none⟩ = some (.slice (some ⟨gl, off, none⟩) m d) ∧ w'.cell? ⟨gl, off + k * 3, none⟩ = some (.int .i64 id) ∧ w'.cell? ⟨gl, off + k * 3 + 1, none⟩ = some (.string nm) ∧ w'.cell? ⟨gl, off + k * 3 + 2, none⟩ = some (.slice x xm xd))) (by kernel_rfl) (S0) (fun hH => ?_)
     refine tkM 0 _ rfl rfl ?_; simp only [sz, ss]
     refine tkM 2 _ rfl rfl ?_; simp only [sz, ss]
     refine tkM 3 _ rfl rfl ?_; simp only [sz, ss]
     refine tkM 4 _ rfl rfl ?_; simp only [sz, ss]
     refine tkM 5 _ rfl rfl ?_; simp only [sz, ss]
     refine tkM 6 _ rfl rfl ?_; simp only [sz, ss]
     refine tkM 7 _ rfl rfl ?_; simp only [sz, ss]
     refine tkM 8 _ rfl rfl ?_; simp only [sz, ss]
     refine tkM 9 _ rfl rfl ?_; simp only [sz, ss]
     refine tkM 10 _ rfl rfl ?_; simp only [sz, ss]
     refine tkM 11 _ rfl rfl ?_; simp only [sz, ss]
     refine tkM 12 _ rfl rfl ?_; simp only [sz, ss]
     refine tkM 13 _ rfl rfl ?_; simp only [sz, ss]
     refine tkM 14 _ rfl rfl ?_; simp only [sz, ss]
     refine tkM 15 _ rfl rfl ?_; simp only [sz, ss]
     refine tkM 16 _ rfl rfl ?_; simp only [sz, ss]
     refine tkM 17 _ rfl rfl ?_; simp only [sz, ss]
     refine tkM 18 _ rfl rfl ?_; simp only [sz, ss]
     refine tkM 19 _ rfl rfl ?_; simp only [sz, ss]
     refine rdL [1, 20] ?_
     refine rcL (fun K hK => ?_) ?_
     · have rv := (HVr.out.below (Below.refl _ wr).drew).cell (j := 1) rfl
       go_simp
       refine hK.out _ _ ?_ (fun hH => ?_)
       · try dsimp only
         first | exact S4 | exact S3 | exact S2 | exact S1 | exact S0
       clear hK K
       refine r1L 20 rfl fun K hK => ?_
       · go_simp
         go_at_call 27
         refine Calls.mono (qIq wr.drew P x xm xd dk HX4.out) ?_
         rintro e w5 ⟨g5, d5, rfl, hrd5, bd5⟩
         have B5 : Hid (Below wr.heap.size wr w5) := (Below.refl wr.heap.size wr).drew.trans bd5
         have HR5 : Hid (rFrees.rd w5 (fun b => wr.heap.size ≤ b) [.slice g5 xm d5] dk) := hrd5
         have S1 := HSee4.out _ B5.out
         clear hrd5 bd5
         go_simp
         refine hK.out _ _ ?_ (fun hH => ?_)
         · try dsimp only
           first | exact S4 | exact S3 | exact S2 | exact S1 | exact S0
         clear hK K
         refine tkM 21 _ rfl rfl ?_; simp only [sz, ss]
         refine r1L 22 rfl fun K hK => ?_
         · go_simp
           have BA : Hid (Below w5.heap.size w5 (w5.alloc (.cells #[.int .i64 id, .string nm, .slice g5 xm d5] 66))) := (Below.refl _ _).alloc (Nat.le_refl _) _
           have S2 := HSee4.out _ (on B5.out BA.out)
           refine hK.out _ _ ?_ (fun hH => ?_)
           · try dsimp only
             first | exact S4 | exact S3 | exact S2 | exact S1 | exact S0
           clear hK K
           refine r1L 23 rfl fun K hK => ?_
           · refine q0J qGq rfl (.tmp 19) (.tmp 40) rfl w3.heap.size v (l.take k) (by simp [Go.Act.eval]) ((HOr.out.below B5.out).below BA.out) ⟨w5.heap.size, 0, none⟩ [.int .i64 id, .string nm, .slice g5 xm d5] (id, nm, dk) (by simp [Go.Act.eval]) (q3J w5 id nm _ _) ?_ ?_ ?_ ?_ ?_
             · exact rSnpF.weaken (snpF_rd HI4.out HNs.out (Rep.below HR5.out BA.out)) (fun b hb _ => ⟨Nat.le_trans HZr.out hb, fun e => by have h1 := (HOr.out.row b e).2; have hb : wr.heap.size ≤ b := hb; omega⟩)
             · rw [List.length_take]; show _ * 48 ≤ _; omega
             · rw [List.length_take]; unfold maxLen; omega
             · exact Nat.le_trans HZr.out (Nat.le_trans B5.out.size BA.out.size)
             intro b6 d6 w6 ho6 g6
             have B56 : Hid _ := on B5.out BA.out
             have HO6 : Hid (Owns rSnpF 66 w6 w3.heap.size (.slice b6 (min k l.length + 1) d6) (l.take (k + 1))) := by unfold Hid; rw [HTk.out, ← List.length_take]; exact ho6
             have K6 : Hid (Kept (fun q => q < w3.heap.size ∧ q ≠ vb) w3 w6) := (HKr.out.on (fun q hq => Nat.lt_of_lt_of_le hq.1 HZr.out) B56.out).grown g6 (fun q hq => Nat.lt_of_lt_of_le hq.1 (Nat.le_trans HZr.out B56.out.size)) (fun j hj hs => by have := (HOr.out.row j hj).1; have := hs.1; omega)
             have hno : ∀ j, v.ownBlock = some j → w3.heap.size ≤ j := fun j hj => (HOr.out.row j hj).1
             have V6 : Hid (Row w6 vb 31 [.slice ua n uc, v, .int .i64 next]) := (HVr.out.below B56.out).keep (g6.block vb (Nat.lt_of_lt_of_le HVr.out.lt B56.out.size) (fun e => by have h1 := hno _ e.symm; have h2 := HVb.out; omega))
             have S3 := HSeeK.out _ K6.out
             clear ho6 g6 hno
             try go_simp
             refine hK.out _ _ ?_ (fun hH => ?_)
             · try dsimp only
               first | exact S4 | exact S3 | exact S2 | exact S1 | exact S0
             clear hK K
             refine tkM 24 _ rfl rfl ?_; simp only [sz, ss]
             refine r1L 25 rfl fun K hK => ?_
             · have p1 := V6.out.cell (j := 1) rfl
               have f1 := V6.out.frozen 1
               have HV7 : Hid (Row (w6.setCell ⟨vb, 1, none⟩ (.slice b6 (min k l.length + 1) d6)) vb 31 [.slice ua n uc, .slice b6 (min k l.length + 1) d6, .int .i64 next]) := V6.out.set 1 _
               have HO7 : Hid (Owns rSnpF 66 (w6.setCell ⟨vb, 1, none⟩ (.slice b6 (min k l.length + 1) d6)) w3.heap.size (.slice b6 (min k l.length + 1) d6) (l.take (k + 1))) := HO6.out.setCell (p := ⟨vb, 1, none⟩) HVb.out _
               have K7 : Hid (Kept (fun q => q < w3.heap.size ∧ q ≠ vb) w3 (w6.setCell ⟨vb, 1, none⟩ (.slice b6 (min k l.length + 1) d6))) := K6.out.setCell (p := ⟨vb, 1, none⟩) (fun h => h.2 rfl) _
               have S4 := HSeeK.out _ K7.out
               go_simp
               refine hK.out _ _ ?_ (fun hH => ?_)
               · try dsimp only
                 first | exact S4 | exact S3 | exact S2 | exact S1 | exact S0
               clear hK K
               refine wpAnyH_done (by kernel_rfl) ?_ _
               clear hH p1 f1 S4 S3
               go_wp2
               go_roundw
               case rel => exact ⟨k + 1, _, by omega, by go_num, HV7, HO7, K7⟩
               case measure => simp [intOf]; omega
     refine rcL (fun K hK => ?_) ?_
     · go_simp
       go_at_call 27
       refine Calls.mono (qIq wr.drew P x xm xd dk HX4.out) ?_
       rintro e w5 ⟨g5, d5, rfl, hrd5, bd5⟩
       have B5 : Hid (Below wr.heap.size wr w5) := (Below.refl wr.heap.size wr).drew.trans bd5
       have HR5 : Hid (rFrees.rd w5 (fun b => wr.heap.size ≤ b) [.slice g5 xm d5] dk) := hrd5
       have S1 := HSee4.out _ B5.out
       clear hrd5 bd5
       go_simp
       refine hK.out _ _ ?_ (fun hH => ?_)
       · try dsimp only
         first | exact S4 | exact S3 | exact S2 | exact S1 | exact S0
       clear hK K
       refine tkM 21 _ rfl rfl ?_; simp only [sz, ss]
       refine rdL [1, 22] ?_
       refine rcL (fun K hK => ?_) ?_
       · have rv := (HVr.out.below B5.out).cell (j := 1) rfl
         go_simp
         refine hK.out _ _ ?_ (fun hH => ?_)
         · try dsimp only
           first | exact S4 | exact S3 | exact S2 | exact S1 | exact S0
         clear hK K
         refine r1L 22 rfl fun K hK => ?_
         · go_simp
           have BA : Hid (Below w5.heap.size w5 (w5.alloc (.cells #[.int .i64 id, .string nm, .slice g5 xm d5] 66))) := (Below.refl _ _).alloc (Nat.le_refl _) _
           have S2 := HSee4.out _ (on B5.out BA.out)
           refine hK.out _ _ ?_ (fun hH => ?_)
           · try dsimp only
             first | exact S4 | exact S3 | exact S2 | exact S1 | exact S0
           clear hK K
           refine r1L 23 rfl fun K hK => ?_
           · refine q0J qGq rfl (.tmp 19) (.tmp 40) rfl w3.heap.size v (l.take k) (by simp [Go.Act.eval]) ((HOr.out.below B5.out).below BA.out) ⟨w5.heap.size, 0, none⟩ [.int .i64 id, .string nm, .slice g5 xm d5] (id, nm, dk) (by simp [Go.Act.eval]) (q3J w5 id nm _ _) ?_ ?_ ?_ ?_ ?_
             · exact rSnpF.weaken (snpF_rd HI4.out HNs.out (Rep.below HR5.out BA.out)) (fun b hb _ => ⟨Nat.le_trans HZr.out hb, fun e => by have h1 := (HOr.out.row b e).2; have hb : wr.heap.size ≤ b := hb; omega⟩)
             · rw [List.length_take]; show _ * 48 ≤ _; omega
             · rw [List.length_take]; unfold maxLen; omega
             · exact Nat.le_trans HZr.out (Nat.le_trans B5.out.size BA.out.size)
             intro b6 d6 w6 ho6 g6
             have B56 : Hid _ := on B5.out BA.out
             have HO6 : Hid (Owns rSnpF 66 w6 w3.heap.size (.slice b6 (min k l.length + 1) d6) (l.take (k + 1))) := by unfold Hid; rw [HTk.out, ← List.length_take]; exact ho6
             have K6 : Hid (Kept (fun q => q < w3.heap.size ∧ q ≠ vb) w3 w6) := (HKr.out.on (fun q hq => Nat.lt_of_lt_of_le hq.1 HZr.out) B56.out).grown g6 (fun q hq => Nat.lt_of_lt_of_le hq.1 (Nat.le_trans HZr.out B56.out.size)) (fun j hj hs => by have := (HOr.out.row j hj).1; have := hs.1; omega)
             have hno : ∀ j, v.ownBlock = some j → w3.heap.size ≤ j := fun j hj => (HOr.out.row j hj).1
             have V6 : Hid (Row w6 vb 31 [.slice ua n uc, v, .int .i64 next]) := (HVr.out.below B56.out).keep (g6.block vb (Nat.lt_of_lt_of_le HVr.out.lt B56.out.size) (fun e => by have h1 := hno _ e.symm; have h2 := HVb.out; omega))
             have S3 := HSeeK.out _ K6.out
             clear ho6 g6 hno
             try go_simp
             refine hK.out _ _ ?_ (fun hH => ?_)
             · try dsimp only
               first | exact S4 | exact S3 | exact S2 | exact S1 | exact S0
             clear hK K
             refine tkM 24 _ rfl rfl ?_; simp only [sz, ss]
             refine r1L 25 rfl fun K hK => ?_
             · have p1 := V6.out.cell (j := 1) rfl
               have f1 := V6.out.frozen 1
               have HV7 : Hid (Row (w6.setCell ⟨vb, 1, none⟩ (.slice b6 (min k l.length + 1) d6)) vb 31 [.slice ua n uc, .slice b6 (min k l.length + 1) d6, .int .i64 next]) := V6.out.set 1 _
               have HO7 : Hid (Owns rSnpF 66 (w6.setCell ⟨vb, 1, none⟩ (.slice b6 (min k l.length + 1) d6)) w3.heap.size (.slice b6 (min k l.length + 1) d6) (l.take (k + 1))) := HO6.out.setCell (p := ⟨vb, 1, none⟩) HVb.out _
               have K7 : Hid (Kept (fun q => q < w3.heap.size ∧ q ≠ vb) w3 (w6.setCell ⟨vb, 1, none⟩ (.slice b6 (min k l.length + 1) d6))) := K6.out.setCell (p := ⟨vb, 1, none⟩) (fun h => h.2 rfl) _
               have S4 := HSeeK.out _ K7.out
               go_simp
               refine hK.out _ _ ?_ (fun hH => ?_)
               · try dsimp only
                 first | exact S4 | exact S3 | exact S2 | exact S1 | exact S0
               clear hK K
               refine wpAnyH_done (by kernel_rfl) ?_ _
               clear hH p1 f1 S4 S3
               go_wp2
               go_roundw
               case rel => exact ⟨k + 1, _, by omega, by go_num, HV7, HO7, K7⟩
               case measure => simp [intOf]; omega
       refine rcL (fun K hK => ?_) ?_
       · go_simp
         have BA : Hid (Below w5.heap.size w5 (w5.alloc (.cells #[.int .i64 id, .string nm, .slice g5 xm d5] 66))) := (Below.refl _ _).alloc (Nat.le_refl _) _
         have S2 := HSee4.out _ (on B5.out BA.out)
         refine hK.out _ _ ?_ (fun hH => ?_)
         · try dsimp only
           first | exact S4 | exact S3 | exact S2 | exact S1 | exact S0
         clear hK K
         refine r1L 1 rfl fun K hK => ?_
         · have rv := (HVr.out.below (on B5.out BA.out)).cell (j := 1) rfl
           go_simp
           refine hK.out _ _ ?_ (fun hH => ?_)
           · try dsimp only
             first | exact S4 | exact S3 | exact S2 | exact S1 | exact S0
           clear hK K
           refine r1L 23 rfl fun K hK => ?_
           · refine q0J qGq rfl (.tmp 19) (.tmp 40) rfl w3.heap.size v (l.take k) (by simp [Go.Act.eval]) ((HOr.out.below B5.out).below BA.out) ⟨w5.heap.size, 0, none⟩ [.int .i64 id, .string nm, .slice g5 xm d5] (id, nm, dk) (by simp [Go.Act.eval]) (q3J w5 id nm _ _) ?_ ?_ ?_ ?_ ?_
             · exact rSnpF.weaken (snpF_rd HI4.out HNs.out (Rep.below HR5.out BA.out)) (fun b hb _ => ⟨Nat.le_trans HZr.out hb, fun e => by have h1 := (HOr.out.row b e).2; have hb : wr.heap.size ≤ b := hb; omega⟩)
             · rw [List.length_take]; show _ * 48 ≤ _; omega
             · rw [List.length_take]; unfold maxLen; omega
             · exact Nat.le_trans HZr.out (Nat.le_trans B5.out.size BA.out.size)
             intro b6 d6 w6 ho6 g6
             have B56 : Hid _ := on B5.out BA.out
             have HO6 : Hid (Owns rSnpF 66 w6 w3.heap.size (.slice b6 (min k l.length + 1) d6) (l.take (k + 1))) := by unfold Hid; rw [HTk.out, ← List.length_take]; exact ho6
             have K6 : Hid (Kept (fun q => q < w3.heap.size ∧ q ≠ vb) w3 w6) := (HKr.out.on (fun q hq => Nat.lt_of_lt_of_le hq.1 HZr.out) B56.out).grown g6 (fun q hq => Nat.lt_of_lt_of_le hq.1 (Nat.le_trans HZr.out B56.out.size)) (fun j hj hs => by have := (HOr.out.row j hj).1; have := hs.1; omega)
             have hno : ∀ j, v.ownBlock = some j → w3.heap.size ≤ j := fun j hj => (HOr.out.row j hj).1
             have V6 : Hid (Row w6 vb 31 [.slice ua n uc, v, .int .i64 next]) := (HVr.out.below B56.out).keep (g6.block vb (Nat.lt_of_lt_of_le HVr.out.lt B56.out.size) (fun e => by have h1 := hno _ e.symm; have h2 := HVb.out; omega))
             have S3 := HSeeK.out _ K6.out
             clear ho6 g6 hno
             try go_simp
             refine hK.out _ _ ?_ (fun hH => ?_)
             · try dsimp only
               first | exact S4 | exact S3 | exact S2 | exact S1 | exact S0
             clear hK K
             refine tkM 24 _ rfl rfl ?_; simp only [sz, ss]
             refine r1L 25 rfl fun K hK => ?_
             · have p1 := V6.out.cell (j := 1) rfl
               have f1 := V6.out.frozen 1
               have HV7 : Hid (Row (w6.setCell ⟨vb, 1, none⟩ (.slice b6 (min k l.length + 1) d6)) vb 31 [.slice ua n uc, .slice b6 (min k l.length + 1) d6, .int .i64 next]) := V6.out.set 1 _
               have HO7 : Hid (Owns rSnpF 66 (w6.setCell ⟨vb, 1, none⟩ (.slice b6 (min k l.length + 1) d6)) w3.heap.size (.slice b6 (min k l.length + 1) d6) (l.take (k + 1))) := HO6.out.setCell (p := ⟨vb, 1, none⟩) HVb.out _
               have K7 : Hid (Kept (fun q => q < w3.heap.size ∧ q ≠ vb) w3 (w6.setCell ⟨vb, 1, none⟩ (.slice b6 (min k l.length + 1) d6))) := K6.out.setCell (p := ⟨vb, 1, none⟩) (fun h => h.2 rfl) _
               have S4 := HSeeK.out _ K7.out
               go_simp
               refine hK.out _ _ ?_ (fun hH => ?_)
               · try dsimp only
                 first | exact S4 | exact S3 | exact S2 | exact S1 | exact S0
               clear hK K
               refine wpAnyH_done (by kernel_rfl) ?_ _
               clear hH p1 f1 S4 S3
               go_wp2
               go_roundw
               case rel => exact ⟨k + 1, _, by omega, by go_num, HV7, HO7, K7⟩
               case measure => simp [intOf]; omega
       exact rnL
     exact rnL
   · obtain rfl : m = k := by omega
     have HF : Hid (l.take m = l) := List.take_of_length_le (by rw [HM.out]; exact Nat.le_refl _)
     obtain ⟨va, vc, hv, -⟩ := Owns.rd (hs := by decide) HOr.out (by rw [List.length_take]; show _ * 48 ≤ _; omega)
     obtain ⟨vn, hvn⟩ : ∃ vn, (l.take m).length = vn := ⟨_, rfl⟩
     rw [hvn] at hv
     subst hv
     clear hvn
     have p0 := HVr.out.cell (j := 0) rfl
     have p1 := HVr.out.cell (j := 1) rfl
     have p2 := HVr.out.cell (j := 2) rfl
     have HVq : Hid _ := HV1.out.below BR.out
     have q0 := HVq.out.cell (j := 0) rfl
     have q1 := HVq.out.cell (j := 1) rfl
     have q2 := HVq.out.cell (j := 2) rfl
     have f0 := HVq.out.frozen 0
     have f1 := HVq.out.frozen 1
     have f2 := HVq.out.frozen 2
     obtain ⟨w9, hw9, V9, K9⟩ := HVq.out.whole3 (.slice ua n uc) (.slice va vn vc) (.int .i64 next)
     have HV9 : Hid _ := V9
     have HK9 : Hid _ := K9
     have HZ1 : Hid (w0.heap.size < w1.heap.size ∧ w.heap.size ≤ w0.heap.size) := by have h := HZ.out; unfold Hid at *; omega
     clear V9 K9
     go_wp2
     have hkk : Kept (fun q => q < w3.heap.size ∧ q ≠ vb ∧ q ≠ w0.heap.size) w3 w9 := (HKr.out.mono (fun q hq => ⟨hq.1, hq.2.1⟩)).trans (HK9.out.mono (fun q hq => hq.2.2))
     refine bodyPost_ret (q1q rfl rfl HV9.out Try.underlying31 rfl (by kernel_rfl)) rfl ⟨_, _, _, w3.heap.size, rfl, ?_, ?_, ?_, ?_, ?_, ?_⟩
     · exact Nat.le_trans B1.out.size BX.out.size
     · exact hkk.size
     · exact ((HOX.out.bounded.keepK hkk (fun q hq => ⟨hq.2, hq.1.2, by have h1 := hq.1.1; have h2 := HZ1.out; omega⟩) (fun q hq => ⟨(HRX.out q hq).2, (HRX.out q hq).1, by have h1 := (HOX.out.row q hq).1; have h2 := HZ1.out; omega⟩)).low B1.out.size).weaken (fun q hq => ⟨Nat.le_trans B1.out.size hq.1.1, hq.2⟩)
     · exact fun q hq => (HRX.out q hq).2
     · have ho := HOr.out
       rw [HF.out] at ho
       exact ho.keep (fun q hq _ => HK9.out.block q (by have h1 := BX.out.size; have h2 := HZ1.out; omega))
     · exact Kept.toBelow ((Kept.below (on B1.out BR.out)).trans (HK9.out.mono (fun q hq => by have hq2 : q < w.heap.size := hq; have h2 := HZ1.out; omega)))
set_option maxRecDepth 20000 in
theorem of_f (w : World) (P : Nat → Prop) (a b : Option Addr) (n c m d : Nat) (s : Sta) (hS : rSta.rd w P [.slice a n c, .slice b m d, .int .i64 s.2.2] s) :
 Calls Try.prog 9 #[.agg #[.slice a n c, .slice b m d, .int .i64 s.2.2]] w fun e w' => ∃ ua uc va vc, e = .returned (.agg #[.slice ua n uc, .slice va m vc, .int .i64 s.2.2]) ∧ rStaF.rd w' (fun q => w.heap.size ≤ q) [.slice ua n uc, .slice va m vc, .int .i64 s.2.2] s ∧ Below w.heap.size w w' := by
 obtain ⟨a', n', c', b', m', d', e, hD, hL, hi⟩ := q0X hS
 simp only [List.cons.injEq, Value.slice.injEq, and_true] at e
 obtain ⟨⟨rfl, rfl, rfl⟩, rfl, rfl, rfl⟩ := e
 have h1 : s.1.length = n := (q0Q hD).1
 have h2 : s.2.1.length = m := (q0Q hL).1
 have h3 : n * 24 ≤ 140737488351232 := (q0Q hD).2.2.2
 have h4 : m * 48 ≤ 140737488351232 := by have h : m * 48 ≤ 140737488351232 := (q0Q hL).2.2.2; exact h
 refine Calls.mono (of_o w P a b n c m d s hS h4 h3) ?_
 rintro e w' ⟨ua, uc, v, hi', rfl, g1, g2, g3, g4, g5, g6⟩
 have r1 := OwnsQ.rdQ (hs := by decide) g3 h1 h3 (fun k hk => ⟨(g3.row k hk).1, g4 k hk⟩)
 obtain ⟨va, vc, e2, r2⟩ := Owns.rd (hs := by decide) g5 (by rw [h2]; exact h4)
 rw [h2] at e2 r2
 refine ⟨ua, uc, va, vc, by rw [e2], ⟨[_], [_, _], rfl, rFrees.weaken r1 (fun q hq _ => hq.1), [_], [_], rfl, rSnpsF.weaken r2 (fun q hq _ => Nat.le_trans g1 hq), rfl, hi⟩, g6⟩
set_option maxRecDepth 20000 in
theorem ofV (w : World) (P : Nat → Prop) (a b : Option Addr) (n c m d : Nat) (t : Int) (s : Sta) (hS : rSta.rd w P [.slice a n c, .slice b m d, .int .i64 t] s) :
 Calls Try.prog 9 #[.agg #[.slice a n c, .slice b m d, .int .i64 t]] w fun e w' => ∃ ua uc va vc, e = .returned (.agg #[.slice ua n uc, .slice va m vc, .int .i64 t]) ∧ rStaF.rd w' (fun q => w.heap.size ≤ q) [.slice ua n uc, .slice va m vc, .int .i64 t] s ∧ Below w.heap.size w w' := by
 obtain ⟨a', n', c', b', m', d', e, -, -, -⟩ := q0X hS
 simp only [List.cons.injEq, Value.slice.injEq, Value.int.injEq, and_true, true_and] at e
 obtain ⟨-, -, rfl⟩ := e
 exact of_f w P a b n c m d s hS
theorem Row.whole6 {w : World} {b : Nat} {t : TypeId} {x0 x1 x2 x3 x4 x5 : Value} (V : Row w b t [x0, x1, x2, x3, x4, x5]) (u0 u1 u2 u3 u4 u5 : Value) :
 ∃ w', (((((w.setCell ⟨b, 0, none⟩ u0).setCell ⟨b, 1, none⟩ u1).setCell ⟨b, 2, none⟩ u2).setCell ⟨b, 3, none⟩ u3).setCell ⟨b, 4, none⟩ u4).setCell ⟨b, 5, none⟩ u5 = w' ∧ Row w' b t [u0, u1, u2, u3, u4, u5] ∧ Kept (· ≠ b) w w' :=
 ⟨_, rfl, (((((V.set 0 u0).set 1 u1).set 2 u2).set 3 u3).set 4 u4).set 5 u5, ((((((Kept.refl _ w).setCell (p := ⟨b, 0, none⟩) (fun h => h rfl) u0).setCell (p := ⟨b, 1, none⟩) (fun h => h rfl) u1).setCell (p := ⟨b, 2, none⟩) (fun h => h rfl) u2).setCell (p := ⟨b, 3, none⟩) (fun h => h rfl) u3).setCell (p := ⟨b, 4, none⟩) (fun h => h rfl) u4).setCell (p := ⟨b, 5, none⟩) (fun h => h rfl) u5⟩
set_option maxRecDepth 20000 in
theorem q3Q (w : World) (P : Nat → Prop) (k at' N id : Int) (nm : ByteArray) (dt : List UInt8) (xa : Option Addr) (xn xc : Nat) (hX : rBytes.rd w P [.slice xa xn xc] dt) :
 Calls Try.prog 10 #[.agg #[.int .i64 k, .int .i64 at', .int .i64 N, .int .i64 id, .string nm, .slice xa xn xc]] w fun e w' => ∃ b d, e = .returned (.agg #[.int .i64 k, .int .i64 at', .int .i64 N, .int .i64 id, .string nm, .slice b xn d]) ∧ rFree.rd w' (fun q => w.heap.size ≤ q) [.slice b xn d] dt ∧ Below w.heap.size w w' := by
 obtain ⟨w0, hw0, V0, b0, z0⟩ := q0q w 28 [.int .i64 k, .int .i64 at', .int .i64 N, .int .i64 id, .string nm, .slice xa xn xc]
 obtain ⟨w1, hw1, V1, b1, z1⟩ := q0q w0 33 [.int .i64 0, .int .i64 0, .int .i64 0, .int .i64 0, .string ⟨#[]⟩, .slice none 0 0]
 have HV0 : Hid (Row w1 w.heap.size 28 [.int .i64 k, .int .i64 at', .int .i64 N, .int .i64 id, .string nm, .slice xa xn xc]) := V0.below b1
 have HV1 : Hid _ := V1
 have B1 : Hid (Below w.heap.size w w1) := on b0 b1
 have HZl : Hid (w0.heap.size ≤ w1.heap.size) := b1.size
 have HZ0 : Hid (w.heap.size ≤ w0.heap.size ∧ w.heap.size < w0.heap.size ∧ w0.heap.size < w1.heap.size) := ⟨by omega, by omega, by omega⟩
 have HX1 : Hid (rBytes.rd w1 P [.slice xa xn xc] dt) := Rep.below hX B1.out
 have HSee : Hid (∀ w', Below w0.heap.size w1 w' → w'.cell? ⟨w.heap.size, 0, none⟩ = some (.int .i64 k) ∧ w'.cell? ⟨w.heap.size, 1, none⟩ = some (.int .i64 at') ∧ w'.cell? ⟨w.heap.size, 2, none⟩ = some (.int .i64 N) ∧ w'.cell? ⟨w.heap.size, 3, none⟩ = some (.int .i64 id) ∧ w'.cell? ⟨w.heap.size, 4, none⟩ = some (.string nm) ∧ w'.cell? ⟨w.heap.size, 5, none⟩ = some (.slice xa xn xc)) := fun w' hb0 => by
  have hb : ∀ j v, ([.int .i64 k, .int .i64 at', .int .i64 N, .int .i64 id, .string nm, .slice xa xn xc] : List Value)[j]? = some v → w'.cell? ⟨w.heap.size, j, none⟩ = some v := fun j v hj => Kept.cell (S := (· < w0.heap.size)) (Kept.below hb0) (p := ⟨w.heap.size, j, none⟩) HZ0.out.2.1 (HV0.out.cell (j := j) hj)
  exact ⟨hb 0 _ rfl, hb 1 _ rfl, hb 2 _ rfl, hb 3 _ rfl, hb 4 _ rfl, hb 5 _ rfl⟩
 have S0 := HSee.out _ (Below.refl _ w1).drew
 clear hX V0 V1 b0 b1 z0 z1
 go_enter Try.func10, Try.ntmps10
 go_wp2_with fail
 refine wp_region_held_drew (S := (fun w' : World => w'.cell? ⟨w.heap.size, 0, none⟩ = some (.int .i64 k) ∧ w'.cell? ⟨w.heap.size, 1, none⟩ = some (.int .i64 at') ∧ w'.cell? ⟨w.heap.size, 2, none⟩ = some (.int .i64 N) ∧ w'.cell? ⟨w.heap.size, 3, none⟩ = some (.int .i64 id) ∧ w'.cell? ⟨w.heap.size, 4, none⟩ = some (.string nm) ∧ w'.cell? ⟨w.heap.size, 5, none⟩ = some (.slice xa xn xc))) (by kernel_rfl) (S0) (fun hH => ?_)
 refine tkM 0 _ rfl rfl ?_; simp only [sz, ss]
 refine tkM 1 _ rfl rfl ?_; simp only [sz, ss]
 refine tkM 2 _ rfl rfl ?_; simp only [sz, ss]
 refine tkM 3 _ rfl rfl ?_; simp only [sz, ss]
 refine tkM 4 _ rfl rfl ?_; simp only [sz, ss]
 refine tkM 5 _ rfl rfl ?_; simp only [sz, ss]
 refine tkM 6 _ rfl rfl ?_; simp only [sz, ss]
 refine tkM 7 _ rfl rfl ?_; simp only [sz, ss]
 refine tkM 8 _ rfl rfl ?_; simp only [sz, ss]
 refine tkM 9 _ rfl rfl ?_; simp only [sz, ss]
 refine tkM 10 _ rfl rfl ?_; simp only [sz, ss]
 refine tkM 11 _ rfl rfl ?_; simp only [sz, ss]
 refine r1L 12 rfl fun K hK => ?_
 · go_simp
   go_at_call 28
   refine Calls.mono (copy_f w1.drew P xa xn xc dt (rBytes.keep HX1.out (fun _ _ _ => rfl))) ?_
   rintro e w2 ⟨b, d, rfl, hr, bd⟩
   have B2 : Hid (Below w1.heap.size w1 w2) := (Below.refl _ w1).drew.trans bd
   have HR2 : Hid (rFree.rd w2 (fun q => w1.heap.size ≤ q) [.slice b xn d] dt) := hr
   have S1 := HSee.out _ (B2.out.mono HZl.out)
   clear hr bd
   go_simp
   refine hK.out _ _ ?_ (fun hH => ?_)
   · try dsimp only
     first | exact S2 | exact S1 | exact S0
   clear hK K
   refine tkM 13 _ rfl rfl ?_; simp only [sz, ss]
   refine r1L 14 rfl fun K hK => ?_
   · have V2 : Hid _ := HV1.out.below B2.out
     have p0 := V2.out.cell (j := 0) rfl
     have f0 := V2.out.frozen 0
     have p1 := V2.out.cell (j := 1) rfl
     have f1 := V2.out.frozen 1
     have p2 := V2.out.cell (j := 2) rfl
     have f2 := V2.out.frozen 2
     have p3 := V2.out.cell (j := 3) rfl
     have f3 := V2.out.frozen 3
     have p4 := V2.out.cell (j := 4) rfl
     have f4 := V2.out.frozen 4
     have p5 := V2.out.cell (j := 5) rfl
     have f5 := V2.out.frozen 5
     obtain ⟨w3, hw3, V3, K3⟩ := V2.out.whole6 (.int .i64 k) (.int .i64 at') (.int .i64 N) (.int .i64 id) (.string nm) (.slice b xn d)
     have HV3 : Hid _ := V3
     have HK3 : Hid _ := K3
     have S2 := HSee.out _ (Kept.belowOf (B2.out.mono HZl.out) K3 (Nat.le_refl _))
     clear V3 K3
     go_simp
     refine hK.out _ _ ?_ (fun hH => ?_)
     · try dsimp only
       first | exact S2 | exact S1 | exact S0
     clear hK K
     refine wpAnyH_done (by kernel_rfl) ?_ _
     clear hH S2
     go_wp2
     refine bodyPost_ret (q1q rfl rfl HV3.out Try.underlying33 rfl (by kernel_rfl)) rfl ⟨b, d, rfl, ?_, ?_⟩
     · exact rFree.weaken (Rep.kept HR2.out HK3.out (fun q hq _ => by have h : w1.heap.size ≤ q := hq; have h2 := HZl.out; have h3 := HZ0.out; show q ≠ w0.heap.size; omega)) (fun q hq _ => Nat.le_trans B1.out.size hq)
     · exact Kept.toBelow ((Kept.below (on B1.out B2.out)).trans (HK3.out.mono (fun q hq => by have h : q < w.heap.size := hq; have h3 := HZ0.out; omega)))
theorem sameList_r (w : World) (P Q : Nat → Prop) (a b : Option Addr) (n c m d : Nat) (L K : List (List UInt8)) (hA : rSectors.rd w P [.slice a n c] L) (hB : rSectors.rd w Q [.slice b m d] K) :
 Calls Try.prog 24 #[.slice a n c, .slice b m d] w fun e w' => e = .returned (.bool (L == K)) ∧ Below w.heap.size w w' := by
 obtain ⟨hn, hn2⟩ := q5q hA
 obtain ⟨hm, hm2⟩ := q5q hB
 have HN : Hid _ := hn
 have HM : Hid _ := hm
 clear hn hm
 by_cases hnm : n = m
 case neg =>
  have hf : (L == K) = false := beq_eq_false_iff_ne.2 (fun e => hnm (by rw [← HN.out, ← HM.out, e]))
  have hne : ((n : Int) != (m : Int)) = true := bne_iff_ne.2 (by omega)
  rw [hf]
  go_enter Try.func24, Try.ntmps24
  go_wp2
  go_ret
  exact ⟨rfl, Below.refl _ _⟩
 subst hnm
 go_enter Try.func24, Try.ntmps24
 go_wp2
 go_loopw [5] (fun i wr => ∃ k : Nat, k ≤ n ∧ i = .int .i64 k ∧ Hid (L.take k = K.take k) ∧ Below w.heap.size w wr) (fun i _ => n - (intOf i).toNat)
 case atStart => exact ⟨0, Nat.zero_le _, rfl, by unfold Hid; simp, Below.refl _ _⟩
 case round =>
  obtain ⟨k, hk, rfl, HK, bel⟩ := hrel
  by_cases hlt : k < n
  · have hAr := Rep.below hA bel
    have hBr := Rep.below hB bel
    obtain ⟨g, off, rfl, -, -, hat⟩ := q5J hAr (by omega)
    obtain ⟨g', off', rfl, -, -, hbt⟩ := q5J hBr (by omega)
    have hkl : k < L.length := by rw [HN.out]; exact hlt
    have hkk : k < K.length := by rw [HM.out]; exact hlt
    obtain ⟨x, l, e, hx, -, hcell⟩ := hat k hkl
    obtain ⟨x', l', e', hx', -, hcell'⟩ := hbt k hkk
    have e1 := q2J wr.drew x l e _ (q1Q hx).1
    have e2 := q2J wr.drew x' l' e' _ (q1Q hx').1
    have HNX : Hid (L.take (k + 1) = L.take k ++ [L[k]]) := List.take_succ_eq_append_getElem hkl
    have HNK : Hid (K.take (k + 1) = K.take k ++ [K[k]]) := List.take_succ_eq_append_getElem hkk
    have HNE : Hid (L[k] ≠ K[k] → L ≠ K) := fun h e => h (by subst e; rfl)
    clear hat hbt hx hx' hAr hBr
    generalize L[k] = X at *
    generalize K[k] = Y at *
    go_wp2
    go_cut [27] (fun t wx => t = .bool (X != Y) ∧ wx = wr.drew)
    case first =>
     go_region_with fail
     all_goals (try go_wp2_with fail)
     all_goals go_meet
     all_goals exact ⟨rfl, rfl⟩
    case rest =>
     obtain ⟨rfl, rfl⟩ := hcut
     clear e1 e2 hcell hcell'
     by_cases hxy : X = Y
     · have hne : (X != Y) = false := by rw [hxy]; exact bne_self_eq_false _
       have HXY : Hid _ := hxy
       rw [hne]
       clear hxy hne
       go_wp2
       go_roundw
       case rel => exact ⟨k + 1, by omega, by go_num, by unfold Hid; rw [HNX.out, HNK.out, HK.out, HXY.out], bel.drew⟩
       case measure => simp [intOf]; omega
     · have hne : (X != Y) = true := bne_iff_ne.2 hxy
       have HF : Hid ((L == K) = false) := beq_eq_false_iff_ne.2 (HNE.out hxy)
       rw [hne]
       clear hxy hne
       go_wp2
       go_ret
       exact ⟨by rw [HF.out]; rfl, bel.drew⟩
  · obtain rfl : k = n := by omega
    have e : L = K := by
     have := HK.out
     rwa [List.take_of_length_le (by rw [HN.out]; exact Nat.le_refl _), List.take_of_length_le (by rw [HM.out]; exact Nat.le_refl _)] at this
    have E : Hid _ := e
    clear e
    go_wp2
    go_ret
    exact ⟨by rw [E.out]; simp, bel⟩
set_option maxRecDepth 20000 in
theorem sameList_q (w : World) (P Q : Nat → Prop) (a b : Option Addr) (n c m d : Nat) (L K : List (List UInt8)) (hA : rSectors.rd w P [.slice a n c] L) (hB : rSectors.rd w Q [.slice b m d] K) :
 Calls Try.prog 24 #[.slice a n c, .slice b m d] w fun e w' => e = .returned (.bool (L == K)) ∧ ∃ q, w' = w.drewN q := by
 obtain ⟨hn, hn2⟩ := q5q hA
 obtain ⟨hm, hm2⟩ := q5q hB
 have HN : Hid _ := hn
 have HM : Hid _ := hm
 clear hn hm
 by_cases hnm : n = m
 case neg =>
  have hf : (L == K) = false := beq_eq_false_iff_ne.2 (fun e => hnm (by rw [← HN.out, ← HM.out, e]))
  have hne : ((n : Int) != (m : Int)) = true := bne_iff_ne.2 (by omega)
  rw [hf]
  go_enter Try.func24, Try.ntmps24
  go_wp2
  go_ret
  exact ⟨rfl, 0, rfl⟩
 subst hnm
 go_enter Try.func24, Try.ntmps24
 go_wp2
 go_loopw [5] (fun i wr => ∃ k : Nat, k ≤ n ∧ i = .int .i64 k ∧ Hid (L.take k = K.take k) ∧ Hid (∃ q, wr = w.drewN q) ∧ Below w.heap.size w wr) (fun i _ => n - (intOf i).toNat)
 case atStart => exact ⟨0, Nat.zero_le _, rfl, by unfold Hid; simp, ⟨0, rfl⟩, Below.refl _ _⟩
 case round =>
  obtain ⟨k, hk, rfl, HK, HQ, bel⟩ := hrel
  have HQ2 : Hid (∃ q, wr.drew = w.drewN q) := by
   obtain ⟨q, hq⟩ := HQ.out
   exact ⟨q + 1, by rw [hq]; rfl⟩
  by_cases hlt : k < n
  · have hAr := Rep.below hA bel
    have hBr := Rep.below hB bel
    obtain ⟨g, off, rfl, -, -, hat⟩ := q5J hAr (by omega)
    obtain ⟨g', off', rfl, -, -, hbt⟩ := q5J hBr (by omega)
    have hkl : k < L.length := by rw [HN.out]; exact hlt
    have hkk : k < K.length := by rw [HM.out]; exact hlt
    obtain ⟨x, l, e, hx, -, hcell⟩ := hat k hkl
    obtain ⟨x', l', e', hx', -, hcell'⟩ := hbt k hkk
    have e1 := q2J wr.drew x l e _ (q1Q hx).1
    have e2 := q2J wr.drew x' l' e' _ (q1Q hx').1
    have HNX : Hid (L.take (k + 1) = L.take k ++ [L[k]]) := List.take_succ_eq_append_getElem hkl
    have HNK : Hid (K.take (k + 1) = K.take k ++ [K[k]]) := List.take_succ_eq_append_getElem hkk
    have HNE : Hid (L[k] ≠ K[k] → L ≠ K) := fun h e => h (by subst e; rfl)
    clear hat hbt hx hx' hAr hBr
    generalize L[k] = X at *
    generalize K[k] = Y at *
    go_wp2
    go_cut [27] (fun t wx => t = .bool (X != Y) ∧ wx = wr.drew)
    case first =>
     go_region_with fail
     all_goals (try go_wp2_with fail)
     all_goals go_meet
     all_goals exact ⟨rfl, rfl⟩
    case rest =>
     obtain ⟨rfl, rfl⟩ := hcut
     clear e1 e2 hcell hcell'
     by_cases hxy : X = Y
     · have hne : (X != Y) = false := by rw [hxy]; exact bne_self_eq_false _
       have HXY : Hid _ := hxy
       rw [hne]
       clear hxy hne
       go_wp2
       go_roundw
       case rel => exact ⟨k + 1, by omega, by go_num, by unfold Hid; rw [HNX.out, HNK.out, HK.out, HXY.out], HQ2, bel.drew⟩
       case measure => simp [intOf]; omega
     · have hne : (X != Y) = true := bne_iff_ne.2 hxy
       have HF : Hid ((L == K) = false) := beq_eq_false_iff_ne.2 (HNE.out hxy)
       rw [hne]
       clear hxy hne
       go_wp2
       go_ret
       exact ⟨by rw [HF.out]; rfl, HQ2.out⟩
  · obtain rfl : k = n := by omega
    have e : L = K := by
     have := HK.out
     rwa [List.take_of_length_le (by rw [HN.out]; exact Nat.le_refl _), List.take_of_length_le (by rw [HM.out]; exact Nat.le_refl _)] at this
    have E : Hid _ := e
    clear e
    go_wp2
    go_ret
    exact ⟨by rw [E.out]; simp, HQ.out⟩
set_option maxRecDepth 20000 in
theorem qBZ (w : World) (P Q : Nat → Prop) (cs ds : List Value) (s : Sta) (hS : rSta.rd w P cs s) (hT : rSta.rd w Q ds s) :
 Calls Try.prog 13 #[.agg cs.toArray, .agg ds.toArray] w fun e w' => e = .returned (.int .i64 0) ∧ Below w.heap.size w w' := by
 obtain ⟨a, n, c, b, m, d, rfl, hA, hL, hi⟩ := q0X hS
 obtain ⟨a', n', c', b', m', d', rfl, hA', hL', -⟩ := q0X hT
 obtain rfl : n = n' := by rw [← (q0Q hA).1, ← (q0Q hA').1]
 obtain rfl : m = m' := by rw [← (q0Q hL).1, ← (q0Q hL').1]
 obtain ⟨D, l, next⟩ := s
 simp only at hA hA' hL hL' hi
 have HM : Hid (l.length = m) := (q0Q hL).1
 have hm0 : m ≤ 5864062014634 := by have : m * 24 ≤ 140737488351232 := by { have := (q0Q hL).2.2.2; exact Nat.le_trans (Nat.mul_le_mul_left m (by decide)) this }; omega
 obtain ⟨w0, hw0, V0, b0, z0⟩ := q0q w 31 [.slice a n c, .slice b m d, .int .i64 next]
 obtain ⟨w1, hw1, V1, b1, z1⟩ := q0q w0 25 [.slice a' n c', .slice b' m d', .int .i64 next]
 have X1 : Hid (Row w1 w.heap.size 31 [.slice a n c, .slice b m d, .int .i64 next]) := V0.below b1
 have Y1 : Hid _ := V1
 have B1 : Hid (Below w.heap.size w w1) := on b0 b1
 have HA1 : Hid (rSectors.rd w1 P [.slice a n c] D) := Rep.below hA B1.out
 have HB1 : Hid (rSectors.rd w1 Q [.slice a' n c'] D) := Rep.below hA' B1.out
 have HL1 : Hid (rSnps.rd w1 P [.slice b m d] l) := Rep.below hL B1.out
 have HK1 : Hid (rSnps.rd w1 Q [.slice b' m d'] l) := Rep.below hL' B1.out
 have q0 := X1.out.cell (j := 0) rfl
 have q1 := X1.out.cell (j := 1) rfl
 have q2 := X1.out.cell (j := 2) rfl
 have r0 := Y1.out.cell (j := 0) rfl
 have r1 := Y1.out.cell (j := 1) rfl
 have r2 := Y1.out.cell (j := 2) rfl
 clear hS hT V0 V1 b0 b1 z0 z1 hA hA' hL hL'
 go_enter Try.func13, Try.ntmps13
 go_wp2_with (go_at_call 24; refine (sameList_r _ _ _ a a' n c n c' D D HA1.out HB1.out).mono ?_; rintro e w2 ⟨rfl, b2⟩; rw [beq_self_eq_true]; have X2 : Hid _ := X1.out.below b2; have Y2 : Hid _ := Y1.out.below b2; have s1 := X2.out.cell (j := 1) rfl; have t1 := Y2.out.cell (j := 1) rfl)
 have B2 : Hid _ := b2
 clear q0 q1 q2 r0 r1 r2 hw0 hw1 s1 t1 b2
 go_loopw [5] (fun i wr => ∃ k : Nat, k ≤ m ∧ i = .int .i64 k ∧ Below w2.heap.size w2 wr) (fun i _ => m - (intOf i).toNat)
 case atStart => exact ⟨0, Nat.zero_le _, rfl, Below.refl _ _⟩
 case round =>
  obtain ⟨k, hk, rfl, bk⟩ := hrel
  have s1 := (X2.out.below bk).cell (j := 1) rfl
  have t1 := (Y2.out.below bk).cell (j := 1) rfl
  have BK : Hid _ := bk
  by_cases hlt : k < m
  · have hkl : k < l.length := by rw [HM.out]; exact hlt
    obtain ⟨g, off, rfl, -, hgl, hat⟩ := q1J (Rep.below HL1.out (on B2.out bk)) (by omega)
    obtain ⟨g', off', rfl, -, hgl', hbt⟩ := q1J (Rep.below HK1.out (on B2.out bk)) (by omega)
    obtain ⟨x, xm, xd, hx, -, c0, c1, c2, -, hs⟩ := hat k hkl
    obtain ⟨x', xm', xd', hx', -, d0, d1, d2, -, -⟩ := hbt k hkl
    have HX : Hid _ := hx
    have HX' : Hid _ := hx'
    have hI : (k : Int) < (m : Int) := by omega
    clear hat hbt hx hx' bk
    generalize l[k].1 = id at *
    generalize l[k].2.1 = nm at *
    generalize l[k].2.2 = Y at *
    have e1 : (id != id) = false := bne_self_eq_false _
    have e2 : (nm.toList != nm.toList) = false := bne_self_eq_false _
    have HSAME : Hid (∀ nn, Calls Try.prog 24 #[.slice x xm xd, .slice x' xm' xd'] (wr.drewN nn) fun e w' => e = .returned (.bool true) ∧ ∃ q, w' = (wr.drewN nn).drewN q) := by
     intro nn
     refine (sameList_q (wr.drewN nn) _ _ x x' xm xd xm' xd' Y Y (rSectors.keep HX.out (fun _ _ _ => rfl)) (rSectors.keep HX'.out (fun _ _ _ => rfl))).mono ?_
     rintro e w' ⟨rfl, q, rfl⟩
     exact ⟨by rw [beq_self_eq_true], q, rfl⟩
    go_wp2_with fail
    go_quiet ((go_at_call 24; exact Calls.quiet_of (HSAME.out _)))
    go_wp2
    go_roundw
    case rel => exact ⟨k + 1, by omega, by go_num, below_drewN BK.out _⟩
    case measure => simp [intOf]; omega
  · obtain rfl : k = m := by omega
    go_wp2
    go_ret
    exact ⟨rfl, on B1.out (on B2.out BK.out)⟩
theorem qAq (w : World) (a b : Option Addr) (n c m d : Nat) (l k : List UInt8) (ha : IsB w a n l) (hb : IsB w b m k) :
 Calls Try.prog 18 #[.slice a n c, .slice b m d] w fun e w' => e = .returned (.bool (l == k)) ∧ w = w' := by
 have e1 := q2J w a n c l ha
 have e2 := q2J w b m d k hb
 clear ha hb
 go_enter Try.func18, Try.ntmps18
 go_wp2
 go_ret
 exact ⟨rfl, rfl⟩
end Go.Proofs.Ytoophkmnppoppaa
