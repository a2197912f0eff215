/-
  The contract of the document's own acts that are done, those that are kept. Conditions: those that it names.
-/
import Derived.Test.YtckcicomkapdeaaRDone
import Derived.Test.YtckcicomkapdeaaRHOwn
import Derived.Test.YtckcicomkapdeaaRHCheck
import Derived.Test.YtckcicomkapdeaaHCalls
namespace Go.Proofs.Ytckcicomkapdeaa
open Go.RowKit
set_option linter.unusedVariables false

set_option maxRecDepth 20000 in
set_option maxHeartbeats 8000000 in
theorem refSettled_u (w : World) (P : Nat → Prop) (cs : List Value) (s : Host) (ka : Option Addr) (kn kc : Nat) (K : List Bool) (al : Bool) (hS : rHost.rd w P cs s) (hok : Hst.ok s = true) (hK : rBools.rd w P [.slice ka kn kc] K) :
    Calls Try.prog 40 #[.agg cs.toArray, .slice ka kn kc, .bool al] w fun e w' => ∃ cs', e = .returned (.agg cs'.toArray) ∧ rHost.rd w' (fun b => w.heap.size ≤ b) cs' (Hst.settled s (fun i => al || Hst.those K i)) ∧ Below w.heap.size w w' := by
  have hS' := hS
  obtain ⟨a, n, c, b, m, d, rfl, -, -, -, hm, hc1, hc2, -, hm2⟩ := rHost_cells hS'
  obtain ⟨o1, o2, -, osec, oact⟩ := Hst.ok_parts hok
  obtain ⟨L, W, cp⟩ := s
  simp only at hm hc1 hc2 o1 o2 osec oact
  have HM : Hid _ := hm
  have HSEC : Hid _ := osec
  have HACT : Hid _ := oact
  obtain ⟨w0, hw0, -, -, -, b0, z0⟩ := boxed3 w 25 (.slice a n c) (.slice b m d) (.int .i64 cp)
  obtain ⟨w1, hw1, -, -, -, b1, z1⟩ := boxed3 w0 25 (.slice none 0 0) (.slice none 0 0) (.int .i64 0)
  have x0 : Var3 w0 w.heap.size (.slice a n c) (.slice b m d) (.int .i64 cp) := by rw [← hw0]; exact var3_new _ _ _ _ _
  have r1 : Var3 w1 w0.heap.size (.slice none 0 0) (.slice none 0 0) (.int .i64 0) := by rw [← hw1]; exact var3_new _ _ _ _ _
  rw [z0] at r1
  have X1 : Hid _ := x0.below b1
  have R1 : Hid _ := r1
  have bel : Below w.heap.size w w1 := on b0 b1
  have HS1 : Hid _ := Rep.below hS bel
  have HK1 : Hid _ := Rep.below (rBools.weaken hK (P' := fun b => b < w.heap.size) (fun b _ hl => hl)) bel
  have hs1 : w1.heap.size = w.heap.size + 2 := by omega
  have HZ1 : Hid _ := hs1
  have q0 := X1.out.c0
  have q1 := X1.out.c1
  have q2 := X1.out.c2
  have hkn := (rBools_at hK).1
  have HKN : Hid _ := hkn
  have hkn2 := (rBools_at hK).2.1
  clear hS hS' hm osec oact x0 r1 b0 b1 hK hok hkn
  go_enter Try.func40, Try.ntmps40
  go_wp2_with fail
  refine (refOwn_u _ _ _ _ HS1.out).mono ?_
  rintro e w2 ⟨cs2, rfl, hr2, b2⟩
  obtain ⟨a2, n2, c2, b2', m2, d2, rfl, hA2, hW2, hn2, hm2', -⟩ := rHost_cells hr2
  simp only at hA2 hW2 hn2 hm2'
  obtain rfl : m2 = m := by rw [← hm2']; exact HM.out
  obtain ⟨v2, hv2, -, -, -, bv2, zv2⟩ := boxed3 w2 25 (.slice a2 n2 c2) (.slice b2' m2 d2) (.int .i64 cp)
  have V2 : Hid (Var3 v2 w2.heap.size (.slice a2 n2 c2) (.slice b2' m2 d2) (.int .i64 cp)) := by rw [← hv2]; exact var3_new _ _ _ _ _
  have HA2 : Hid (rSectors.rd v2 (fun b => w1.heap.size ≤ b ∧ b ≠ w2.heap.size) [.slice a2 n2 c2] L) := Rep.below (rSectors.weaken hA2 (fun b hb hl => ⟨hb, by omega⟩)) bv2
  have HW2 : Hid (rWaits.rd v2 (fun b => w1.heap.size ≤ b ∧ b ≠ w2.heap.size) [.slice b2' m2 d2] W) := Rep.below (rWaits.weaken hW2 (fun b hb hl => ⟨hb, by omega⟩)) bv2
  have hz2 := b2.size
  have hzv : w2.heap.size < v2.heap.size := by omega
  have R2 : Hid _ := (R1.out.below b2).below bv2
  have HK2 : Hid _ := Rep.below HK1.out (on b2 bv2)
  have bel2 : Below w.heap.size w v2 := on (on bel b2) bv2
  have HN2 : Hid _ := hn2
  have H0 : Hst.doneAll (fun i => al || Hst.those K i) 0 L (W.take 0) = L := by simp [Hst.doneAll]
  have HZV : Hid _ := zv2
  clear hr2 hA2 hW2 hn2 hm2' q0 q1 q2 hs1 zv2
  go_wp2_with fail
  clear hv2 hw0 hw1 z0 z1
  go_loopw [8] (fun i wr => ∃ (k : Nat) (b3 : Option Addr) (n3 d3 : Nat) (M : List (List UInt8)), k ≤ m2 ∧ i = .int .i64 k ∧ Hid (M = Hst.doneAll (fun i => al || Hst.those K i) 0 L (W.take k)) ∧ Hid (Var3 wr w2.heap.size (.slice b3 n3 d3) (.slice b2' m2 d2) (.int .i64 cp)) ∧ Hid (rSectors.rd wr (fun b => w1.heap.size ≤ b ∧ b ≠ w2.heap.size) [.slice b3 n3 d3] M) ∧ Hid (Kept (fun b => b < v2.heap.size ∧ b ≠ w2.heap.size) v2 wr)) (fun i _ => m2 - (intOf i).toNat)
  case atStart => exact ⟨0, _, _, _, L, Nat.zero_le _, rfl, H0.symm, V2, HA2, Kept.refl _ _⟩
  case round =>
    obtain ⟨k, b3, n3, d3, M, hk, rfl, HM3, V3, HA3, KP⟩ := hrel
    clear H0 V2 HA2
    have y0 := V3.out.c0
    have y1 := V3.out.c1
    have y2 := V3.out.c2
    by_cases hlt : k < m2
    · have hkl : k < W.length := by rw [HM.out]; exact hlt
      have HSTEP : Hid (Hst.doneAll (fun i => al || Hst.those K i) 0 L (W.take (k + 1)) = if (al || Hst.those K k) = true then Hst.done M W[k] else M) := by unfold Hid; rw [Hst.doneAll_take _ _ _ _ hkl, HM3.out]
      have hKr := Rep.kept HK2.out KP.out (fun b hb hl => ⟨hl, by have := HZ1.out; omega⟩)
      obtain ⟨hkl2, -, hkat⟩ := rBools_at hKr
      have HKL : Hid (k < kn → ∃ bb off, ka = some ⟨bb, off, none⟩ ∧ wr.cell? ⟨bb, off + k, none⟩ = some (.bool (Hst.those K k))) := by
        intro h
        obtain ⟨bb, off, e1, e2, e3⟩ := hkat (by omega)
        have hh : k < K.length := by omega
        refine ⟨bb, off, e1, ?_⟩
        rw [e3 k hh]
        unfold Hst.those
        rw [List.getD_eq_getElem?_getD, List.getElem?_eq_getElem hh]
        rfl
      have HKF : Hid (¬ k < kn → Hst.those K k = false) := by
        intro h
        unfold Hst.those
        rw [List.getD_eq_getElem?_getD, List.getElem?_eq_none (by omega)]
        rfl
      clear hKr hkl2 hkat
      obtain ⟨g, off, rfl, hgP, hgl, hat⟩ := rWaits_at (Rep.kept HW2.out KP.out (fun b hb hl => ⟨hl, hb.2⟩)) (by omega)
      obtain ⟨x, l, e, hx, -, c0, c1, c2, -, -⟩ := hat k hkl
      have HX : Hid _ := hx
      have HACTK : Hid _ := HACT.out _ (List.getElem_mem hkl)
      have hMok : Hst.secOk cp M := by rw [HM3.out]; exact Hst.doneAll_ok _ _ _ HSEC.out (fun a ha => HACT.out a (List.mem_of_mem_take ha))
      have hn3 : n3 ≤ 65536 := by have h1 := (rSectors_len HA3.out).1; have h2 := hMok.1; omega
      clear hat hx hMok
      generalize W[k] = A at *
      have hz3 := KP.out.size
      have hI : (k : Int) < (m2 : Int) := by omega
      have fz := V3.out.f 0
      generalize hyv : Hst.those K k = yv at *
      clear hyv
      have HCALL : Hid (Calls Try.prog 52 #[.slice b3 n3 d3, .agg #[.int .i64 A.1, .int .i64 A.2.1, .slice x l e]] wr.drew fun e w' => ∃ b k c', e = .returned (.slice b k c') ∧ rSectors.rd w' (fun b => w1.heap.size ≤ b ∧ b ≠ w2.heap.size) [.slice b k c'] (Hst.done M A) ∧ Below wr.heap.size wr w') := by
        have h1 : rSectors.rd wr.drew (fun b => w1.heap.size ≤ b ∧ b ≠ w2.heap.size) [.slice b3 n3 d3] M := HA3.out
        have h2 : rBytes.rd wr.drew (fun b => w1.heap.size ≤ b ∧ b ≠ w2.heap.size) [.slice x l e] A.2.2 := HX.out
        refine (refDone_u wr.drew _ b3 n3 d3 M h1 A x l e h2 cp HACTK.out o2 hn3).mono ?_
        rintro e' w' ⟨b', k', c', rfl, h3, h4⟩
        exact ⟨b', k', c', rfl, rSectors.weaken h3 (fun b hb _ => hb.elim (fun h => h.1) (fun h => by have h5 : wr.heap.size ≤ b := h; exact ⟨by omega, by omega⟩)), same_drew h4⟩
      have HNO : Hid ((al || yv) = false → M = Hst.doneAll (fun i => al || Hst.those K i) 0 L (W.take (k + 1))) := fun h => by rw [HSTEP.out, h]; rfl
      have HYES : Hid ((al || yv) = true → Hst.done M A = Hst.doneAll (fun i => al || Hst.those K i) 0 L (W.take (k + 1))) := fun h => by rw [HSTEP.out, h]; rfl
      clear HSTEP
      cases al
      · by_cases hkk : k < kn
        · obtain ⟨bb, off', rfl, hcb⟩ := HKL.out hkk
          have hKI : (k : Int) < (kn : Int) := by omega
          cases yv
          · have HNEXT : Hid _ := HNO.out rfl
            clear HNO HYES
            go_wp2
            go_roundw
            case rel => exact ⟨k + 1, b3, n3, d3, M, by omega, by go_num, HNEXT, V3, HA3, KP⟩
            case measure => simp [intOf]; omega
          · have HNEXT : Hid _ := HYES.out rfl
            clear HNO HYES
            go_wp2
            go_region_law (go_simp; go_at_call 52; refine HCALL.out.mono ?_; rintro e' w5 ⟨b5, n5, c5, rfl, hr5, bb5⟩; have V5 : Hid _ := V3.out.below bb5; have s0 := V5.out.c0; have s1 := V5.out.c1; have s2 := V5.out.c2; have g0 := V5.out.f 0)
            all_goals go_wp2
            all_goals
              go_roundw
              case rel => exact ⟨k + 1, b5, n5, c5, Hst.done M A, by omega, by go_num, HNEXT, V5.out.set0 _, rSectors.keep hr5 (fun b hb _ => Below.heap_setCell _ _ _ _ hb.2), (KP.out.on (fun b hb => by omega) bb5).setCell (p := ⟨w2.heap.size, 0, none⟩) (fun h => h.2 rfl) _⟩
              case measure => simp [intOf]; omega
        · have hKI : (kn : Int) ≤ (k : Int) := by omega
          obtain rfl : yv = false := HKF.out hkk
          have HNEXT : Hid _ := HNO.out rfl
          clear HNO HYES
          go_wp2
          go_roundw
          case rel => exact ⟨k + 1, b3, n3, d3, M, by omega, by go_num, HNEXT, V3, HA3, KP⟩
          case measure => simp [intOf]; omega
      · have HNEXT : Hid _ := HYES.out (by simp)
        clear HNO HYES
        go_wp2
        go_region_law (go_simp; go_at_call 52; refine HCALL.out.mono ?_; rintro e' w5 ⟨b5, n5, c5, rfl, hr5, bb5⟩; have V5 : Hid _ := V3.out.below bb5; have s0 := V5.out.c0; have s1 := V5.out.c1; have s2 := V5.out.c2; have g0 := V5.out.f 0)
        all_goals go_wp2
        all_goals
          go_roundw
          case rel => exact ⟨k + 1, b5, n5, c5, Hst.done M A, by omega, by go_num, HNEXT, V5.out.set0 _, rSectors.keep hr5 (fun b hb _ => Below.heap_setCell _ _ _ _ hb.2), (KP.out.on (fun b hb => by omega) bb5).setCell (p := ⟨w2.heap.size, 0, none⟩) (fun h => h.2 rfl) _⟩
          case measure => simp [intOf]; omega
    · obtain rfl : k = m2 := by omega
      rw [List.take_of_length_le (by rw [HM.out]; exact Nat.le_refl _)] at HM3
      have f1 := V3.out.f 1
      have hHZ := HZ1.out
      have R3 : Hid (Var3 wr (w.heap.size + 1) (.slice none 0 0) (.slice none 0 0) (.int .i64 0)) := R2.out.keep (KP.out.block _ ⟨by omega, by omega⟩)
      obtain ⟨v5, hv5⟩ : ∃ v5, wr.setCell ⟨w2.heap.size, 1, none⟩ (.slice none 0 0) = v5 := ⟨_, rfl⟩
      have V5 : Hid (Var3 v5 w2.heap.size (.slice b3 n3 d3) (.slice none 0 0) (.int .i64 cp)) := by rw [← hv5]; exact V3.out.set1 _
      have k5 : Kept (· ≠ w2.heap.size) wr v5 := by rw [← hv5]; exact (Kept.refl _ _).setCell (p := ⟨w2.heap.size, 1, none⟩) (fun h => h rfl) _
      have R5 : Hid (Var3 v5 (w.heap.size + 1) (.slice none 0 0) (.slice none 0 0) (.int .i64 0)) := R3.out.keep (k5.block _ (by show w.heap.size + 1 ≠ _; omega))
      have g0 := R5.out.c0
      have g1 := R5.out.c1
      have g2 := R5.out.c2
      have j0 := R5.out.f 0
      have j1 := R5.out.f 1
      have j2 := R5.out.f 2
      have s0 := V5.out.c0
      have s1 := V5.out.c1
      have s2 := V5.out.c2
      have bel5 : Below w.heap.size w v5 := (bel2.trans ⟨KP.out.os, KP.out.tape, KP.out.output, KP.out.size, fun b hb => KP.out.block b ⟨by omega, by omega⟩⟩).trans ⟨k5.os, k5.tape, k5.output, k5.size, fun b hb => k5.block b (by omega)⟩
      have HA5 : Hid _ := Rep.kept HA3.out k5 (fun b hb _ => hb.2)
      have HHZ : Hid _ := hHZ
      clear hHZ R3 k5
      go_wp2
      have T := R5.out.whole (.slice b3 n3 d3) (.slice none 0 0) (.int .i64 cp)
      have hHZ := HHZ.out
      refine bodyPost_ret (results_var3 rfl rfl T.1 Try.underlying25 rfl (by kernel_rfl)) rfl ⟨[.slice b3 n3 d3, .slice none 0 0, .int .i64 cp], rfl, ?_, Kept.belowOf bel5 T.2 (by omega)⟩
      have e1 : Hst.settled (L, W, cp) (fun i => al || Hst.those K i) = (M, [], cp) := by unfold Hst.settled; rw [HM3.out]
      rw [e1]
      exact rHost.weaken (Rep.kept (rHost_sectors HA5.out hc1 hc2) T.2 (fun b hb _ => by have h1 : w1.heap.size ≤ b := hb.1; show b ≠ _; omega)) (fun b hb _ => by have h1 : w1.heap.size ≤ b := hb.1; omega)

end Go.Proofs.Ytckcicomkapdeaa
