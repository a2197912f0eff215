/-
  The contract of the sectors that are shown behind those acts that are picked. Conditions: those that each contract names.
-/
import Derived.Test.YtckcicomkapdeaaHLong
namespace Go.Proofs.Ytckcicomkapdeaa
open Go.RowKit
set_option linter.unusedVariables false

theorem zero_bytes : ∀ w, (zeroValue 26).run Try.prog w = .ok (.slice none 0 0) w := fun _ => by kernel_rfl

theorem every_u (w : World) (i : Int) : Calls Try.prog 39 #[.int .i64 i] w fun e w' => e = .returned (.bool true) ∧ w = w' := by
  go_enter Try.func39, Try.ntmps39
  go_wp2
  go_ret
  exact ⟨rfl, rfl⟩

theorem rBools_at {w : World} {P : Nat → Prop} {a : Option Addr} {n c : Nat} {l : List Bool} (h : rBools.rd w P [.slice a n c] l) : l.length = n ∧ n ≤ 140737488351232 ∧ (0 < n → ∃ b off, a = some ⟨b, off, none⟩ ∧ b < w.heap.size ∧ ∀ (j : Nat) (hj : j < l.length), w.cell? ⟨b, off + j, none⟩ = some (.bool l[j])) := by
  have h' := h
  obtain ⟨a', n', c', e, g1, g2, g3, g4, g5⟩ := h
  simp only [List.cons.injEq, Value.slice.injEq, and_true] at e
  obtain ⟨rfl, rfl, rfl⟩ := e
  have g4' : n * 1 ≤ 140737488351232 := g4
  refine ⟨g1, by omega, fun hn => ?_⟩
  obtain ⟨b, off, e1, -, e3, e4⟩ := rList_at h' hn
  refine ⟨b, off, e1, e3, fun j hj => ?_⟩
  obtain ⟨cj, k1, k2⟩ := e4 j hj
  have k1' : cj = [.bool l[j]] := k1
  subst k1'
  have := k2 0 _ rfl
  rwa [show j * rBool.size + 0 = j from by show j * 1 + 0 = j; omega] at this

theorem kept_u (w : World) (P : Nat → Prop) (a : Option Addr) (n c B i : Nat) (K : List Bool) (hb : w.cell? ⟨B, 0, none⟩ = some (.slice a n c)) (hK : rBools.rd w P [.slice a n c] K) (hi : i ≤ 4096) :
    Calls Try.prog 41 #[.int .i64 (i : Int), .pointer (some ⟨B, 0, none⟩)] w fun e w' => e = .returned (.bool (Hst.those K i)) ∧ w = w' := by
  obtain ⟨h1, h2, h3⟩ := rBools_at hK
  by_cases hlt : i < n
  · obtain ⟨b, off, rfl, hbl, hat⟩ := h3 (by omega)
    have hil : i < K.length := by omega
    have hc := hat i hil
    have HE : Hid (Hst.those K i = K[i]) := by unfold Hid Hst.those; rw [List.getD_eq_getElem?_getD, List.getElem?_eq_getElem hil]; rfl
    clear h1 h3 hat hK
    generalize K[i] = y at *
    go_enter Try.func41, Try.ntmps41
    go_wp2
    all_goals go_ret
    all_goals exact ⟨by rw [HE.out]; rfl, rfl⟩
  · have HE : Hid (Hst.those K i = false) := by unfold Hid Hst.those; rw [List.getD_eq_getElem?_getD, List.getElem?_eq_none (by omega)]; rfl
    clear h1 h3 hK
    go_enter Try.func41, Try.ntmps41
    go_wp2
    all_goals go_ret
    all_goals exact ⟨by rw [HE.out]; rfl, rfl⟩

theorem clear_pad {N t : Nat} {vs : List Value} {z : Value} (h : vs.length = N) (ht : t ≤ N) : splice vs t (List.replicate (N - t) z) = vs.take t ++ List.replicate (N - t) z := by
  unfold splice
  rw [List.length_replicate, List.drop_eq_nil_of_le (by omega), List.append_nil]

theorem first_pad {N : Nat} {xs : List Value} {z : Value} : splice (List.replicate N z) 0 xs = xs ++ List.replicate (N - xs.length) z := by
  unfold splice
  simp

set_option maxHeartbeats 4000000 in
theorem shownAll_u (w : World) (P : Nat → Prop) (cs : List Value) (s : Host) (hS : rHost.rd w P cs s) (hok : Hst.ok s = true) :
    Calls Try.prog 38 #[.agg cs.toArray, .func (.func 39) #[] #[]] w fun e w' => ∃ b n c, e = .returned (.slice b n c) ∧ rPads.rd w' (fun _ => True) [.slice b n c] (Hst.doneAll (Hst.all) 0 s.1 s.2.1) ∧ Below w.heap.size w w' := by
  have hS0 := hS
  obtain ⟨a, n, c, b, m, d, rfl, hA, hW, hn, hm, hc1, hc2, hn2, hm2⟩ := rHost_cells hS
  obtain ⟨o1, o2, hm3, hsec, hacts⟩ := Hst.ok_parts hok
  obtain ⟨L, W, cp⟩ := s
  simp only at hn hm hc1 hc2 hA hW hm3 hsec hacts o1 o2
  have HN : Hid _ := hn
  have HM : Hid _ := hm
  have HACT : Hid _ := hacts
  have HSEC : Hid _ := hsec.2
  have hm4 : m ≤ 4096 := by rw [← hm]; exact hm3
  obtain ⟨w0, hw0, p0, p1, p2, b0, z0⟩ := boxed3 w 30 (.slice a n c) (.slice b m d) (.int .i64 cp)
  have HS0 : Hid _ := Rep.below hS0 b0
  have hA0 := Rep.below (rSectors.weaken hA (P' := fun b => b < w.heap.size) (fun b _ hl => hl)) b0
  have hW0 := Rep.below (rWaits.weaken hW (P' := fun b => b < w.heap.size) (fun b _ hl => hl)) b0
  clear hS hS0 hn hm hA hW hacts hsec hm3
  go_enter Try.func38, Try.ntmps38
  go_wp2_with (first
    | (go_at_call 51; refine (longest_u _ _ _ _ HS0.out hok).mono ?_; rintro e w1 ⟨N, rfl, hN1, hN2, hN3, b1⟩; have HN1 : Hid _ := hN1; have HN2 : Hid _ := hN2; clear hN1 hN2; have q0 := (b1.cell (p := ⟨w.heap.size, 0, none⟩) (by show w.heap.size < _; omega)).trans p0; have q1 := (b1.cell (p := ⟨w.heap.size, 1, none⟩) (by show w.heap.size < _; omega)).trans p1)
    | (at_make; refine make_row _ rfl _ _ 22 rfl 26 (.slice none 0 0) 24 Try.underlying22 info_bytes rfl N _ rfl rfl rfl (by omega) (by omega) ?_; intro w2 HR b2 z2; have r0 := (b2.cell (p := ⟨w.heap.size, 0, none⟩) (by show w.heap.size < _; have := b1.size; omega)).trans q0; have r1 := (b2.cell (p := ⟨w.heap.size, 1, none⟩) (by show w.heap.size < _; have := b1.size; omega)).trans q1))
  have hz1 := b1.size
  have bel2 : Below w.heap.size w w2 := on (on b0 b1) b2
  have hA2 := Rep.below (Rep.below hA0 b1) b2
  obtain ⟨xs, hE, hone, hcell⟩ := values_of rfl hA2
  have hxl : xs.length = n := by rw [hE.len]; exact HN.out
  have hnN : n ≤ N := by have h : L.length ≤ N := HN1.out; rw [HN.out] at h; exact h
  obtain ⟨w3, hrun, HR3, k3, z3⟩ := copy_run (Pr := Try.prog) w2 22 22 3 26 Try.underlying22 (by kernel_rfl) (some ⟨w1.heap.size, 0, none⟩) a N N n c w1.heap.size 0 _ 26 HR.out xs (by rw [hxl]; exact (Nat.min_eq_left hnN).symm) (fun hp => ⟨rfl, hcell hp⟩) (by rw [List.length_replicate, hxl]; omega) hone
  rw [hrun, hxl]
  rw [first_pad, hxl] at HR3
  have bel3 : Below w.heap.size w w3 := Kept.belowOf bel2 k3 (by omega)
  have r13 := (k3.cell (p := ⟨w.heap.size, 1, none⟩) (by show w.heap.size ≠ w1.heap.size; omega) r1)
  have hE3 : Each rPad w3 (fun b => b < w.heap.size) (xs ++ List.replicate (N - n) (.slice none 0 0)) (Hst.pad N L) := by
    have h1 := (hE.pad HSEC.out).keep (w' := w3) (fun b hb hl => k3.block b (by show b ≠ _; omega))
    unfold Hst.pad
    rw [HN.out]
    exact h1.append (Each.replicate _ (pad_nil _ _))
  have hW3 : rWaits.rd w3 (fun b => b < w.heap.size) [.slice b m d] W := Rep.kept (Rep.below (Rep.below hW0 b1) b2) k3 (fun b hb hl => by show b ≠ _; omega)
  have HR3' : Hid _ := HR3
  have HE3 : Hid _ := hE3
  have hs3 : w1.heap.size < w3.heap.size := by omega
  have bel13 : Below w1.heap.size w1 w3 := Kept.belowOf b2 k3 (Nat.le_refl _)
  clear hrun hw0 p0 p1 p2 q0 q1 r0 r1 HR HR3 hE hE3 hone hcell hA2 hA0 hW0 k3 z3 z2 b2 HS0
  go_wp2
  clear r13
  have H0 : Hst.doneAll (Hst.all) 0 L (W.take 0) = L := by simp [Hst.doneAll]
  go_loopw [6, 19] (fun len i wr => ∃ (k : Nat) (M : List (List UInt8)) (vs : List Value), k ≤ m ∧ i = .int .i64 k ∧ len = .int .i64 (M.length : Int) ∧ M.length ≤ N ∧ Hid (vs.length = N) ∧ Hid (M = Hst.doneAll (Hst.all) 0 L (W.take k)) ∧ Hid (Row wr w1.heap.size 26 vs) ∧ Hid (Each rPad wr (fun b => b < w.heap.size) vs (Hst.pad N M)) ∧ Below w1.heap.size w3 wr ∧ w3.heap.size ≤ wr.heap.size) (fun _ i _ => m - (intOf i).toNat)
  case atStart => exact ⟨0, L, _, Nat.zero_le _, rfl, by rw [HN.out], by rw [HN.out]; exact hnN, (by unfold Hid; rw [List.length_append, hxl, List.length_replicate]; omega), H0.symm, HR3', HE3, Below.refl _ _, Nat.le_refl _⟩
  case round =>
    obtain ⟨k, M, vs, hk, rfl, rfl, hMN, HV, HM1, HR, HE, bel, hsz⟩ := hrel
    clear HR3' HE3 H0
    by_cases hlt : k < m
    · have hWr := rWaits.keep hW3 (w' := wr) (fun b hb hl => bel.block b (by omega))
      obtain ⟨g, off, rfl, -, hgl, hat⟩ := rWaits_at hWr (by omega)
      have hkl : k < W.length := by rw [HM.out]; exact hlt
      obtain ⟨x, l, e, hx, hl, c0, c1, c2, -, -⟩ := hat k hkl
      have HSTEP : Hid (Hst.doneAll (Hst.all) 0 L (W.take (k + 1)) = if (Hst.all) k = true then Hst.done M W[k] else M) := by unfold Hid; rw [Hst.doneAll_take _ _ _ _ hkl, HM1.out]
      have HACTK : Hid _ := Hst.act_one_two (HACT.out _ (List.getElem_mem hkl))
      have HLONG : Hid (W[k].1 = 2 → W[k].2.1 ≤ N) := HN2.out k hkl
      have HL : Hid _ := hl
      have hbelA : Below w1.heap.size wr (wr.alloc (.cells #[.int .i64 W[k].1, .int .i64 W[k].2.1, .slice x l e] 67)) := (Below.refl _ _).alloc (by omega) _
      clear hat hl hWr
      generalize W[k] = A at *
      obtain ⟨what, pos, X⟩ := A
      simp only at c0 c1 hx
      have RA : Hid _ := HR.out.below ((Below.refl _ wr).alloc (Nat.le_refl _) (.cells #[.int .i64 what, .int .i64 pos, .slice x l e] 67))
      have EA : Hid (Each rPad (wr.alloc (.cells #[.int .i64 what, .int .i64 pos, .slice x l e] 67)) (fun b => b < w.heap.size) vs (Hst.pad N M)) := HE.out.keep (fun b hb hl => Below.heap_alloc _ _ _ hl)
      have XA : Hid (rBytes.rd (wr.alloc (.cells #[.int .i64 what, .int .i64 pos, .slice x l e] 67)) (fun b => b < w.heap.size) [.slice x l e] X) := Rep.below hx ((Below.refl _ wr).alloc (Nat.le_refl _) _)
      cases hkeep : (Hst.all) k
      · exact absurd hkeep (by simp [Hst.all])
      · rw [hkeep, if_pos rfl] at HSTEP
        rcases HACTK.out with ⟨h1, h2, -, h4⟩ | ⟨h1, h2, -, h4⟩
        · simp only at h1 h2 h4
          subst h1
          obtain ⟨t, rfl⟩ : ∃ t : Nat, pos = t := ⟨pos.toNat, by omega⟩
          by_cases htl : t < M.length
          · have cv : ∃ v, vs[t]? = some v := ⟨_, List.getElem?_eq_getElem (by have := HV.out; omega)⟩
            obtain ⟨v, hv⟩ := cv
            have ct := RA.out.cell hv
            have ft := RA.out.frozen t
            have HV4 : Hid _ := h4
            clear h4 hv
            go_wp2_with (go_at_call 39; refine (every_u _ _).mono ?_; rintro e1 w5 ⟨rfl, rfl⟩)
            go_roundw
            case rel =>
              have hd : Hst.done M (1, (t : Int), X) = M.set t X := by unfold Hst.done; rw [if_pos rfl, if_pos (by simp only; omega)]; simp
              rw [hd] at HSTEP
              refine ⟨k + 1, M.set t X, vs.set t (.slice x l e), by omega, by go_num, by rw [List.length_set], by rw [List.length_set]; exact hMN, by unfold Hid; rw [List.length_set]; exact HV.out, HSTEP.out.symm, RA.out.set t _, ?_, (bel.trans hbelA).setCell (p := ⟨w1.heap.size, t, none⟩) (Nat.le_refl _) _, by simp only [World.size_setCell, World.size_alloc]; omega⟩
              unfold Hid
              rw [← Hst.pad_set X htl]
              exact (EA.out.set t ⟨X, XA.out, (lay_full HV4.out).symm⟩).keep (fun b hb hl => Below.heap_setCell _ _ _ _ (fun e => by have h1 : b < w.heap.size := hb; have h2 : b = w1.heap.size := e; omega))
            case measure => simp [intOf]; omega
          · have htl' : M.length ≤ t := by omega
            go_wp2_with (go_at_call 39; refine (every_u _ _).mono ?_; rintro e1 w5 ⟨rfl, rfl⟩)
            go_roundw
            case rel =>
              have hd : Hst.done M (1, (t : Int), X) = M := by unfold Hst.done; rw [if_pos rfl, if_neg (by simp only; omega)]
              rw [hd] at HSTEP
              exact ⟨k + 1, M, vs, by omega, by go_num, rfl, hMN, HV, HSTEP.out.symm, RA, EA, bel.trans hbelA, by simp only [World.size_alloc]; omega⟩
            case measure => simp [intOf]; omega
        · simp only at h1 h2 h4
          subst h1
          obtain ⟨t, rfl⟩ : ∃ t : Nat, pos = t := ⟨pos.toNat, by omega⟩
          have htN : t ≤ N := by have := HLONG.out rfl; simp only at this; omega
          have hl2 : Hst.done M (2, (t : Int), X) = Hst.done M (2, (t : Int), X) ∧ (Hst.done M (2, (t : Int), X)).length = t := ⟨rfl, Hst.length_len (by simp)⟩
          have HL2 : Hid _ := hl2.2
          have HCE : Hid (vs.take t ++ List.replicate (N - t) (.slice none 0 0) = splice vs t (List.replicate (N - t) (.slice none 0 0))) := (clear_pad HV.out htN).symm
          have HPL : Hid ((Hst.pad N M).take t ++ List.replicate (N - t) Hst.zeros = Hst.pad N (Hst.done M (2, (t : Int), X))) := Hst.pad_len (a := (2, (t : Int), X)) (by simp) htN hMN
          clear hl2 h4
          by_cases htn : t < N
          · go_wp2_with (go_at_call 39; refine (every_u _ _).mono ?_; rintro e1 w5 ⟨rfl, rfl⟩)
            obtain ⟨w6, hrun, HR6, k6, z6⟩ := clear_run (Pr := Try.prog) (wr.alloc (.cells #[.int .i64 2, .int .i64 (t : Int), .slice x l e] 67)) 22 0 26 Try.underlying22 (.slice none 0 0) zero_bytes rfl rfl (some ⟨w1.heap.size, t, none⟩) (N - t) (N - t) w1.heap.size t vs 26 RA.out (fun _ => rfl) (by rw [HV.out]; omega)
            rw [hrun]
            have a1 := k6.cell (p := ⟨wr.heap.size, 1, none⟩) (by show wr.heap.size ≠ w1.heap.size; omega) (show (wr.alloc (.cells #[.int .i64 2, .int .i64 (t : Int), .slice x l e] 67)).cell? ⟨wr.heap.size, 1, none⟩ = some (.int .i64 (t : Int)) from by simp)
            have R6 : Hid (Row w6 w1.heap.size 26 (vs.take t ++ List.replicate (N - t) (.slice none 0 0))) := by unfold Hid; rw [HCE.out]; exact HR6
            have E6 : Hid (Each rPad w6 (fun b => b < w.heap.size) (vs.take t ++ List.replicate (N - t) (.slice none 0 0)) (Hst.pad N (Hst.done M (2, (t : Int), X)))) := by
              unfold Hid
              rw [← HPL.out]
              exact (((EA.out.take t).append (Each.replicate _ (pad_nil _ _)))).keep (fun b hb hl => k6.block b (by show b ≠ _; omega))
            have b6 : Below w1.heap.size w3 w6 := Kept.belowOf (bel.trans hbelA) k6 (Nat.le_refl _)
            have s6 : w3.heap.size ≤ w6.heap.size := by rw [z6]; simp only [World.size_alloc]; omega
            clear hrun HR6 k6 z6 RA EA HCE HPL
            go_wp2
            go_roundw
            case rel => exact ⟨k + 1, Hst.done M (2, (t : Int), X), _, by omega, by go_num, by rw [HL2.out], by rw [HL2.out]; omega, (by unfold Hid; rw [List.length_append, List.length_take, List.length_replicate, HV.out]; omega), HSTEP.out.symm, R6, E6, b6, s6⟩
            case measure => simp [intOf]; omega
          · obtain rfl : t = N := by omega
            go_wp2_with (go_at_call 39; refine (every_u _ _).mono ?_; rintro e1 w5 ⟨rfl, rfl⟩)
            obtain ⟨w6, hrun, HR6, k6, z6⟩ := clear_run (Pr := Try.prog) (wr.alloc (.cells #[.int .i64 2, .int .i64 (t : Int), .slice x l e] 67)) 22 0 26 Try.underlying22 (.slice none 0 0) zero_bytes rfl rfl (some ⟨w1.heap.size, 0, none⟩) 0 0 w1.heap.size t vs 26 RA.out (fun h => absurd h (by omega)) (by rw [HV.out]; omega)
            rw [hrun]
            have a1 := k6.cell (p := ⟨wr.heap.size, 1, none⟩) (by show wr.heap.size ≠ w1.heap.size; omega) (show (wr.alloc (.cells #[.int .i64 2, .int .i64 (t : Int), .slice x l e] 67)).cell? ⟨wr.heap.size, 1, none⟩ = some (.int .i64 (t : Int)) from by simp)
            have R6 : Hid (Row w6 w1.heap.size 26 (vs.take t ++ List.replicate (t - t) (.slice none 0 0))) := by unfold Hid; rw [HCE.out]; rw [Nat.sub_self]; exact HR6
            have E6 : Hid (Each rPad w6 (fun b => b < w.heap.size) (vs.take t ++ List.replicate (t - t) (.slice none 0 0)) (Hst.pad t (Hst.done M (2, (t : Int), X)))) := by
              unfold Hid
              rw [← HPL.out]
              exact (((EA.out.take t).append (Each.replicate _ (pad_nil _ _)))).keep (fun b hb hl => k6.block b (by show b ≠ _; omega))
            have b6 : Below w1.heap.size w3 w6 := Kept.belowOf (bel.trans hbelA) k6 (Nat.le_refl _)
            have s6 : w3.heap.size ≤ w6.heap.size := by rw [z6]; simp only [World.size_alloc]; omega
            clear hrun HR6 k6 z6 RA EA HCE HPL
            go_wp2
            go_roundw
            case rel => exact ⟨k + 1, Hst.done M (2, (t : Int), X), _, by omega, by go_num, by rw [HL2.out], by rw [HL2.out]; omega, (by unfold Hid; rw [List.length_append, List.length_take, List.length_replicate, HV.out]; omega), HSTEP.out.symm, R6, E6, b6, s6⟩
            case measure => simp [intOf]; omega
    · obtain rfl : k = m := by omega
      rw [List.take_of_length_le (by rw [HM.out]; exact Nat.le_refl _)] at HM1
      go_wp2
      go_ret
      refine ⟨_, _, _, rfl, ?_, (on b0 b1).trans ((bel13.trans bel).mono (by omega))⟩
      show rPads.rd wr (fun _ => True) _ (Hst.doneAll (Hst.all) 0 L W)
      rw [← HM1.out]
      have h1 := HE.out.take M.length
      rw [Hst.pad_take] at h1
      exact rd_row HR.out (fun j v h => by rw [List.getElem?_take] at h; split at h; exact h; cases h) (rdAll_weaken (fun _ _ _ => trivial) h1.all) rfl hMN (by show M.length * 24 ≤ _; omega) trivial

set_option maxHeartbeats 4000000 in
theorem shownKeep_u (w : World) (P : Nat → Prop) (cs : List Value) (s : Host) (ka : Option Addr) (kn kc B : Nat) (K : List Bool) (hS : rHost.rd w P cs s) (hok : Hst.ok s = true) (hB : w.cell? ⟨B, 0, none⟩ = some (.slice ka kn kc)) (hK : rBools.rd w P [.slice ka kn kc] K) :
    Calls Try.prog 38 #[.agg cs.toArray, .func (.func 41) #[] #[.pointer (some ⟨B, 0, none⟩)]] w fun e w' => ∃ b n c, e = .returned (.slice b n c) ∧ rPads.rd w' (fun _ => True) [.slice b n c] (Hst.doneAll (Hst.those K) 0 s.1 s.2.1) ∧ Below w.heap.size w w' := by
  have hS0 := hS
  obtain ⟨a, n, c, b, m, d, rfl, hA, hW, hn, hm, hc1, hc2, hn2, hm2⟩ := rHost_cells hS
  obtain ⟨o1, o2, hm3, hsec, hacts⟩ := Hst.ok_parts hok
  obtain ⟨L, W, cp⟩ := s
  simp only at hn hm hc1 hc2 hA hW hm3 hsec hacts o1 o2
  have HN : Hid _ := hn
  have HM : Hid _ := hm
  have HACT : Hid _ := hacts
  have HSEC : Hid _ := hsec.2
  have hm4 : m ≤ 4096 := by rw [← hm]; exact hm3
  obtain ⟨w0, hw0, p0, p1, p2, b0, z0⟩ := boxed3 w 30 (.slice a n c) (.slice b m d) (.int .i64 cp)
  have HS0 : Hid _ := Rep.below hS0 b0
  have hA0 := Rep.below (rSectors.weaken hA (P' := fun b => b < w.heap.size) (fun b _ hl => hl)) b0
  have hW0 := Rep.below (rWaits.weaken hW (P' := fun b => b < w.heap.size) (fun b _ hl => hl)) b0
  have hBl := World.block_lt_of_cell? w _ hB
  simp only at hBl
  have hK0 := rBools.weaken hK (P' := fun b => b < w.heap.size) (fun b _ hl => hl)
  clear hS hS0 hn hm hA hW hacts hsec hm3
  go_enter Try.func38, Try.ntmps38
  go_wp2_with (first
    | (go_at_call 51; refine (longest_u _ _ _ _ HS0.out hok).mono ?_; rintro e w1 ⟨N, rfl, hN1, hN2, hN3, b1⟩; have HN1 : Hid _ := hN1; have HN2 : Hid _ := hN2; clear hN1 hN2; have q0 := (b1.cell (p := ⟨w.heap.size, 0, none⟩) (by show w.heap.size < _; omega)).trans p0; have q1 := (b1.cell (p := ⟨w.heap.size, 1, none⟩) (by show w.heap.size < _; omega)).trans p1)
    | (at_make; refine make_row _ rfl _ _ 22 rfl 26 (.slice none 0 0) 24 Try.underlying22 info_bytes rfl N _ rfl rfl rfl (by omega) (by omega) ?_; intro w2 HR b2 z2; have r0 := (b2.cell (p := ⟨w.heap.size, 0, none⟩) (by show w.heap.size < _; have := b1.size; omega)).trans q0; have r1 := (b2.cell (p := ⟨w.heap.size, 1, none⟩) (by show w.heap.size < _; have := b1.size; omega)).trans q1))
  have hz1 := b1.size
  have bel2 : Below w.heap.size w w2 := on (on b0 b1) b2
  have hA2 := Rep.below (Rep.below hA0 b1) b2
  obtain ⟨xs, hE, hone, hcell⟩ := values_of rfl hA2
  have hxl : xs.length = n := by rw [hE.len]; exact HN.out
  have hnN : n ≤ N := by have h : L.length ≤ N := HN1.out; rw [HN.out] at h; exact h
  obtain ⟨w3, hrun, HR3, k3, z3⟩ := copy_run (Pr := Try.prog) w2 22 22 3 26 Try.underlying22 (by kernel_rfl) (some ⟨w1.heap.size, 0, none⟩) a N N n c w1.heap.size 0 _ 26 HR.out xs (by rw [hxl]; exact (Nat.min_eq_left hnN).symm) (fun hp => ⟨rfl, hcell hp⟩) (by rw [List.length_replicate, hxl]; omega) hone
  rw [hrun, hxl]
  rw [first_pad, hxl] at HR3
  have bel3 : Below w.heap.size w w3 := Kept.belowOf bel2 k3 (by omega)
  have r13 := (k3.cell (p := ⟨w.heap.size, 1, none⟩) (by show w.heap.size ≠ w1.heap.size; omega) r1)
  have hE3 : Each rPad w3 (fun b => b < w.heap.size) (xs ++ List.replicate (N - n) (.slice none 0 0)) (Hst.pad N L) := by
    have h1 := (hE.pad HSEC.out).keep (w' := w3) (fun b hb hl => k3.block b (by show b ≠ _; omega))
    unfold Hst.pad
    rw [HN.out]
    exact h1.append (Each.replicate _ (pad_nil _ _))
  have hW3 : rWaits.rd w3 (fun b => b < w.heap.size) [.slice b m d] W := Rep.kept (Rep.below (Rep.below hW0 b1) b2) k3 (fun b hb hl => by show b ≠ _; omega)
  have HB3 : Hid _ := (bel3.cell (p := ⟨B, 0, none⟩) hBl).trans hB
  have HK3 : Hid _ := Rep.below hK0 bel3
  clear hB hK hK0
  have HR3' : Hid _ := HR3
  have HE3 : Hid _ := hE3
  have hs3 : w1.heap.size < w3.heap.size := by omega
  have bel13 : Below w1.heap.size w1 w3 := Kept.belowOf b2 k3 (Nat.le_refl _)
  clear hrun hw0 p0 p1 p2 q0 q1 r0 r1 HR HR3 hE hE3 hone hcell hA2 hA0 hW0 k3 z3 z2 b2 HS0
  go_wp2
  clear r13
  have H0 : Hst.doneAll (Hst.those K) 0 L (W.take 0) = L := by simp [Hst.doneAll]
  go_loopw [6, 19] (fun len i wr => ∃ (k : Nat) (M : List (List UInt8)) (vs : List Value), k ≤ m ∧ i = .int .i64 k ∧ len = .int .i64 (M.length : Int) ∧ M.length ≤ N ∧ Hid (vs.length = N) ∧ Hid (M = Hst.doneAll (Hst.those K) 0 L (W.take k)) ∧ Hid (Row wr w1.heap.size 26 vs) ∧ Hid (Each rPad wr (fun b => b < w.heap.size) vs (Hst.pad N M)) ∧ Below w1.heap.size w3 wr ∧ w3.heap.size ≤ wr.heap.size) (fun _ i _ => m - (intOf i).toNat)
  case atStart => exact ⟨0, L, _, Nat.zero_le _, rfl, by rw [HN.out], by rw [HN.out]; exact hnN, (by unfold Hid; rw [List.length_append, hxl, List.length_replicate]; omega), H0.symm, HR3', HE3, Below.refl _ _, Nat.le_refl _⟩
  case round =>
    obtain ⟨k, M, vs, hk, rfl, rfl, hMN, HV, HM1, HR, HE, bel, hsz⟩ := hrel
    clear HR3' HE3 H0
    by_cases hlt : k < m
    · have hWr := rWaits.keep hW3 (w' := wr) (fun b hb hl => bel.block b (by omega))
      obtain ⟨g, off, rfl, -, hgl, hat⟩ := rWaits_at hWr (by omega)
      have hkl : k < W.length := by rw [HM.out]; exact hlt
      obtain ⟨x, l, e, hx, hl, c0, c1, c2, -, -⟩ := hat k hkl
      have HSTEP : Hid (Hst.doneAll (Hst.those K) 0 L (W.take (k + 1)) = if (Hst.those K) k = true then Hst.done M W[k] else M) := by unfold Hid; rw [Hst.doneAll_take _ _ _ _ hkl, HM1.out]
      have HACTK : Hid _ := Hst.act_one_two (HACT.out _ (List.getElem_mem hkl))
      have HLONG : Hid (W[k].1 = 2 → W[k].2.1 ≤ N) := HN2.out k hkl
      have HL : Hid _ := hl
      have hbelA : Below w1.heap.size wr (wr.alloc (.cells #[.int .i64 W[k].1, .int .i64 W[k].2.1, .slice x l e] 67)) := (Below.refl _ _).alloc (by omega) _
      have HBA : Hid _ := ((bel.trans hbelA).cell (p := ⟨B, 0, none⟩) (by show B < _; omega)).trans HB3.out
      have HKA : Hid _ := rBools.keep HK3.out (w' := wr.alloc (.cells #[.int .i64 W[k].1, .int .i64 W[k].2.1, .slice x l e] 67)) (fun b hb hl => (bel.trans hbelA).block b (by omega))
      clear hat hl hWr
      generalize W[k] = A at *
      obtain ⟨what, pos, X⟩ := A
      simp only at c0 c1 hx
      have RA : Hid _ := HR.out.below ((Below.refl _ wr).alloc (Nat.le_refl _) (.cells #[.int .i64 what, .int .i64 pos, .slice x l e] 67))
      have EA : Hid (Each rPad (wr.alloc (.cells #[.int .i64 what, .int .i64 pos, .slice x l e] 67)) (fun b => b < w.heap.size) vs (Hst.pad N M)) := HE.out.keep (fun b hb hl => Below.heap_alloc _ _ _ hl)
      have XA : Hid (rBytes.rd (wr.alloc (.cells #[.int .i64 what, .int .i64 pos, .slice x l e] 67)) (fun b => b < w.heap.size) [.slice x l e] X) := Rep.below hx ((Below.refl _ wr).alloc (Nat.le_refl _) _)
      cases hkeep : (Hst.those K) k
      · rw [hkeep, if_neg (by simp)] at HSTEP
        go_wp2_with (go_at_call 41; refine (kept_u _ _ ka kn kc B k K HBA.out HKA.out (by omega)).mono ?_; rintro e1 w5 ⟨rfl, rfl⟩; rw [hkeep])
        go_roundw
        case rel => exact ⟨k + 1, M, vs, by omega, by go_num, rfl, hMN, HV, HSTEP.out.symm, RA, EA, bel.trans hbelA, by simp only [World.size_alloc]; omega⟩
        case measure => simp [intOf]; omega
      · rw [hkeep, if_pos rfl] at HSTEP
        rcases HACTK.out with ⟨h1, h2, -, h4⟩ | ⟨h1, h2, -, h4⟩
        · simp only at h1 h2 h4
          subst h1
          obtain ⟨t, rfl⟩ : ∃ t : Nat, pos = t := ⟨pos.toNat, by omega⟩
          by_cases htl : t < M.length
          · have cv : ∃ v, vs[t]? = some v := ⟨_, List.getElem?_eq_getElem (by have := HV.out; omega)⟩
            obtain ⟨v, hv⟩ := cv
            have ct := RA.out.cell hv
            have ft := RA.out.frozen t
            have HV4 : Hid _ := h4
            clear h4 hv
            go_wp2_with (go_at_call 41; refine (kept_u _ _ ka kn kc B k K HBA.out HKA.out (by omega)).mono ?_; rintro e1 w5 ⟨rfl, rfl⟩; rw [hkeep])
            go_roundw
            case rel =>
              have hd : Hst.done M (1, (t : Int), X) = M.set t X := by unfold Hst.done; rw [if_pos rfl, if_pos (by simp only; omega)]; simp
              rw [hd] at HSTEP
              refine ⟨k + 1, M.set t X, vs.set t (.slice x l e), by omega, by go_num, by rw [List.length_set], by rw [List.length_set]; exact hMN, by unfold Hid; rw [List.length_set]; exact HV.out, HSTEP.out.symm, RA.out.set t _, ?_, (bel.trans hbelA).setCell (p := ⟨w1.heap.size, t, none⟩) (Nat.le_refl _) _, by simp only [World.size_setCell, World.size_alloc]; omega⟩
              unfold Hid
              rw [← Hst.pad_set X htl]
              exact (EA.out.set t ⟨X, XA.out, (lay_full HV4.out).symm⟩).keep (fun b hb hl => Below.heap_setCell _ _ _ _ (fun e => by have h1 : b < w.heap.size := hb; have h2 : b = w1.heap.size := e; omega))
            case measure => simp [intOf]; omega
          · have htl' : M.length ≤ t := by omega
            go_wp2_with (go_at_call 41; refine (kept_u _ _ ka kn kc B k K HBA.out HKA.out (by omega)).mono ?_; rintro e1 w5 ⟨rfl, rfl⟩; rw [hkeep])
            go_roundw
            case rel =>
              have hd : Hst.done M (1, (t : Int), X) = M := by unfold Hst.done; rw [if_pos rfl, if_neg (by simp only; omega)]
              rw [hd] at HSTEP
              exact ⟨k + 1, M, vs, by omega, by go_num, rfl, hMN, HV, HSTEP.out.symm, RA, EA, bel.trans hbelA, by simp only [World.size_alloc]; omega⟩
            case measure => simp [intOf]; omega
        · simp only at h1 h2 h4
          subst h1
          obtain ⟨t, rfl⟩ : ∃ t : Nat, pos = t := ⟨pos.toNat, by omega⟩
          have htN : t ≤ N := by have := HLONG.out rfl; simp only at this; omega
          have hl2 : Hst.done M (2, (t : Int), X) = Hst.done M (2, (t : Int), X) ∧ (Hst.done M (2, (t : Int), X)).length = t := ⟨rfl, Hst.length_len (by simp)⟩
          have HL2 : Hid _ := hl2.2
          have HCE : Hid (vs.take t ++ List.replicate (N - t) (.slice none 0 0) = splice vs t (List.replicate (N - t) (.slice none 0 0))) := (clear_pad HV.out htN).symm
          have HPL : Hid ((Hst.pad N M).take t ++ List.replicate (N - t) Hst.zeros = Hst.pad N (Hst.done M (2, (t : Int), X))) := Hst.pad_len (a := (2, (t : Int), X)) (by simp) htN hMN
          clear hl2 h4
          by_cases htn : t < N
          · go_wp2_with (go_at_call 41; refine (kept_u _ _ ka kn kc B k K HBA.out HKA.out (by omega)).mono ?_; rintro e1 w5 ⟨rfl, rfl⟩; rw [hkeep])
            obtain ⟨w6, hrun, HR6, k6, z6⟩ := clear_run (Pr := Try.prog) (wr.alloc (.cells #[.int .i64 2, .int .i64 (t : Int), .slice x l e] 67)) 22 0 26 Try.underlying22 (.slice none 0 0) zero_bytes rfl rfl (some ⟨w1.heap.size, t, none⟩) (N - t) (N - t) w1.heap.size t vs 26 RA.out (fun _ => rfl) (by rw [HV.out]; omega)
            rw [hrun]
            have a1 := k6.cell (p := ⟨wr.heap.size, 1, none⟩) (by show wr.heap.size ≠ w1.heap.size; omega) (show (wr.alloc (.cells #[.int .i64 2, .int .i64 (t : Int), .slice x l e] 67)).cell? ⟨wr.heap.size, 1, none⟩ = some (.int .i64 (t : Int)) from by simp)
            have R6 : Hid (Row w6 w1.heap.size 26 (vs.take t ++ List.replicate (N - t) (.slice none 0 0))) := by unfold Hid; rw [HCE.out]; exact HR6
            have E6 : Hid (Each rPad w6 (fun b => b < w.heap.size) (vs.take t ++ List.replicate (N - t) (.slice none 0 0)) (Hst.pad N (Hst.done M (2, (t : Int), X)))) := by
              unfold Hid
              rw [← HPL.out]
              exact (((EA.out.take t).append (Each.replicate _ (pad_nil _ _)))).keep (fun b hb hl => k6.block b (by show b ≠ _; omega))
            have b6 : Below w1.heap.size w3 w6 := Kept.belowOf (bel.trans hbelA) k6 (Nat.le_refl _)
            have s6 : w3.heap.size ≤ w6.heap.size := by rw [z6]; simp only [World.size_alloc]; omega
            clear hrun HR6 k6 z6 RA EA HCE HPL
            go_wp2
            go_roundw
            case rel => exact ⟨k + 1, Hst.done M (2, (t : Int), X), _, by omega, by go_num, by rw [HL2.out], by rw [HL2.out]; omega, (by unfold Hid; rw [List.length_append, List.length_take, List.length_replicate, HV.out]; omega), HSTEP.out.symm, R6, E6, b6, s6⟩
            case measure => simp [intOf]; omega
          · obtain rfl : t = N := by omega
            go_wp2_with (go_at_call 41; refine (kept_u _ _ ka kn kc B k K HBA.out HKA.out (by omega)).mono ?_; rintro e1 w5 ⟨rfl, rfl⟩; rw [hkeep])
            obtain ⟨w6, hrun, HR6, k6, z6⟩ := clear_run (Pr := Try.prog) (wr.alloc (.cells #[.int .i64 2, .int .i64 (t : Int), .slice x l e] 67)) 22 0 26 Try.underlying22 (.slice none 0 0) zero_bytes rfl rfl (some ⟨w1.heap.size, 0, none⟩) 0 0 w1.heap.size t vs 26 RA.out (fun h => absurd h (by omega)) (by rw [HV.out]; omega)
            rw [hrun]
            have a1 := k6.cell (p := ⟨wr.heap.size, 1, none⟩) (by show wr.heap.size ≠ w1.heap.size; omega) (show (wr.alloc (.cells #[.int .i64 2, .int .i64 (t : Int), .slice x l e] 67)).cell? ⟨wr.heap.size, 1, none⟩ = some (.int .i64 (t : Int)) from by simp)
            have R6 : Hid (Row w6 w1.heap.size 26 (vs.take t ++ List.replicate (t - t) (.slice none 0 0))) := by unfold Hid; rw [HCE.out]; rw [Nat.sub_self]; exact HR6
            have E6 : Hid (Each rPad w6 (fun b => b < w.heap.size) (vs.take t ++ List.replicate (t - t) (.slice none 0 0)) (Hst.pad t (Hst.done M (2, (t : Int), X)))) := by
              unfold Hid
              rw [← HPL.out]
              exact (((EA.out.take t).append (Each.replicate _ (pad_nil _ _)))).keep (fun b hb hl => k6.block b (by show b ≠ _; omega))
            have b6 : Below w1.heap.size w3 w6 := Kept.belowOf (bel.trans hbelA) k6 (Nat.le_refl _)
            have s6 : w3.heap.size ≤ w6.heap.size := by rw [z6]; simp only [World.size_alloc]; omega
            clear hrun HR6 k6 z6 RA EA HCE HPL
            go_wp2
            go_roundw
            case rel => exact ⟨k + 1, Hst.done M (2, (t : Int), X), _, by omega, by go_num, by rw [HL2.out], by rw [HL2.out]; omega, (by unfold Hid; rw [List.length_append, List.length_take, List.length_replicate, HV.out]; omega), HSTEP.out.symm, R6, E6, b6, s6⟩
            case measure => simp [intOf]; omega
    · obtain rfl : k = m := by omega
      rw [List.take_of_length_le (by rw [HM.out]; exact Nat.le_refl _)] at HM1
      go_wp2
      go_ret
      refine ⟨_, _, _, rfl, ?_, (on b0 b1).trans ((bel13.trans bel).mono (by omega))⟩
      show rPads.rd wr (fun _ => True) _ (Hst.doneAll (Hst.those K) 0 L W)
      rw [← HM1.out]
      have h1 := HE.out.take M.length
      rw [Hst.pad_take] at h1
      exact rd_row HR.out (fun j v h => by rw [List.getElem?_take] at h; split at h; exact h; cases h) (rdAll_weaken (fun _ _ _ => trivial) h1.all) rfl hMN (by show M.length * 24 ≤ _; omega) trivial

end Go.Proofs.Ytckcicomkapdeaa
