/-
  Facts that the proof rests on, part 19. Conditions: those that each of them names.
-/
import Derived.Test.YtflcojljpbojlaaM00
import Derived.Test.YtflcojljpbojlaaM10
import Derived.Test.YtflcojljpbojlaaM16
import Derived.Test.YtflcojljpbojlaaM17
namespace Go.Proofs.Ytflcojljpbojlaa
open Go.RowKit
set_option linter.unusedVariables false
theorem okSnaps_step (next last : Int) (seen : List ByteArray) (x : Snp) (l : List Snp) : Mo.okSnaps next last seen (x :: l) =
    (Mo.okDisk x.2.2 && decide (last < x.1) && decide (x.1 < next) && Mo.okName x.2.1 && !(seen.any (fun n => decide (n = x.2.1))) && Mo.okSnaps next x.1 (seen ++ [x.2.1]) l) := rfl
set_option maxRecDepth 20000 in
set_option maxHeartbeats 8000000 in
theorem docCheck_u (w : World) (P : Nat → Prop) (a b : Option Addr) (n c m d : Nat) (s : Sta) (hS : rSta.rd w P [.slice a n c, .slice b m d, .int .i64 s.2.2] s) :
    Calls Try.prog 17 #[.agg #[.slice a n c, .slice b m d, .int .i64 s.2.2]] w fun e w' => e = .returned (.int .i64 (Mo.checkE s)) ∧ Below w.heap.size w w' := by
  obtain ⟨a', n', c', b', m', d', e, hD, hL, hi⟩ := rSta_cells hS
  simp only [List.cons.injEq, Value.slice.injEq, and_true] at e
  obtain ⟨⟨rfl, rfl, rfl⟩, rfl, rfl, rfl⟩ := e
  obtain ⟨D, l, next⟩ := s
  simp only at hD hL hi ⊢
  have HN : Hid (D.length = n) := (rL_len hD).1
  have HM : Hid (l.length = m) := (rL_len hL).1
  have hm0 : m ≤ 5864062014634 := by have : m * 24 ≤ 140737488351232 := by { have := (rL_len hL).2.2.2; exact Nat.le_trans (Nat.mul_le_mul_left m (by decide)) this }; omega
  obtain ⟨E, hE⟩ : ∃ E, E = Mo.checkE (D, l, next) := ⟨_, rfl⟩
  rw [← hE]
  have HE : Hid (E = if (Mo.okDisk D && decide (l.length ≤ 8) && decide (1 ≤ next) && decide (next ≤ 255) && Mo.okSnaps next 0 [] l) then 0 else 9) := hE
  obtain ⟨w0, hw0, V0, b0, z0⟩ := boxedRow w 25 [.slice a n c, .slice b m d, .int .i64 next]
  have HV0 : Hid _ := V0
  have B0 : Hid (Below w.heap.size w w0) := b0
  have HD0 : Hid (rSectors.rd w0 P [.slice a n c] D) := Rep.below hD b0
  have HL0 : Hid (rSnps.rd w0 P [.slice b m d] l) := Rep.below hL b0
  have c0 := V0.cell (j := 0) rfl
  have c1 := V0.cell (j := 1) rfl
  have c2 := V0.cell (j := 2) rfl
  clear hE hS hD hL V0 b0 z0
  by_cases hd : Mo.okDisk D = true
  · have HK : Hid (Mo.okDisk D = true) := hd
    have HE1 : Hid (E = if (decide (l.length ≤ 8) && decide (1 ≤ next) && decide (next ≤ 255) && Mo.okSnaps next 0 [] l) then 0 else 9) := by unfold Hid; rw [HE.out, hd, Bool.true_and]
    clear hd
    by_cases h3 : 8 < m
    · have h3z : (8 : Int) < (m : Int) := by omega
      have HR : Hid (9 = E) := by unfold Hid; rw [HE1.out, decide_eq_false (show ¬ l.length ≤ 8 by rw [HM.out]; omega)]; rfl
      go_enter Try.func17, Try.ntmps17
      go_wp2_with (go_at_call 37; refine Calls.mono (docDisk_u _ P a n c D HD0.out true HK.out) ?_; rintro e w1 ⟨rfl, b1⟩; have c0 := (HV0.out.below b1).cell (j := 0) rfl; have c1 := (HV0.out.below b1).cell (j := 1) rfl; have c2 := (HV0.out.below b1).cell (j := 2) rfl)
      go_ret
      exact ⟨ret_int HR.out, on B0.out b1⟩
    have h3z : ¬ (8 : Int) < (m : Int) := by omega
    by_cases h1 : next < 1
    · have HR : Hid (9 = E) := by unfold Hid; rw [HE1.out, decide_eq_false (show ¬ 1 ≤ next by omega)]; simp
      go_enter Try.func17, Try.ntmps17
      go_wp2_with (go_at_call 37; refine Calls.mono (docDisk_u _ P a n c D HD0.out true HK.out) ?_; rintro e w1 ⟨rfl, b1⟩; have c0 := (HV0.out.below b1).cell (j := 0) rfl; have c1 := (HV0.out.below b1).cell (j := 1) rfl; have c2 := (HV0.out.below b1).cell (j := 2) rfl)
      go_ret
      exact ⟨ret_int HR.out, on B0.out b1⟩
    by_cases h2 : 255 < next
    · have HR : Hid (9 = E) := by unfold Hid; rw [HE1.out, decide_eq_false (show ¬ next ≤ 255 by omega)]; simp
      go_enter Try.func17, Try.ntmps17
      go_wp2_with (go_at_call 37; refine Calls.mono (docDisk_u _ P a n c D HD0.out true HK.out) ?_; rintro e w1 ⟨rfl, b1⟩; have c0 := (HV0.out.below b1).cell (j := 0) rfl; have c1 := (HV0.out.below b1).cell (j := 1) rfl; have c2 := (HV0.out.below b1).cell (j := 2) rfl)
      go_ret
      exact ⟨ret_int HR.out, on B0.out b1⟩
    have HE3 : Hid (E = if Mo.okSnaps next 0 [] l then 0 else 9) := by
      unfold Hid; rw [HE1.out, decide_eq_true (show l.length ≤ 8 by rw [HM.out]; omega), decide_eq_true (show 1 ≤ next by omega), decide_eq_true (show next ≤ 255 by omega)]; simp
    clear hm0
    go_enter Try.func17, Try.ntmps17
    go_wp2_with (go_at_call 37; refine Calls.mono (docDisk_u _ P a n c D HD0.out true HK.out) ?_; rintro e w1 ⟨rfl, b1⟩; have c0 := (HV0.out.below b1).cell (j := 0) rfl; have c1 := (HV0.out.below b1).cell (j := 1) rfl; have c2 := (HV0.out.below b1).cell (j := 2) rfl)
    have B1 : Hid (Below w0.heap.size w0 w1) := b1
    clear b1 c0 c1 c2
    go_loopw [3, 4] (fun lv i wr => ∃ (k : Nat) (last : Int), k ≤ m ∧ i = .int .i64 k ∧ lv = .int .i64 last ∧ Hid (E = if Mo.okSnaps next last ((l.take k).map (fun x => x.2.1)) (l.drop k) then 0 else 9) ∧ Below w0.heap.size w0 wr) (fun _ i _ => m - (intOf i).toNat)
    case atStart => exact ⟨0, 0, Nat.zero_le _, rfl, rfl, HE3.out, B1.out⟩
    case round =>
      obtain ⟨k, last, hk, rfl, rfl, HEk, bel⟩ := hrel
      have B : Hid (Below w0.heap.size w0 wr) := bel
      have c1 := (HV0.out.below bel).cell (j := 1) rfl
      by_cases hlt : k < m
      · have hkl : k < l.length := by rw [HM.out]; exact hlt
        obtain ⟨g, off, rfl, -, hgl, hat⟩ := rSnps_at (Rep.below HL0.out bel) (by omega)
        obtain ⟨x, xm, xd, hX, -, e0, e1, e2, hid, hs⟩ := hat k hkl
        have hnames : (l.take (k + 1)).map (fun x => x.2.1) = (l.take k).map (fun x => x.2.1) ++ [l[k].2.1] := by rw [List.take_succ_eq_append_getElem hkl, List.map_append]; rfl
        have HEn : Hid (E = if (Mo.okDisk l[k].2.2 && decide (last < l[k].1) && decide (l[k].1 < next) && Mo.okName l[k].2.1 && !(((l.take k).map (fun x => x.2.1)).any (fun n => decide (n = l[k].2.1))) && Mo.okSnaps next l[k].1 ((l.take (k + 1)).map (fun x => x.2.1)) (l.drop (k + 1))) then 0 else 9) := by
          have h := HEk.out
          rw [List.drop_eq_getElem_cons hkl, okSnaps_step, ← hnames] at h
          exact h
        have hkz : (k : Int) < (m : Int) := by omega
        obtain ⟨Y, hY⟩ : ∃ Y, Y = l[k] := ⟨_, rfl⟩
        rw [← hY] at hX e0 e1 hid hs HEn
        obtain ⟨id, nm, dk⟩ := Y
        simp only at hX e0 e1 hid hs HEn
        obtain ⟨w4, hw4, V4, b4, z4⟩ := boxedRow wr 67 [.int .i64 id, .string nm, .slice x xm xd]
        have HV4 : Hid _ := V4
        have B4 : Hid (Below w0.heap.size w0 w4) := on bel b4
        have HX4 : Hid (rSectors.rd w4 P [.slice x xm xd] dk) := Rep.below hX b4
        have HNs : Hid (nm.size ≤ maxLen) := hs
        have hsz : nm.size ≤ 9223372036854775807 := by unfold maxLen at hs; omega
        have HGl : Hid (g < w0.heap.size) := by
          by_cases h : g < w0.heap.size
          · exact h
          · obtain ⟨g', off', e', -, hgl', -⟩ := rSnps_at HL0.out (by omega)
            simp only [Option.some.injEq, Addr.mk.injEq, and_true] at e'
            unfold Hid
            rw [e'.1]
            exact hgl'
        have d0 := V4.cell (j := 0) rfl
        have d1 := V4.cell (j := 1) rfl
        have d2 := V4.cell (j := 2) rfl
        have c2 := (HV0.out.below (on bel b4)).cell (j := 2) rfl
        have c1' := (HV0.out.below (on bel b4)).cell (j := 1) rfl
        clear hY hX hat V4 b4 bel hs z4 hnames hgl
        by_cases hdk : Mo.okDisk dk = true
        · have HKd : Hid (Mo.okDisk dk = true) := hdk
          have HE5 : Hid (E = if (decide (last < id) && decide (id < next) && Mo.okName nm && !(((l.take k).map (fun x => x.2.1)).any (fun n => decide (n = nm))) && Mo.okSnaps next id ((l.take (k + 1)).map (fun x => x.2.1)) (l.drop (k + 1))) then 0 else 9) := by unfold Hid; rw [HEn.out, hdk, Bool.true_and]
          clear hdk
          by_cases h4 : id ≤ last
          · have HR : Hid (9 = E) := by unfold Hid; rw [HE5.out, decide_eq_false (show ¬ last < id by omega)]; rfl
            go_wp2_with (go_at_call 37; refine Calls.mono (docDisk_u _ P x xm xd dk HX4.out true HKd.out) ?_; rintro e w5 ⟨rfl, b5⟩; have d0 := (HV4.out.below b5).cell (j := 0) rfl; have d1 := (HV4.out.below b5).cell (j := 1) rfl; have c2 := (HV0.out.below (on B4.out b5)).cell (j := 2) rfl)
            go_ret
            exact ⟨ret_int HR.out, on B0.out (on B4.out b5)⟩
          by_cases h5 : next ≤ id
          · have HR : Hid (9 = E) := by unfold Hid; rw [HE5.out, decide_eq_false (show ¬ id < next by omega)]; simp
            go_wp2_with (go_at_call 37; refine Calls.mono (docDisk_u _ P x xm xd dk HX4.out true HKd.out) ?_; rintro e w5 ⟨rfl, b5⟩; have d0 := (HV4.out.below b5).cell (j := 0) rfl; have d1 := (HV4.out.below b5).cell (j := 1) rfl; have c2 := (HV0.out.below (on B4.out b5)).cell (j := 2) rfl)
            go_ret
            exact ⟨ret_int HR.out, on B0.out (on B4.out b5)⟩
          have HE6 : Hid (E = if (Mo.okName nm && !(((l.take k).map (fun x => x.2.1)).any (fun n => decide (n = nm))) && Mo.okSnaps next id ((l.take (k + 1)).map (fun x => x.2.1)) (l.drop (k + 1))) then 0 else 9) := by
            unfold Hid; rw [HE5.out, decide_eq_true (show last < id by omega), decide_eq_true (show id < next by omega)]; simp
          by_cases e1' : nm.size < 1
          · have e1z : (nm.size : Int) < 1 := by omega
            have HR : Hid (9 = E) := by unfold Hid; rw [HE6.out, show Mo.okName nm = false from by simp [Mo.okName]; omega]; simp
            go_wp2_with (go_at_call 37; refine Calls.mono (docDisk_u _ P x xm xd dk HX4.out true HKd.out) ?_; rintro e w5 ⟨rfl, b5⟩; have d0 := (HV4.out.below b5).cell (j := 0) rfl; have d1 := (HV4.out.below b5).cell (j := 1) rfl; have c2 := (HV0.out.below (on B4.out b5)).cell (j := 2) rfl)
            go_ret
            exact ⟨ret_int HR.out, on B0.out (on B4.out b5)⟩
          have e1z : ¬ (nm.size : Int) < 1 := by omega
          by_cases e2' : 16 < nm.size
          · have e2z : (16 : Int) < (nm.size : Int) := by omega
            have HR : Hid (9 = E) := by unfold Hid; rw [HE6.out, show Mo.okName nm = false from by simp [Mo.okName]; omega]; simp
            go_wp2_with (go_at_call 37; refine Calls.mono (docDisk_u _ P x xm xd dk HX4.out true HKd.out) ?_; rintro e w5 ⟨rfl, b5⟩; have d0 := (HV4.out.below b5).cell (j := 0) rfl; have d1 := (HV4.out.below b5).cell (j := 1) rfl; have c2 := (HV0.out.below (on B4.out b5)).cell (j := 2) rfl)
            go_ret
            exact ⟨ret_int HR.out, on B0.out (on B4.out b5)⟩
          have e2z : ¬ (16 : Int) < (nm.size : Int) := by omega
          have HE7 : Hid (E = if (!(((l.take k).map (fun x => x.2.1)).any (fun n => decide (n = nm))) && Mo.okSnaps next id ((l.take (k + 1)).map (fun x => x.2.1)) (l.drop (k + 1))) then 0 else 9) := by
            unfold Hid; rw [HE6.out, show Mo.okName nm = true from by simp [Mo.okName]; omega]; simp
          go_wp2_with (go_at_call 37; refine Calls.mono (docDisk_u _ P x xm xd dk HX4.out true HKd.out) ?_; rintro e w5 ⟨rfl, b5⟩; have d0 := (HV4.out.below b5).cell (j := 0) rfl; have d1 := (HV4.out.below b5).cell (j := 1) rfl; have c2 := (HV0.out.below (on B4.out b5)).cell (j := 2) rfl)
          have B5 : Hid (Below w4.heap.size w4 w5) := b5
          obtain ⟨vb, hvb⟩ : ∃ vb, vb = wr.heap.size := ⟨_, rfl⟩
          rw [← hvb] at HV4 ⊢
          clear b5 d0 d1 d2 c1 c2 c1' e0 e1 e2 hw4 hvb e1z e2z e1' e2' h4 h5 HKd
          obtain ⟨wo, hwo⟩ : ∃ wo, wo = wr := ⟨_, rfl⟩
          rw [← hwo] at B
          clear hwo
          go_loopw [6] (fun i wr => ∃ j : Nat, j ≤ k ∧ i = .int .i64 j ∧ Hid (∀ (q : Nat) (hq : q < l.length), q < j → ¬ l[q].2.1 = nm) ∧ Hid (Below w4.heap.size w4 wr)) (fun i _ => k - (intOf i).toNat)
          case atStart => exact ⟨0, Nat.zero_le _, rfl, (fun q _ h => by omega), B5.out⟩
          case round =>
            obtain ⟨j, hj, rfl, HJ, HBj⟩ := hrel
            have c1 := (HV0.out.below (on B4.out HBj.out)).cell (j := 1) rfl
            have d1 := (HV4.out.below HBj.out).cell (j := 1) rfl
            by_cases hjk : j < k
            · have hjl : j < l.length := by omega
              obtain ⟨g', off', eg, -, -, hat⟩ := rSnps_at (Rep.below HL0.out (on B4.out HBj.out)) (by omega)
              simp only [Option.some.injEq, Addr.mk.injEq, and_true] at eg
              obtain ⟨rfl, rfl⟩ := eg
              obtain ⟨-, -, -, -, -, -, k1, -, -, -⟩ := hat j hjl
              have HHere : Hid (l[j].2.1 = nm → 9 = E) := fun h => by
                rw [HE7.out, List.any_eq_true.2 ⟨l[j].2.1, List.mem_map.2 ⟨l[j], List.mem_take_iff_getElem.2 ⟨j, by omega, rfl⟩, rfl⟩, decide_eq_true h⟩]
                rfl
              have HNx : Hid (¬ l[j].2.1 = nm → ∀ (q : Nat) (hq : q < l.length), q < j + 1 → ¬ l[q].2.1 = nm) := fun h q hq hqj => by
                by_cases e : q = j
                · subst e; exact h
                · exact HJ.out q hq (by omega)
              obtain ⟨Y, hY⟩ : ∃ Y, Y = l[j].2.1 := ⟨_, rfl⟩
              rw [← hY] at k1 HHere HNx
              have hjz : (j : Int) < (k : Int) := by omega
              have hjm : (j : Int) < (m : Int) := by omega
              clear hY hat
              by_cases he : Y = nm
              · have HR : Hid (9 = E) := HHere.out he
                subst he
                clear HHere HNx
                go_wp2_with fail
                go_quiet (fail)
                go_wp2
                go_ret
                exact ⟨ret_int HR.out, same_drewN (on B0.out (on B4.out HBj.out)) _⟩
              · have HN2 : Hid _ := HNx.out he
                have heq : (Y.toList == nm.toList) = false := by rw [eqB]; exact decide_eq_false he
                clear HHere HNx he
                go_wp2_with fail
                go_quiet (fail)
                go_wp2
                go_roundw
                case rel => exact ⟨j + 1, by omega, by go_num, HN2, same_drewN HBj.out _⟩
                case measure => simp [intOf]; omega
            · obtain rfl : j = k := by omega
              have HE8 : Hid (E = if Mo.okSnaps next id ((l.take (j + 1)).map (fun x => x.2.1)) (l.drop (j + 1)) then 0 else 9) := by
                have hf : ((l.take j).map (fun x => x.2.1)).any (fun n => decide (n = nm)) = false := by
                  rw [List.any_eq_false]
                  intro y hy
                  obtain ⟨z, hz, rfl⟩ := List.mem_map.1 hy
                  obtain ⟨q, hq, rfl⟩ := List.mem_take_iff_getElem.1 hz
                  have := HJ.out q (by omega) (by omega)
                  simpa using this
                unfold Hid
                rw [HE7.out, hf]
                simp
              have d0 := (HV4.out.below HBj.out).cell (j := 0) rfl
              go_wp2
              go_roundw
              case rel => exact ⟨j + 1, id, by omega, by go_num, rfl, HE8, on B4.out HBj.out⟩
              case measure => simp [intOf]; omega
        · have HKd : Hid (Mo.okDisk dk = false) := Bool.eq_false_iff.2 hdk
          have HR : Hid (9 = E) := by unfold Hid; rw [HEn.out, HKd.out]; rfl
          clear hdk
          go_wp2_with (go_at_call 37; refine Calls.mono (docDisk_u _ P x xm xd dk HX4.out false HKd.out) ?_; rintro e w5 ⟨rfl, b5⟩)
          go_ret
          exact ⟨ret_int HR.out, on B0.out (on B4.out b5)⟩
      · obtain rfl : m = k := by omega
        have HR : Hid (0 = E) := by
          have h := HEk.out
          unfold Hid
          rw [List.drop_of_length_le (by rw [HM.out]; exact Nat.le_refl _)] at h
          exact h.symm
        clear bel
        go_wp2
        go_ret
        exact ⟨ret_int HR.out, on B0.out B.out⟩
  · have HK : Hid (Mo.okDisk D = false) := Bool.eq_false_iff.2 hd
    have HR : Hid (9 = E) := by unfold Hid; rw [HE.out, HK.out]; rfl
    clear hd
    go_enter Try.func17, Try.ntmps17
    go_wp2_with (go_at_call 37; refine Calls.mono (docDisk_u _ P a n c D HD0.out false HK.out) ?_; rintro e w1 ⟨rfl, b1⟩)
    go_ret
    exact ⟨ret_int HR.out, on B0.out b1⟩
end Go.Proofs.Ytflcojljpbojlaa
namespace Go.Proofs.Ytflcojljpbojlaa
open Go.RowKit
set_option linter.unusedVariables false
theorem rOpn.of {w : World} {P : Nat → Prop} {k at' N id : Int} {nm : ByteArray} {dt : List UInt8} {xa : Option Addr} {xn xc : Nat} (h1 : I64 k) (h2 : I64 at') (h3 : I64 N) (h4 : I64 id) (h5 : nm.size ≤ maxLen) (h : rBytes.rd w P [.slice xa xn xc] dt) :
    rOpn.rd w P [.int .i64 k, .int .i64 at', .int .i64 N, .int .i64 id, .string nm, .slice xa xn xc] (k, at', N, id, nm, dt) :=
  ⟨[_], [_, _, _, _, _], rfl, ⟨rfl, h1⟩, [_], [_, _, _, _], rfl, ⟨rfl, h2⟩, [_], [_, _, _], rfl, ⟨rfl, h3⟩, [_], [_, _], rfl, ⟨rfl, h4⟩, [_], [_], rfl, ⟨rfl, h5⟩, h⟩
set_option maxRecDepth 20000 in
theorem do_v (w : World) (P : Nat → Prop) (a b : Option Addr) (n c m d : Nat) (next : Int) (s : Sta) (hS : rSta.rd w P [.slice a n c, .slice b m d, .int .i64 next] s) (k at' N id : Int) (nm : ByteArray) (dt : List UInt8) (xa : Option Addr) (xn xc : Nat) (h1 : I64 k) (h2 : I64 at') (h3 : I64 N) (h4 : I64 id) (h5 : nm.size ≤ maxLen) {P' : Nat → Prop} (hX : rBytes.rd w P' [.slice xa xn xc] dt) :
    Calls Try.prog 11 #[.agg #[.slice a n c, .slice b m d, .int .i64 next], .agg #[.int .i64 k, .int .i64 at', .int .i64 N, .int .i64 id, .string nm, .slice xa xn xc]] w fun e w' => ∃ (a' : Option Addr) (n' c' : Nat) (b' : Option Addr) (m' d' : Nat) (next' : Int) (da : Option Addr) (dn dc : Nat) (la : Option Addr) (ln lc : Nat),
      e = .returned (.tuple #[.agg #[.slice a' n' c', .slice b' m' d', .int .i64 next'], .agg #[.int .i64 (Mo.doR s (k, at', N, id, nm, dt)).1, .slice da dn dc, .int .i64 (Mo.doR s (k, at', N, id, nm, dt)).2.2.1, .slice la ln lc, .int .i64 (Mo.doR s (k, at', N, id, nm, dt)).2.2.2.2]]) ∧
      rSta.rd w' (fun q => w.heap.size ≤ q) [.slice a' n' c', .slice b' m' d', .int .i64 next'] (Mo.doS s (k, at', N, id, nm, dt)) ∧ rBytes.rd w' (fun q => w.heap.size ≤ q) [.slice da dn dc] (Mo.doR s (k, at', N, id, nm, dt)).2.1 ∧ rNmds.rd w' (fun q => w.heap.size ≤ q) [.slice la ln lc] (Mo.doR s (k, at', N, id, nm, dt)).2.2.2.1 ∧ Below w.heap.size w w' := by
  obtain ⟨a', n', c', b', m', d', e, -, -, -⟩ := rSta_cells hS
  simp only [List.cons.injEq, Value.slice.injEq, Value.int.injEq, and_true, true_and] at e
  obtain ⟨-, -, rfl⟩ := e
  refine Calls.mono (do_u w (fun _ => True) a b n c m d s (rSta.weaken hS (fun _ _ _ => trivial)) k at' N id nm dt xa xn xc (rOpn.of h1 h2 h3 h4 h5 (rBytes.weaken hX (fun _ _ _ => trivial)))) ?_
  rintro e w' ⟨cs, rs, db, rfl, h1, ⟨da, dn, dc, la, ln, lc, rfl, h3, h4⟩, h5, h6, h7⟩
  obtain ⟨a', n', c', b', m', d', rfl, -, -, -⟩ := rSta_cells h1
  exact ⟨a', n', c', b', m', d', _, da, dn, dc, la, ln, lc, rfl, rSta.weaken h1 (fun q hq _ => hq.1), rBytes.weaken h3.1 (fun q hq _ => by have h : q = db := hq; show w.heap.size ≤ q; omega), h4, h7⟩
theorem sta_parts {w : World} {P : Nat → Prop} {a b : Option Addr} {n c m d : Nat} {t : Int} {s : Sta} (h : rSta.rd w P [.slice a n c, .slice b m d, .int .i64 t] s) :
    rSectors.rd w P [.slice a n c] s.1 ∧ rSnps.rd w P [.slice b m d] s.2.1 ∧ s.1.length = n ∧ s.2.1.length = m ∧ t = s.2.2 := by
  obtain ⟨a', n', c', b', m', d', e, h1, h2, -⟩ := rSta_cells h
  simp only [List.cons.injEq, Value.slice.injEq, Value.int.injEq, and_true, true_and] at e
  obtain ⟨⟨rfl, rfl, rfl⟩, ⟨rfl, rfl, rfl⟩, rfl⟩ := e
  exact ⟨h1, h2, (rL_len h1).1, (rL_len h2).1, rfl⟩
theorem docCheck_v (w : World) (P : Nat → Prop) (a b : Option Addr) (n c m d : Nat) (t : Int) (s : Sta) (hS : rSta.rd w P [.slice a n c, .slice b m d, .int .i64 t] s) :
    Calls Try.prog 17 #[.agg #[.slice a n c, .slice b m d, .int .i64 t]] w fun e w' => e = .returned (.int .i64 (Mo.checkE s)) ∧ Below w.heap.size w w' := by
  obtain rfl := (sta_parts hS).2.2.2.2
  exact docCheck_u w P a b n c m d s hS
theorem check_v (w : World) (P : Nat → Prop) (a b : Option Addr) (n c m d : Nat) (t : Int) (s : Sta) (hS : rSta.rd w P [.slice a n c, .slice b m d, .int .i64 t] s) :
    Calls Try.prog 16 #[.agg #[.slice a n c, .slice b m d, .int .i64 t]] w fun e w' => e = .returned (.int .i64 (Mo.checkE s)) ∧ Below w.heap.size w w' := by
  obtain rfl := (sta_parts hS).2.2.2.2
  exact check_u w P a b n c m d s hS
theorem fresh2 (wd : World) (x0 x1 x2 y0 y1 y2 y3 y4 : Value) : ∃ wA wB wX wY, wd.alloc (.cells #[.slice none 0 0, .slice none 0 0, .int .i64 0] 31) = wA ∧ wA.alloc (.cells #[.int .i64 0, .slice none 0 0, .int .i64 0, .slice none 0 0, .int .i64 0] 38) = wB ∧ Row wB wd.heap.size 31 [.slice none 0 0, .slice none 0 0, .int .i64 0] ∧
    ((wB.setCell ⟨wd.heap.size, 0, none⟩ x0).setCell ⟨wd.heap.size, 1, none⟩ x1).setCell ⟨wd.heap.size, 2, none⟩ x2 = wX ∧ Row wX wA.heap.size 38 [.int .i64 0, .slice none 0 0, .int .i64 0, .slice none 0 0, .int .i64 0] ∧
    ((((wX.setCell ⟨wA.heap.size, 0, none⟩ y0).setCell ⟨wA.heap.size, 1, none⟩ y1).setCell ⟨wA.heap.size, 2, none⟩ y2).setCell ⟨wA.heap.size, 3, none⟩ y3).setCell ⟨wA.heap.size, 4, none⟩ y4 = wY ∧ Row wY wd.heap.size 31 [x0, x1, x2] ∧ Row wY wA.heap.size 38 [y0, y1, y2, y3, y4] ∧ Below wd.heap.size wd wY ∧ wd.heap.size < wA.heap.size := by
  obtain ⟨wA, hwA, VA, bA, zA⟩ := boxedRow wd 31 [.slice none 0 0, .slice none 0 0, .int .i64 0]
  obtain ⟨wB, hwB, VB, bB, zB⟩ := boxedRow wA 38 [.int .i64 0, .slice none 0 0, .int .i64 0, .slice none 0 0, .int .i64 0]
  have V1 := VA.below bB
  obtain ⟨wX, hwX, VX, KX⟩ := V1.whole3 x0 x1 x2
  have V2 := VB.keep (KX.block wA.heap.size (by omega))
  obtain ⟨wY, hwY, VY, KY⟩ := V2.whole5 y0 y1 y2 y3 y4
  exact ⟨wA, wB, wX, wY, hwA, hwB, V1, hwX, V2, hwY, VX.keep (KY.block wd.heap.size (by omega)), VY, Kept.belowOf (Kept.belowOf (on bA bB) KX (Nat.le_refl _)) KY (by omega), by omega⟩
theorem upd2 {wd : World} {B : Nat} {u0 u1 u2 : Value} (V : Row wd B 31 [u0, u1, u2]) (x0 x1 x2 y0 y1 y2 y3 y4 : Value) : ∃ wA wX wY, wd.alloc (.cells #[.int .i64 0, .slice none 0 0, .int .i64 0, .slice none 0 0, .int .i64 0] 38) = wA ∧ Row wA B 31 [u0, u1, u2] ∧
    ((wA.setCell ⟨B, 0, none⟩ x0).setCell ⟨B, 1, none⟩ x1).setCell ⟨B, 2, none⟩ x2 = wX ∧ Row wX wd.heap.size 38 [.int .i64 0, .slice none 0 0, .int .i64 0, .slice none 0 0, .int .i64 0] ∧
    ((((wX.setCell ⟨wd.heap.size, 0, none⟩ y0).setCell ⟨wd.heap.size, 1, none⟩ y1).setCell ⟨wd.heap.size, 2, none⟩ y2).setCell ⟨wd.heap.size, 3, none⟩ y3).setCell ⟨wd.heap.size, 4, none⟩ y4 = wY ∧ Row wY B 31 [x0, x1, x2] ∧ Row wY wd.heap.size 38 [y0, y1, y2, y3, y4] ∧ Kept (fun q => q < wd.heap.size ∧ q ≠ B) wd wY := by
  obtain ⟨wA, hwA, VA, bA, zA⟩ := boxedRow wd 38 [.int .i64 0, .slice none 0 0, .int .i64 0, .slice none 0 0, .int .i64 0]
  have hl := V.lt
  have V1 := V.below bA
  obtain ⟨wX, hwX, VX, KX⟩ := V1.whole3 x0 x1 x2
  have V2 := VA.keep (KX.block wd.heap.size (by show wd.heap.size ≠ B; omega))
  obtain ⟨wY, hwY, VY, KY⟩ := V2.whole5 y0 y1 y2 y3 y4
  exact ⟨wA, wX, wY, hwA, V1, hwX, V2, hwY, VX.keep (KY.block B (by show B ≠ wd.heap.size; omega)), VY, (((Kept.below bA).mono (fun q hq => hq.1)).trans (KX.mono (fun q hq => hq.2))).trans (KY.mono (fun q hq => by have h := hq.1; omega))⟩
def octL (c : UInt8) : List UInt8 := (List.replicate 64 0).set 5 c
theorem octL_cells (c : UInt8) : (List.replicate 64 (Value.int .u8 0)).set 5 (.int .u8 (c.toNat : Int)) = cellsOf (octL c) := rfl
set_option maxRecDepth 20000 in
set_option maxHeartbeats 1000000 in
theorem octets_u (w : World) (x : Int) (c : UInt8) (hx : x = (c.toNat : Int)) : Calls Try.prog 38 #[.int .u8 x] w fun e w' => ∃ g, e = .returned (.slice (some ⟨g, 0, none⟩) 64 64) ∧ rBytes.rd w' (fun q => w.heap.size ≤ q) [.slice (some ⟨g, 0, none⟩) 64 64] (octL c) ∧ Below w.heap.size w w' := by
  subst hx
  go_enter Try.func38, Try.ntmps38
  go_wp2_with (at_make; refine make_row _ rfl _ _ 26 rfl 5 (.int .u8 0) 1 Try.underlying26 info_u8 rfl 64 _ rfl rfl rfl (by decide) (by decide) ?_; intro w1 HR b1 z1; have c4 := HR.out.cell (j := 5) (v := .int .u8 0) rfl; have f4 := HR.out.frozen 5)
  go_ret
  have R4 := HR.out.set 5 (.int .u8 (c.toNat : Int))
  rw [octL_cells] at R4
  exact ⟨w.heap.size, rfl, rd_row R4 (fun j v h => h) (rdAll_bytes _ _ _) rfl (Nat.le_refl _) (by decide) (Nat.le_refl _), b1.setCell (p := ⟨w.heap.size, 5, none⟩) (Nat.le_refl _) _⟩
end Go.Proofs.Ytflcojljpbojlaa
