/-
  Facts that the proof rests on, part 18. Conditions: those that each of them names.
-/
import Derived.Test.YtoophkmnppoppaaM00
import Derived.Test.YtoophkmnppoppaaM10
import Derived.Test.YtoophkmnppoppaaM13
import Derived.Test.YtoophkmnppoppaaM15
import Derived.Test.YtoophkmnppoppaaM16
namespace Go.Proofs.Ytoophkmnppoppaa
set_option maxHeartbeats 16000000
open Go.RowKit
set_option linter.unusedVariables false
theorem okSnaps_step (next last : Int) (seen : List ByteArray) (x : Snp) (l : List Snp) : Mo.okSnaps next last seen (x :: l) =
 (Mo.okDisk x.2.2 && decide (last < x.1) && decide (x.1 < next) && Mo.okName x.2.1 && !(seen.any (fun n => decide (n = x.2.1))) && Mo.okSnaps next x.1 (seen ++ [x.2.1]) l) := rfl
set_option maxRecDepth 20000 in
theorem docCheck_u (w : World) (P : Nat → Prop) (a b : Option Addr) (n c m d : Nat) (s : Sta) (hS : rSta.rd w P [.slice a n c, .slice b m d, .int .i64 s.2.2] s) :
 Calls Try.prog 17 #[.agg #[.slice a n c, .slice b m d, .int .i64 s.2.2]] w fun e w' => e = .returned (.int .i64 (Mo.checkE s)) ∧ Below w.heap.size w w' := by
 obtain ⟨a', n', c', b', m', d', e, hD, hL, hi⟩ := q0X hS
 simp only [List.cons.injEq, Value.slice.injEq, and_true] at e
 obtain ⟨⟨rfl, rfl, rfl⟩, rfl, rfl, rfl⟩ := e
 obtain ⟨D, l, next⟩ := s
 simp only at hD hL hi ⊢
 have HN : Hid (D.length = n) := (q0Q hD).1
 have HM : Hid (l.length = m) := (q0Q hL).1
 have hm0 : m ≤ 5864062014634 := by have : m * 24 ≤ 140737488351232 := by { have := (q0Q hL).2.2.2; exact Nat.le_trans (Nat.mul_le_mul_left m (by decide)) this }; omega
 obtain ⟨E, hE⟩ : ∃ E, E = Mo.checkE (D, l, next) := ⟨_, rfl⟩
 rw [← hE]
 have HE : Hid (E = if (Mo.okDisk D && decide (l.length ≤ 8) && decide (1 ≤ next) && decide (next ≤ 255) && Mo.okSnaps next 0 [] l) then 0 else 9) := hE
 obtain ⟨w0, hw0, V0, b0, z0⟩ := q0q w 25 [.slice a n c, .slice b m d, .int .i64 next]
 have HV0 : Hid _ := V0
 have B0 : Hid _ := b0
 have HD0 : Hid (rSectors.rd w0 P [.slice a n c] D) := Rep.below hD b0
 have HL0 : Hid (rSnps.rd w0 P [.slice b m d] l) := Rep.below hL b0
 have c0 := V0.cell (j := 0) rfl
 have c1 := V0.cell (j := 1) rfl
 have c2 := V0.cell (j := 2) rfl
 clear hE hS hD hL V0 b0 z0
 by_cases hd : Mo.okDisk D = true
 · have HK : Hid (Mo.okDisk D = true) := hd
   have HE1 : Hid (E = if (decide (l.length ≤ 8) && decide (1 ≤ next) && decide (next ≤ 255) && Mo.okSnaps next 0 [] l) then 0 else 9) := by unfold Hid; rw [HE.out, hd, Bool.true_and]
   clear hd
   by_cases h3 : 8 < m
   · have h3z : (8 : Int) < (m : Int) := by omega
     have HR : Hid (9 = E) := by unfold Hid; rw [HE1.out, decide_eq_false (show ¬ l.length ≤ 8 by rw [HM.out]; omega)]; rfl
     go_enter Try.func17, Try.ntmps17
     go_wp2_with (go_at_call 37; refine Calls.mono (q3j _ P a n c D HD0.out true HK.out) ?_; rintro e w1 ⟨rfl, b1⟩; have c0 := (HV0.out.below b1).cell (j := 0) rfl; have c1 := (HV0.out.below b1).cell (j := 1) rfl; have c2 := (HV0.out.below b1).cell (j := 2) rfl)
     go_ret
     exact ⟨q0z HR.out, on B0.out b1⟩
   have h3z : ¬ (8 : Int) < (m : Int) := by omega
   by_cases h1 : next < 1
   · have HR : Hid (9 = E) := by unfold Hid; rw [HE1.out, decide_eq_false (show ¬ 1 ≤ next by omega)]; simp
     go_enter Try.func17, Try.ntmps17
     go_wp2_with (go_at_call 37; refine Calls.mono (q3j _ P a n c D HD0.out true HK.out) ?_; rintro e w1 ⟨rfl, b1⟩; have c0 := (HV0.out.below b1).cell (j := 0) rfl; have c1 := (HV0.out.below b1).cell (j := 1) rfl; have c2 := (HV0.out.below b1).cell (j := 2) rfl)
     go_ret
     exact ⟨q0z HR.out, on B0.out b1⟩
   by_cases h2 : 255 < next
   · have HR : Hid (9 = E) := by unfold Hid; rw [HE1.out, decide_eq_false (show ¬ next ≤ 255 by omega)]; simp
     go_enter Try.func17, Try.ntmps17
     go_wp2_with (go_at_call 37; refine Calls.mono (q3j _ P a n c D HD0.out true HK.out) ?_; rintro e w1 ⟨rfl, b1⟩; have c0 := (HV0.out.below b1).cell (j := 0) rfl; have c1 := (HV0.out.below b1).cell (j := 1) rfl; have c2 := (HV0.out.below b1).cell (j := 2) rfl)
     go_ret
     exact ⟨q0z HR.out, on B0.out b1⟩
   have HE3 : Hid (E = if Mo.okSnaps next 0 [] l then 0 else 9) := by
    unfold Hid; rw [HE1.out, decide_eq_true (show l.length ≤ 8 by rw [HM.out]; omega), decide_eq_true (show 1 ≤ next by omega), decide_eq_true (show next ≤ 255 by omega)]; simp
   clear hm0
   go_enter Try.func17, Try.ntmps17
   go_wp2_with (go_at_call 37; refine Calls.mono (q3j _ P a n c D HD0.out true HK.out) ?_; rintro e w1 ⟨rfl, b1⟩; have c0 := (HV0.out.below b1).cell (j := 0) rfl; have c1 := (HV0.out.below b1).cell (j := 1) rfl; have c2 := (HV0.out.below b1).cell (j := 2) rfl)
   have B1 : Hid _ := b1
   clear b1 c0 c1 c2
   go_loopw [3, 4] (fun lv i wr => ∃ (k : Nat) (last : Int), k ≤ m ∧ i = .int .i64 k ∧ lv = .int .i64 last ∧ Hid (E = if Mo.okSnaps next last ((l.take k).map (fun x => x.2.1)) (l.drop k) then 0 else 9) ∧ Below w0.heap.size w0 wr) (fun _ i _ => m - (intOf i).toNat)
   case atStart => exact ⟨0, 0, Nat.zero_le _, rfl, rfl, HE3.out, B1.out⟩
   case round =>
    obtain ⟨k, last, hk, rfl, rfl, HEk, bel⟩ := hrel
    have B : Hid _ := bel
    have c1 := (HV0.out.below bel).cell (j := 1) rfl
    by_cases hlt : k < m
    · have hkl : k < l.length := by rw [HM.out]; exact hlt
      obtain ⟨g, off, rfl, -, hgl, hat⟩ := q1J (Rep.below HL0.out bel) (by omega)
      obtain ⟨x, xm, xd, hX, -, e0, e1, e2, hid, hs⟩ := hat k hkl
      have hnames : (l.take (k + 1)).map (fun x => x.2.1) = (l.take k).map (fun x => x.2.1) ++ [l[k].2.1] := by rw [List.take_succ_eq_append_getElem hkl, List.map_append]; rfl
      have HEn : Hid (E = if (Mo.okDisk l[k].2.2 && decide (last < l[k].1) && decide (l[k].1 < next) && Mo.okName l[k].2.1 && !(((l.take k).map (fun x => x.2.1)).any (fun n => decide (n = l[k].2.1))) && Mo.okSnaps next l[k].1 ((l.take (k + 1)).map (fun x => x.2.1)) (l.drop (k + 1))) then 0 else 9) := by
       have h := HEk.out
       rw [List.drop_eq_getElem_cons hkl, okSnaps_step, ← hnames] at h
       exact h
      have hkz : (k : Int) < (m : Int) := by omega
      obtain ⟨Y, hY⟩ : ∃ Y, Y = l[k] := ⟨_, rfl⟩
      rw [← hY] at hX e0 e1 hid hs HEn
      obtain ⟨id, nm, dk⟩ := Y
      simp only at hX e0 e1 hid hs HEn
      obtain ⟨w4, hw4, V4, b4, z4⟩ := q0q wr 67 [.int .i64 id, .string nm, .slice x xm xd]
      have HV4 : Hid _ := V4
      have B4 : Hid (Below w0.heap.size w0 w4) := on bel b4
      have HX4 : Hid (rSectors.rd w4 P [.slice x xm xd] dk) := Rep.below hX b4
      have HNs : Hid (nm.size ≤ maxLen) := hs
      have hsz : nm.size ≤ 9223372036854775807 := by unfold maxLen at hs; omega
      have HGl : Hid (g < w0.heap.size) := by
       by_cases h : g < w0.heap.size
       · exact h
       · obtain ⟨g', off', e', -, hgl', -⟩ := q1J HL0.out (by omega)
         simp only [Option.some.injEq, Addr.mk.injEq, and_true] at e'
         unfold Hid
         rw [e'.1]
         exact hgl'
      have d0 := V4.cell (j := 0) rfl
      have d1 := V4.cell (j := 1) rfl
      have d2 := V4.cell (j := 2) rfl
      have c2 := (HV0.out.below (on bel b4)).cell (j := 2) rfl
      have c1' := (HV0.out.below (on bel b4)).cell (j := 1) rfl
      clear hY hX hat V4 b4 bel hs z4 hnames hgl
      by_cases hdk : Mo.okDisk dk = true
      · have HKd : Hid (Mo.okDisk dk = true) := hdk
        have HE5 : Hid (E = if (decide (last < id) && decide (id < next) && Mo.okName nm && !(((l.take k).map (fun x => x.2.1)).any (fun n => decide (n = nm))) && Mo.okSnaps next id ((l.take (k + 1)).map (fun x => x.2.1)) (l.drop (k + 1))) then 0 else 9) := by unfold Hid; rw [HEn.out, hdk, Bool.true_and]
        clear hdk
        by_cases h4 : id ≤ last
        · have HR : Hid (9 = E) := by unfold Hid; rw [HE5.out, decide_eq_false (show ¬ last < id by omega)]; rfl
          go_wp2_with (go_at_call 37; refine Calls.mono (q3j _ P x xm xd dk HX4.out true HKd.out) ?_; rintro e w5 ⟨rfl, b5⟩; have d0 := (HV4.out.below b5).cell (j := 0) rfl; have d1 := (HV4.out.below b5).cell (j := 1) rfl; have c2 := (HV0.out.below (on B4.out b5)).cell (j := 2) rfl)
          go_ret
          exact ⟨q0z HR.out, on B0.out (on B4.out b5)⟩
        by_cases h5 : next ≤ id
        · have HR : Hid (9 = E) := by unfold Hid; rw [HE5.out, decide_eq_false (show ¬ id < next by omega)]; simp
          go_wp2_with (go_at_call 37; refine Calls.mono (q3j _ P x xm xd dk HX4.out true HKd.out) ?_; rintro e w5 ⟨rfl, b5⟩; have d0 := (HV4.out.below b5).cell (j := 0) rfl; have d1 := (HV4.out.below b5).cell (j := 1) rfl; have c2 := (HV0.out.below (on B4.out b5)).cell (j := 2) rfl)
          go_ret
          exact ⟨q0z HR.out, on B0.out (on B4.out b5)⟩
        have HE6 : Hid (E = if (Mo.okName nm && !(((l.take k).map (fun x => x.2.1)).any (fun n => decide (n = nm))) && Mo.okSnaps next id ((l.take (k + 1)).map (fun x => x.2.1)) (l.drop (k + 1))) then 0 else 9) := by
         unfold Hid; rw [HE5.out, decide_eq_true (show last < id by omega), decide_eq_true (show id < next by omega)]; simp
        by_cases e1' : nm.size < 1
        · have e1z : (nm.size : Int) < 1 := by omega
          have HR : Hid (9 = E) := by unfold Hid; rw [HE6.out, show Mo.okName nm = false from by simp [Mo.okName]; omega]; simp
          go_wp2_with (go_at_call 37; refine Calls.mono (q3j _ P x xm xd dk HX4.out true HKd.out) ?_; rintro e w5 ⟨rfl, b5⟩; have d0 := (HV4.out.below b5).cell (j := 0) rfl; have d1 := (HV4.out.below b5).cell (j := 1) rfl; have c2 := (HV0.out.below (on B4.out b5)).cell (j := 2) rfl)
          go_ret
          exact ⟨q0z HR.out, on B0.out (on B4.out b5)⟩
        have e1z : ¬ (nm.size : Int) < 1 := by omega
        by_cases e2' : 16 < nm.size
        · have e2z : (16 : Int) < (nm.size : Int) := by omega
          have HR : Hid (9 = E) := by unfold Hid; rw [HE6.out, show Mo.okName nm = false from by simp [Mo.okName]; omega]; simp
          go_wp2_with (go_at_call 37; refine Calls.mono (q3j _ P x xm xd dk HX4.out true HKd.out) ?_; rintro e w5 ⟨rfl, b5⟩; have d0 := (HV4.out.below b5).cell (j := 0) rfl; have d1 := (HV4.out.below b5).cell (j := 1) rfl; have c2 := (HV0.out.below (on B4.out b5)).cell (j := 2) rfl)
          go_ret
          exact ⟨q0z HR.out, on B0.out (on B4.out b5)⟩
        have e2z : ¬ (16 : Int) < (nm.size : Int) := by omega
        have HE7 : Hid (E = if (!(((l.take k).map (fun x => x.2.1)).any (fun n => decide (n = nm))) && Mo.okSnaps next id ((l.take (k + 1)).map (fun x => x.2.1)) (l.drop (k + 1))) then 0 else 9) := by
         unfold Hid; rw [HE6.out, show Mo.okName nm = true from by simp [Mo.okName]; omega]; simp
        go_wp2_with (go_at_call 37; refine Calls.mono (q3j _ P x xm xd dk HX4.out true HKd.out) ?_; rintro e w5 ⟨rfl, b5⟩; have d0 := (HV4.out.below b5).cell (j := 0) rfl; have d1 := (HV4.out.below b5).cell (j := 1) rfl; have c2 := (HV0.out.below (on B4.out b5)).cell (j := 2) rfl)
        have B5 : Hid _ := b5
        obtain ⟨vb, hvb⟩ : ∃ vb, vb = wr.heap.size := ⟨_, rfl⟩
        rw [← hvb] at HV4 ⊢
        clear b5 d0 d1 d2 c1 c2 c1' e0 e1 e2 hw4 hvb e1z e2z e1' e2' h4 h5 HKd
        obtain ⟨wo, hwo⟩ : ∃ wo, wo = wr := ⟨_, rfl⟩
        rw [← hwo] at B
        clear hwo
        go_loopw [6] (fun i wr => ∃ j : Nat, j ≤ k ∧ i = .int .i64 j ∧ Hid (∀ (q : Nat) (hq : q < l.length), q < j → ¬ l[q].2.1 = nm) ∧ Hid (Below w4.heap.size w4 wr)) (fun i _ => k - (intOf i).toNat)
        case atStart => exact ⟨0, Nat.zero_le _, rfl, (fun q _ h => by omega), B5.out⟩
        case round =>
         obtain ⟨j, hj, rfl, HJ, HBj⟩ := hrel
         have c1 := (HV0.out.below (on B4.out HBj.out)).cell (j := 1) rfl
         have d1 := (HV4.out.below HBj.out).cell (j := 1) rfl
         by_cases hjk : j < k
         · have hjl : j < l.length := by omega
           obtain ⟨g', off', eg, -, -, hat⟩ := q1J (Rep.below HL0.out (on B4.out HBj.out)) (by omega)
           simp only [Option.some.injEq, Addr.mk.injEq, and_true] at eg
           obtain ⟨rfl, rfl⟩ := eg
           obtain ⟨-, -, -, -, -, -, k1, -, -, -⟩ := hat j hjl
           have HHere : Hid (l[j].2.1 = nm → 9 = E) := fun h => by
            rw [HE7.out, List.any_eq_true.2 ⟨l[j].2.1, List.mem_map.2 ⟨l[j], List.mem_take_iff_getElem.2 ⟨j, by omega, rfl⟩, rfl⟩, decide_eq_true h⟩]
            rfl
           have HNx : Hid (¬ l[j].2.1 = nm → ∀ (q : Nat) (hq : q < l.length), q < j + 1 → ¬ l[q].2.1 = nm) := fun h q hq hqj => by
            by_cases e : q = j
            · subst e; exact h
            · exact HJ.out q hq (by omega)
           obtain ⟨Y, hY⟩ : ∃ Y, Y = l[j].2.1 := ⟨_, rfl⟩
           rw [← hY] at k1 HHere HNx
           have hjz : (j : Int) < (k : Int) := by omega
           have hjm : (j : Int) < (m : Int) := by omega
           clear hY hat
           by_cases he : Y = nm
           · have HR : Hid (9 = E) := HHere.out he
             subst he
             clear HHere HNx
             go_wp2_with fail
             go_quiet (fail)
             go_wp2
             go_ret
             exact ⟨q0z HR.out, q3x (on B0.out (on B4.out HBj.out)) _⟩
           · have HN2 : Hid _ := HNx.out he
             have heq : (Y.toList == nm.toList) = false := by rw [eqB]; exact decide_eq_false he
             clear HHere HNx he
             go_wp2_with fail
             go_quiet (fail)
             go_wp2
             go_roundw
             case rel => exact ⟨j + 1, by omega, by go_num, HN2, q3x HBj.out _⟩
             case measure => simp [intOf]; omega
         · obtain rfl : j = k := by omega
           have HE8 : Hid (E = if Mo.okSnaps next id ((l.take (j + 1)).map (fun x => x.2.1)) (l.drop (j + 1)) then 0 else 9) := by
            have hf : ((l.take j).map (fun x => x.2.1)).any (fun n => decide (n = nm)) = false := by
             rw [List.any_eq_false]
             intro y hy
             obtain ⟨z, hz, rfl⟩ := List.mem_map.1 hy
             obtain ⟨q, hq, rfl⟩ := List.mem_take_iff_getElem.1 hz
             have := HJ.out q (by omega) (by omega)
             simpa using this
            unfold Hid
            rw [HE7.out, hf]
            simp
           have d0 := (HV4.out.below HBj.out).cell (j := 0) rfl
           go_wp2
           go_roundw
           case rel => exact ⟨j + 1, id, by omega, by go_num, rfl, HE8, on B4.out HBj.out⟩
           case measure => simp [intOf]; omega
      · have HKd : Hid (Mo.okDisk dk = false) := Bool.eq_false_iff.2 hdk
        have HR : Hid (9 = E) := by unfold Hid; rw [HEn.out, HKd.out]; rfl
        clear hdk
        go_wp2_with (go_at_call 37; refine Calls.mono (q3j _ P x xm xd dk HX4.out false HKd.out) ?_; rintro e w5 ⟨rfl, b5⟩)
        go_ret
        exact ⟨q0z HR.out, on B0.out (on B4.out b5)⟩
    · obtain rfl : m = k := by omega
      have HR : Hid (0 = E) := by
       have h := HEk.out
       unfold Hid
       rw [List.drop_of_length_le (by rw [HM.out]; exact Nat.le_refl _)] at h
       exact h.symm
      clear bel
      go_wp2
      go_ret
      exact ⟨q0z HR.out, on B0.out B.out⟩
 · have HK : Hid (Mo.okDisk D = false) := Bool.eq_false_iff.2 hd
   have HR : Hid (9 = E) := by unfold Hid; rw [HE.out, HK.out]; rfl
   clear hd
   go_enter Try.func17, Try.ntmps17
   go_wp2_with (go_at_call 37; refine Calls.mono (q3j _ P a n c D HD0.out false HK.out) ?_; rintro e w1 ⟨rfl, b1⟩)
   go_ret
   exact ⟨q0z HR.out, on B0.out b1⟩
theorem rOpn.of {w : World} {P : Nat → Prop} {k at' N id : Int} {nm : ByteArray} {dt : List UInt8} {xa : Option Addr} {xn xc : Nat} (h1 : I64 k) (h2 : I64 at') (h3 : I64 N) (h4 : I64 id) (h5 : nm.size ≤ maxLen) (h : rBytes.rd w P [.slice xa xn xc] dt) :
 rOpn.rd w P [.int .i64 k, .int .i64 at', .int .i64 N, .int .i64 id, .string nm, .slice xa xn xc] (k, at', N, id, nm, dt) :=
 ⟨[_], [_, _, _, _, _], rfl, ⟨rfl, h1⟩, [_], [_, _, _, _], rfl, ⟨rfl, h2⟩, [_], [_, _, _], rfl, ⟨rfl, h3⟩, [_], [_, _], rfl, ⟨rfl, h4⟩, [_], [_], rfl, ⟨rfl, h5⟩, h⟩
set_option maxRecDepth 20000 in
theorem do_v (w : World) (P : Nat → Prop) (a b : Option Addr) (n c m d : Nat) (next : Int) (s : Sta) (hS : rSta.rd w P [.slice a n c, .slice b m d, .int .i64 next] s) (k at' N id : Int) (nm : ByteArray) (dt : List UInt8) (xa : Option Addr) (xn xc : Nat) (h1 : I64 k) (h2 : I64 at') (h3 : I64 N) (h4 : I64 id) (h5 : nm.size ≤ maxLen) {P' : Nat → Prop} (hX : rBytes.rd w P' [.slice xa xn xc] dt) :
 Calls Try.prog 11 #[.agg #[.slice a n c, .slice b m d, .int .i64 next], .agg #[.int .i64 k, .int .i64 at', .int .i64 N, .int .i64 id, .string nm, .slice xa xn xc]] w fun e w' => ∃ (a' : Option Addr) (n' c' : Nat) (b' : Option Addr) (m' d' : Nat) (next' : Int) (da : Option Addr) (dn dc : Nat) (la : Option Addr) (ln lc : Nat),
  e = .returned (.tuple #[.agg #[.slice a' n' c', .slice b' m' d', .int .i64 next'], .agg #[.int .i64 (Mo.doR s (k, at', N, id, nm, dt)).1, .slice da dn dc, .int .i64 (Mo.doR s (k, at', N, id, nm, dt)).2.2.1, .slice la ln lc, .int .i64 (Mo.doR s (k, at', N, id, nm, dt)).2.2.2.2]]) ∧
  rSta.rd w' (fun q => w.heap.size ≤ q) [.slice a' n' c', .slice b' m' d', .int .i64 next'] (Mo.doS s (k, at', N, id, nm, dt)) ∧ rBytes.rd w' (fun q => w.heap.size ≤ q) [.slice da dn dc] (Mo.doR s (k, at', N, id, nm, dt)).2.1 ∧ rNmds.rd w' (fun q => w.heap.size ≤ q) [.slice la ln lc] (Mo.doR s (k, at', N, id, nm, dt)).2.2.2.1 ∧ Below w.heap.size w w' := by
 obtain ⟨a', n', c', b', m', d', e, -, -, -⟩ := q0X hS
 simp only [List.cons.injEq, Value.slice.injEq, Value.int.injEq, and_true, true_and] at e
 obtain ⟨-, -, rfl⟩ := e
 refine Calls.mono (do_u w (fun _ => True) a b n c m d s (rSta.weaken hS (fun _ _ _ => trivial)) k at' N id nm dt xa xn xc (rOpn.of h1 h2 h3 h4 h5 (rBytes.weaken hX (fun _ _ _ => trivial)))) ?_
 rintro e w' ⟨cs, rs, db, rfl, h1, ⟨da, dn, dc, la, ln, lc, rfl, h3, h4⟩, h5, h6, h7⟩
 obtain ⟨a', n', c', b', m', d', rfl, -, -, -⟩ := q0X h1
 exact ⟨a', n', c', b', m', d', _, da, dn, dc, la, ln, lc, rfl, rSta.weaken h1 (fun q hq _ => hq.1), rBytes.weaken h3.1 (fun q hq _ => by have h : q = db := hq; show w.heap.size ≤ q; omega), h4, h7⟩
theorem q1Z {w : World} {P : Nat → Prop} {a b : Option Addr} {n c m d : Nat} {t : Int} {s : Sta} (h : rSta.rd w P [.slice a n c, .slice b m d, .int .i64 t] s) :
 rSectors.rd w P [.slice a n c] s.1 ∧ rSnps.rd w P [.slice b m d] s.2.1 ∧ s.1.length = n ∧ s.2.1.length = m ∧ t = s.2.2 := by
 obtain ⟨a', n', c', b', m', d', e, h1, h2, -⟩ := q0X h
 simp only [List.cons.injEq, Value.slice.injEq, Value.int.injEq, and_true, true_and] at e
 obtain ⟨⟨rfl, rfl, rfl⟩, ⟨rfl, rfl, rfl⟩, rfl⟩ := e
 exact ⟨h1, h2, (q0Q h1).1, (q0Q h2).1, rfl⟩
theorem qCj (w : World) (P : Nat → Prop) (a b : Option Addr) (n c m d : Nat) (t : Int) (s : Sta) (hS : rSta.rd w P [.slice a n c, .slice b m d, .int .i64 t] s) :
 Calls Try.prog 17 #[.agg #[.slice a n c, .slice b m d, .int .i64 t]] w fun e w' => e = .returned (.int .i64 (Mo.checkE s)) ∧ Below w.heap.size w w' := by
 obtain rfl := (q1Z hS).2.2.2.2
 exact docCheck_u w P a b n c m d s hS
theorem check_v (w : World) (P : Nat → Prop) (a b : Option Addr) (n c m d : Nat) (t : Int) (s : Sta) (hS : rSta.rd w P [.slice a n c, .slice b m d, .int .i64 t] s) :
 Calls Try.prog 16 #[.agg #[.slice a n c, .slice b m d, .int .i64 t]] w fun e w' => e = .returned (.int .i64 (Mo.checkE s)) ∧ Below w.heap.size w w' := by
 obtain rfl := (q1Z hS).2.2.2.2
 exact check_u w P a b n c m d s hS
theorem fresh2 (wd : World) (x0 x1 x2 y0 y1 y2 y3 y4 : Value) : ∃ wA wB wX wY, wd.alloc (.cells #[.slice none 0 0, .slice none 0 0, .int .i64 0] 31) = wA ∧ wA.alloc (.cells #[.int .i64 0, .slice none 0 0, .int .i64 0, .slice none 0 0, .int .i64 0] 38) = wB ∧ Row wB wd.heap.size 31 [.slice none 0 0, .slice none 0 0, .int .i64 0] ∧
 ((wB.setCell ⟨wd.heap.size, 0, none⟩ x0).setCell ⟨wd.heap.size, 1, none⟩ x1).setCell ⟨wd.heap.size, 2, none⟩ x2 = wX ∧ Row wX wA.heap.size 38 [.int .i64 0, .slice none 0 0, .int .i64 0, .slice none 0 0, .int .i64 0] ∧
 ((((wX.setCell ⟨wA.heap.size, 0, none⟩ y0).setCell ⟨wA.heap.size, 1, none⟩ y1).setCell ⟨wA.heap.size, 2, none⟩ y2).setCell ⟨wA.heap.size, 3, none⟩ y3).setCell ⟨wA.heap.size, 4, none⟩ y4 = wY ∧ Row wY wd.heap.size 31 [x0, x1, x2] ∧ Row wY wA.heap.size 38 [y0, y1, y2, y3, y4] ∧ Below wd.heap.size wd wY ∧ wd.heap.size < wA.heap.size := by
 obtain ⟨wA, hwA, VA, bA, zA⟩ := q0q wd 31 [.slice none 0 0, .slice none 0 0, .int .i64 0]
 obtain ⟨wB, hwB, VB, bB, zB⟩ := q0q wA 38 [.int .i64 0, .slice none 0 0, .int .i64 0, .slice none 0 0, .int .i64 0]
 have V1 := VA.below bB
 obtain ⟨wX, hwX, VX, KX⟩ := V1.whole3 x0 x1 x2
 have V2 := VB.keep (KX.block wA.heap.size (by omega))
 obtain ⟨wY, hwY, VY, KY⟩ := V2.whole5 y0 y1 y2 y3 y4
 exact ⟨wA, wB, wX, wY, hwA, hwB, V1, hwX, V2, hwY, VX.keep (KY.block wd.heap.size (by omega)), VY, Kept.belowOf (Kept.belowOf (on bA bB) KX (Nat.le_refl _)) KY (by omega), by omega⟩
theorem upd2 {wd : World} {B : Nat} {u0 u1 u2 : Value} (V : Row wd B 31 [u0, u1, u2]) (x0 x1 x2 y0 y1 y2 y3 y4 : Value) : ∃ wA wX wY, wd.alloc (.cells #[.int .i64 0, .slice none 0 0, .int .i64 0, .slice none 0 0, .int .i64 0] 38) = wA ∧ Row wA B 31 [u0, u1, u2] ∧
 ((wA.setCell ⟨B, 0, none⟩ x0).setCell ⟨B, 1, none⟩ x1).setCell ⟨B, 2, none⟩ x2 = wX ∧ Row wX wd.heap.size 38 [.int .i64 0, .slice none 0 0, .int .i64 0, .slice none 0 0, .int .i64 0] ∧
 ((((wX.setCell ⟨wd.heap.size, 0, none⟩ y0).setCell ⟨wd.heap.size, 1, none⟩ y1).setCell ⟨wd.heap.size, 2, none⟩ y2).setCell ⟨wd.heap.size, 3, none⟩ y3).setCell ⟨wd.heap.size, 4, none⟩ y4 = wY ∧ Row wY B 31 [x0, x1, x2] ∧ Row wY wd.heap.size 38 [y0, y1, y2, y3, y4] ∧ Kept (fun q => q < wd.heap.size ∧ q ≠ B) wd wY := by
 obtain ⟨wA, hwA, VA, bA, zA⟩ := q0q wd 38 [.int .i64 0, .slice none 0 0, .int .i64 0, .slice none 0 0, .int .i64 0]
 have hl := V.lt
 have V1 := V.below bA
 obtain ⟨wX, hwX, VX, KX⟩ := V1.whole3 x0 x1 x2
 have V2 := VA.keep (KX.block wd.heap.size (by show wd.heap.size ≠ B; omega))
 obtain ⟨wY, hwY, VY, KY⟩ := V2.whole5 y0 y1 y2 y3 y4
 exact ⟨wA, wX, wY, hwA, V1, hwX, V2, hwY, VX.keep (KY.block B (by show B ≠ wd.heap.size; omega)), VY, (((Kept.below bA).mono (fun q hq => hq.1)).trans (KX.mono (fun q hq => hq.2))).trans (KY.mono (fun q hq => by have h := hq.1; omega))⟩
def octL (c : UInt8) : List UInt8 := (List.replicate 64 0).set 5 c
theorem octL_cells (c : UInt8) : (List.replicate 64 (Value.int .u8 0)).set 5 (.int .u8 (c.toNat : Int)) = cellsOf (octL c) := rfl
set_option maxRecDepth 20000 in
theorem qAJ (w : World) (x : Int) (c : UInt8) (hx : x = (c.toNat : Int)) : Calls Try.prog 38 #[.int .u8 x] w fun e w' => ∃ g, e = .returned (.slice (some ⟨g, 0, none⟩) 64 64) ∧ rBytes.rd w' (fun q => w.heap.size ≤ q) [.slice (some ⟨g, 0, none⟩) 64 64] (octL c) ∧ Below w.heap.size w w' := by
 subst hx
 go_enter Try.func38, Try.ntmps38
 go_wp2_with (at_make; refine qBq _ rfl _ _ 26 rfl 5 (.int .u8 0) 1 Try.underlying26 qFQ rfl 64 _ rfl rfl rfl (by decide) (by decide) ?_; intro w1 HR b1 z1; have c4 := HR.out.cell (j := 5) (v := .int .u8 0) rfl; have f4 := HR.out.frozen 5)
 go_ret
 have R4 := HR.out.set 5 (.int .u8 (c.toNat : Int))
 rw [octL_cells] at R4
 exact ⟨w.heap.size, rfl, rd_row R4 (fun j v h => h) (q9x _ _ _) rfl (Nat.le_refl _) (by decide) (Nat.le_refl _), b1.setCell (p := ⟨w.heap.size, 5, none⟩) (Nat.le_refl _) _⟩
def nmA : ByteArray := { data := #[97] }
def alS1 : Sta := Mo.newS 2
def alS2 : Sta := Mo.doS alS1 (1, 0, 0, 0, ⟨#[]⟩, octL 1)
def alS3 : Sta := Mo.doS alS2 (4, 0, 0, 0, nmA, [])
def alS4 : Sta := Mo.doS alS3 (1, 0, 0, 0, ⟨#[]⟩, octL 2)
def alS5 : Sta := Mo.doS alS4 (6, 0, 0, 1, ⟨#[]⟩, [])
theorem al_E : Mo.newE 2 = 0 := rfl
theorem al_R3 : (Mo.doR alS2 (4, 0, 0, 0, nmA, [])).2.2.1 = 1 := by decide +kernel
theorem al_R6 : (Mo.doR alS5 (2, 0, 1, 0, ⟨#[]⟩, [])).2.1 = octL 1 := by decide +kernel
set_option maxRecDepth 20000 in
theorem alive10_u (w : World) : Calls Try.prog 19 #[] w fun e w' => e = .returned (.bool true) ∧ Below w.heap.size w w' := by
 go_enter Try.func19, Try.ntmps19
 go_wp2_with fail
 go_at_call 20
 refine Calls.mono (new_u w 2 (by unfold I64; decide)) ?_
 rintro e w1 ⟨cs1, rfl, hr1, bw1⟩
 rw [al_E]
 obtain ⟨a1, n1, c1, b1, m1, d1, rfl, -, -, -⟩ := q0X hr1
 obtain ⟨t1, ht1⟩ : ∃ t, t = (Mo.newS 2).2.2 := ⟨_, rfl⟩
 rw [← ht1] at hr1 ⊢
 obtain ⟨v1, hv1, V1', bv1, zv1⟩ := q0q w1 31 [.slice a1 n1 c1, .slice b1 m1 d1, .int .i64 t1]
 obtain ⟨B, hB⟩ : ∃ B, B = w1.heap.size := ⟨_, rfl⟩
 have HB : Hid (w.heap.size ≤ B) := by rw [hB]; exact bw1.size
 have V1 : Hid (Row v1 B 31 [.slice a1 n1 c1, .slice b1 m1 d1, .int .i64 t1]) := by rw [hB]; exact V1'
 have HR1 : Hid (rSta.rd v1 (· ≠ B) [.slice a1 n1 c1, .slice b1 m1 d1, .int .i64 t1] alS1) := by
  have h : rSta.rd w1 (fun q => q < w1.heap.size) [.slice a1 n1 c1, .slice b1 m1 d1, .int .i64 t1] alS1 := rSta.weaken hr1 (fun q _ hq => hq)
  rw [hB]
  exact rSta.weaken (Rep.below h bv1) (fun q hq _ => by have h : q < w1.heap.size := hq; show q ≠ w1.heap.size; omega)
 have BW1 : Hid (Below w.heap.size w v1) := on bw1 bv1
 have HBv1 : Hid (w.heap.size ≤ v1.heap.size) := BW1.out.size
 have hB' : w1.heap.size = B := hB.symm
 clear hr1 ht1 V1' bv1 zv1 bw1 hB
 go_wp2_with fail
 go_cut [10] (fun _ wx => ∃ a n c b m d t, Hid (Row wx B 31 [.slice a n c, .slice b m d, .int .i64 t]) ∧ Hid (rSta.rd wx (· ≠ B) [.slice a n c, .slice b m d, .int .i64 t] alS2) ∧ Hid (Below w.heap.size w wx))
 case first =>
  refine wp_region_held_drew (S := (fun _ : World => True)) (by kernel_rfl) (trivial) (fun hH => ?_)
  refine rdL [0, 1] ?_
  refine rcL (fun K hK => ?_) ?_
  · have p0 := V1.out.cell (j := 0) rfl
    have p1 := V1.out.cell (j := 1) rfl
    have p2 := V1.out.cell (j := 2) rfl
    go_simp
    clear p0 p1 p2
    refine hK.out _ _ ?_ (fun hH => ?_)
    · try dsimp only
      all_goals exact trivial
    clear hK K
    refine r1L 1 rfl fun K hK => ?_
    · go_simp
      go_at_call 38
      refine Calls.mono (qAJ v1.drew 1 1 rfl) ?_
      rintro e wo ⟨g, rfl, hro, bo⟩
      have BO : Hid (Below v1.heap.size v1 wo) := (Below.refl _ v1).drew.trans bo
      have HRO : Hid (rBytes.rd wo (fun q => v1.heap.size ≤ q) [.slice (some ⟨g, 0, none⟩) 64 64] (octL 1)) := hro
      clear hro bo
      go_simp
      refine hK.out _ _ ?_ (fun hH => ?_)
      · try dsimp only
        all_goals exact trivial
      clear hK K
      refine tkM 2 _ rfl rfl ?_; simp only [sz, ss]
      refine r1L 3 rfl fun K hK => ?_
      · go_simp
        go_at_call 11
        refine Calls.mono (do_v wo (fun _ => True) a1 b1 n1 c1 m1 d1 t1 alS1 (rSta.weaken (Rep.below HR1.out BO.out) (fun _ _ _ => trivial)) 1 0 0 0 ⟨#[]⟩ (octL 1) (some ⟨g, 0, none⟩) 64 64 (by unfold I64; decide) (by unfold I64; decide) (by unfold I64; decide) (by unfold I64; decide) (by decide) HRO.out) ?_
        rintro e wd ⟨a', n', c', b', m', d', t', da, dn, dc, la, ln, lc, rfl, hrd, -, -, bd⟩
        have HRD : Hid (rSta.rd wd (fun q => wo.heap.size ≤ q) [.slice a' n' c', .slice b' m' d', .int .i64 t'] alS2) := hrd
        have BD : Hid _ := on BO.out bd
        have VD : Hid _ := V1.out.below BD.out
        clear hrd bd
        go_simp
        refine hK.out _ _ ?_ (fun hH => ?_)
        · try dsimp only
          all_goals exact trivial
        clear hK K
        refine tkM 4 _ rfl rfl ?_; simp only [sz, ss]
        refine tkM 5 _ rfl rfl ?_; simp only [sz, ss]
        refine tkM 6 _ rfl rfl ?_; simp only [sz, ss]
        refine r1L 7 rfl fun K hK => ?_
        · have p0 := VD.out.cell (j := 0) rfl
          have p1 := VD.out.cell (j := 1) rfl
          have p2 := VD.out.cell (j := 2) rfl
          have f0 := VD.out.frozen 0
          have f1 := VD.out.frozen 1
          have f2 := VD.out.frozen 2
          obtain ⟨wX, hwX, VX', KX'⟩ := VD.out.whole3 (.slice a' n' c') (.slice b' m' d') (.int .i64 t')
          have VX : Hid _ := VX'
          have KX : Hid _ := KX'
          clear VX' KX'
          go_simp
          clear p0 p1 p2 f0 f1 f2
          refine hK.out _ _ ?_ (fun hH => ?_)
          · try dsimp only
            all_goals exact trivial
          clear hK K
          refine wpAnyH_done (by kernel_rfl) ?_ _
          clear hH
          go_wp2_with fail
          go_meet
          exact ⟨a', n', c', b', m', d', t', VX, Rep.kept HRD.out KX.out (fun q hq _ => by have h1 : wo.heap.size ≤ q := hq; have h2 := BO.out.size; have h3 := V1.out.lt; show q ≠ B; omega) |> fun h => rSta.weaken h (fun q hq _ => by have h1 : wo.heap.size ≤ q := hq; have h2 := BO.out.size; have h3 := V1.out.lt; show q ≠ B; omega), Kept.belowOf (BW1.out.trans (BD.out.mono HBv1.out)) KX.out HB.out⟩
  refine rcL (fun K hK => ?_) ?_
  · go_simp
    go_at_call 38
    refine Calls.mono (qAJ v1.drew 1 1 rfl) ?_
    rintro e wo ⟨g, rfl, hro, bo⟩
    have BO : Hid (Below v1.heap.size v1 wo) := (Below.refl _ v1).drew.trans bo
    have HRO : Hid (rBytes.rd wo (fun q => v1.heap.size ≤ q) [.slice (some ⟨g, 0, none⟩) 64 64] (octL 1)) := hro
    clear hro bo
    go_simp
    refine hK.out _ _ ?_ (fun hH => ?_)
    · try dsimp only
      all_goals exact trivial
    clear hK K
    refine tkM 2 _ rfl rfl ?_; simp only [sz, ss]
    refine r1L 0 rfl fun K hK => ?_
    · have p0 := (V1.out.below BO.out).cell (j := 0) rfl
      have p1 := (V1.out.below BO.out).cell (j := 1) rfl
      have p2 := (V1.out.below BO.out).cell (j := 2) rfl
      go_simp
      clear p0 p1 p2
      refine hK.out _ _ ?_ (fun hH => ?_)
      · try dsimp only
        all_goals exact trivial
      clear hK K
      refine r1L 3 rfl fun K hK => ?_
      · go_simp
        go_at_call 11
        refine Calls.mono (do_v wo (fun _ => True) a1 b1 n1 c1 m1 d1 t1 alS1 (rSta.weaken (Rep.below HR1.out BO.out) (fun _ _ _ => trivial)) 1 0 0 0 ⟨#[]⟩ (octL 1) (some ⟨g, 0, none⟩) 64 64 (by unfold I64; decide) (by unfold I64; decide) (by unfold I64; decide) (by unfold I64; decide) (by decide) HRO.out) ?_
        rintro e wd ⟨a', n', c', b', m', d', t', da, dn, dc, la, ln, lc, rfl, hrd, -, -, bd⟩
        have HRD : Hid (rSta.rd wd (fun q => wo.heap.size ≤ q) [.slice a' n' c', .slice b' m' d', .int .i64 t'] alS2) := hrd
        have BD : Hid _ := on BO.out bd
        have VD : Hid _ := V1.out.below BD.out
        clear hrd bd
        go_simp
        refine hK.out _ _ ?_ (fun hH => ?_)
        · try dsimp only
          all_goals exact trivial
        clear hK K
        refine tkM 4 _ rfl rfl ?_; simp only [sz, ss]
        refine tkM 5 _ rfl rfl ?_; simp only [sz, ss]
        refine tkM 6 _ rfl rfl ?_; simp only [sz, ss]
        refine r1L 7 rfl fun K hK => ?_
        · have p0 := VD.out.cell (j := 0) rfl
          have p1 := VD.out.cell (j := 1) rfl
          have p2 := VD.out.cell (j := 2) rfl
          have f0 := VD.out.frozen 0
          have f1 := VD.out.frozen 1
          have f2 := VD.out.frozen 2
          obtain ⟨wX, hwX, VX', KX'⟩ := VD.out.whole3 (.slice a' n' c') (.slice b' m' d') (.int .i64 t')
          have VX : Hid _ := VX'
          have KX : Hid _ := KX'
          clear VX' KX'
          go_simp
          clear p0 p1 p2 f0 f1 f2
          refine hK.out _ _ ?_ (fun hH => ?_)
          · try dsimp only
            all_goals exact trivial
          clear hK K
          refine wpAnyH_done (by kernel_rfl) ?_ _
          clear hH
          go_wp2_with fail
          go_meet
          exact ⟨a', n', c', b', m', d', t', VX, Rep.kept HRD.out KX.out (fun q hq _ => by have h1 : wo.heap.size ≤ q := hq; have h2 := BO.out.size; have h3 := V1.out.lt; show q ≠ B; omega) |> fun h => rSta.weaken h (fun q hq _ => by have h1 : wo.heap.size ≤ q := hq; have h2 := BO.out.size; have h3 := V1.out.lt; show q ≠ B; omega), Kept.belowOf (BW1.out.trans (BD.out.mono HBv1.out)) KX.out HB.out⟩
  exact rnL
 obtain ⟨a2, n2, c2, b2, m2, d2, t2, V2, HR2, BW2⟩ := hcut
 obtain ⟨v2, hv2⟩ : ∃ v, v = wc := ⟨_, rfl⟩
 subst hv2
 have HBv2 : Hid (w.heap.size ≤ v2.heap.size) := BW2.out.size
 clear V1 HR1 BW1 HBv1
 have p0 := V2.out.cell (j := 0) rfl
 have p1 := V2.out.cell (j := 1) rfl
 have p2 := V2.out.cell (j := 2) rfl
 go_wp2_with fail
 go_at_call 11
 refine Calls.mono (do_v v2 (fun _ => True) a2 b2 n2 c2 m2 d2 t2 alS2 (rSta.weaken HR2.out (fun _ _ _ => trivial)) 4 0 0 0 ⟨#[97]⟩ [] none 0 0 (by unfold I64; decide) (by unfold I64; decide) (by unfold I64; decide) (by unfold I64; decide) (by decide) (P' := fun _ => True) (q0j _ _ _ _ (fun _ => rfl))) ?_
 rintro e wd ⟨a3, n3, c3, b3, m3, d3, t3, dz, dzn, dzc, lz, lzn, lzc, rfl, hrd, hdd, -, bd⟩
 have HRD : Hid (rSta.rd wd (fun q => v2.heap.size ≤ q) [.slice a3 n3 c3, .slice b3 m3 d3, .int .i64 t3] alS3) := hrd
 have HDD : Hid _ := hdd
 have BD : Hid _ := bd
 have VD : Hid _ := V2.out.below bd
 clear hrd hdd bd p0 p1 p2
 rw [show Mo.doR alS2 (4, 0, 0, 0, ⟨#[97]⟩, []) = Mo.doR alS2 (4, 0, 0, 0, nmA, []) from rfl, al_R3]
 obtain ⟨z0, hz0⟩ : ∃ z, z = (Mo.doR alS2 (4, 0, 0, 0, nmA, [])).1 := ⟨_, rfl⟩
 obtain ⟨z1, hz1⟩ : ∃ z, z = (Mo.doR alS2 (4, 0, 0, 0, nmA, [])).2.2.2.2 := ⟨_, rfl⟩
 rw [← hz0, ← hz1]
 clear hz0 hz1 HDD
 obtain ⟨wd3, hwd3⟩ : ∃ wd3, wd3 = wd := ⟨_, rfl⟩
 subst hwd3
 obtain ⟨wA, wX, v3, hwA, va, hwX, vr, hv3, V3', VR', K3⟩ := upd2 VD.out (.slice a3 n3 c3) (.slice b3 m3 d3) (.int .i64 t3) (.int .i64 z0) (.slice dz dzn dzc) (.int .i64 1) (.slice lz lzn lzc) (.int .i64 z1)
 have p0 := va.cell (j := 0) rfl
 have p1 := va.cell (j := 1) rfl
 have p2 := va.cell (j := 2) rfl
 have f0 := va.frozen 0
 have f1 := va.frozen 1
 have f2 := va.frozen 2
 have r0 := vr.cell (j := 0) rfl
 have r1 := vr.cell (j := 1) rfl
 have r2 := vr.cell (j := 2) rfl
 have r3 := vr.cell (j := 3) rfl
 have r4 := vr.cell (j := 4) rfl
 have g0 := vr.frozen 0
 have g1 := vr.frozen 1
 have g2 := vr.frozen 2
 have g3 := vr.frozen 3
 have g4 := vr.frozen 4
 have V3 : Hid _ := V3'
 have VR3 : Hid _ := VR'
 have HBR : Hid (B < wd3.heap.size) := Nat.lt_of_lt_of_le V2.out.lt BD.out.size
 have HR3 : Hid (rSta.rd v3 (· ≠ B) [.slice a3 n3 c3, .slice b3 m3 d3, .int .i64 t3] alS3) := by
  have h : rSta.rd wd3 (fun q => q < wd3.heap.size ∧ q ≠ B) [.slice a3 n3 c3, .slice b3 m3 d3, .int .i64 t3] alS3 := rSta.weaken HRD.out (fun q hq hl => ⟨hl, by have h1 : v2.heap.size ≤ q := hq; have h2 := V2.out.lt; omega⟩)
  exact rSta.weaken (Rep.kept h K3 (fun q hq _ => hq)) (fun q hq _ => hq.2)
 have BW3 : Hid (Below w.heap.size w v3) := Kept.toBelow ((Kept.below (BW2.out.trans (BD.out.mono HBv2.out))).trans (K3.mono (fun q hq => by have h1 : q < w.heap.size := hq; have h2 := HB.out; have h3 := V2.out.lt; have h4 := BD.out.size; exact ⟨by omega, by omega⟩)))
 have HBv3 : Hid (w.heap.size ≤ v3.heap.size) := BW3.out.size
 clear va vr V3' VR' K3 HRD BD VD V2 HR2 BW2 HBv2
 go_wp2_with fail
 clear p0 p1 p2 f0 f1 f2 r0 r1 r2 r3 r4 g0 g1 g2 g3 g4
 go_cut [23] (fun _ wx => ∃ a n c b m d t, Hid (Row wx B 31 [.slice a n c, .slice b m d, .int .i64 t]) ∧ Hid (rSta.rd wx (· ≠ B) [.slice a n c, .slice b m d, .int .i64 t] alS4) ∧ Hid (Below w.heap.size w wx) ∧ Hid (Row wx wd3.heap.size 38 [.int .i64 z0, .slice dz dzn dzc, .int .i64 1, .slice lz lzn lzc, .int .i64 z1]))
 case first =>
  refine wp_region_held_drew (S := (fun _ : World => True)) (by kernel_rfl) (trivial) (fun hH => ?_)
  refine rdL [0, 1] ?_
  refine rcL (fun K hK => ?_) ?_
  · have p0 := V3.out.cell (j := 0) rfl
    have p1 := V3.out.cell (j := 1) rfl
    have p2 := V3.out.cell (j := 2) rfl
    go_simp
    clear p0 p1 p2
    refine hK.out _ _ ?_ (fun hH => ?_)
    · try dsimp only
      all_goals exact trivial
    clear hK K
    refine r1L 1 rfl fun K hK => ?_
    · go_simp
      go_at_call 38
      refine Calls.mono (qAJ v3.drew 2 2 rfl) ?_
      rintro e wo ⟨g, rfl, hro, bo⟩
      have BO : Hid (Below v3.heap.size v3 wo) := (Below.refl _ v3).drew.trans bo
      have HRO : Hid (rBytes.rd wo (fun q => v3.heap.size ≤ q) [.slice (some ⟨g, 0, none⟩) 64 64] (octL 2)) := hro
      clear hro bo
      go_simp
      refine hK.out _ _ ?_ (fun hH => ?_)
      · try dsimp only
        all_goals exact trivial
      clear hK K
      refine tkM 2 _ rfl rfl ?_; simp only [sz, ss]
      refine r1L 3 rfl fun K hK => ?_
      · go_simp
        go_at_call 11
        refine Calls.mono (do_v wo (fun _ => True) a3 b3 n3 c3 m3 d3 t3 alS3 (rSta.weaken (Rep.below HR3.out BO.out) (fun _ _ _ => trivial)) 1 0 0 0 ⟨#[]⟩ (octL 2) (some ⟨g, 0, none⟩) 64 64 (by unfold I64; decide) (by unfold I64; decide) (by unfold I64; decide) (by unfold I64; decide) (by decide) HRO.out) ?_
        rintro e wd ⟨a', n', c', b', m', d', t', da, dn, dc, la, ln, lc, rfl, hrd, -, -, bd⟩
        have HRD : Hid (rSta.rd wd (fun q => wo.heap.size ≤ q) [.slice a' n' c', .slice b' m' d', .int .i64 t'] alS4) := hrd
        have BD : Hid _ := on BO.out bd
        have VD : Hid _ := V3.out.below BD.out
        clear hrd bd
        go_simp
        refine hK.out _ _ ?_ (fun hH => ?_)
        · try dsimp only
          all_goals exact trivial
        clear hK K
        refine tkM 4 _ rfl rfl ?_; simp only [sz, ss]
        refine tkM 5 _ rfl rfl ?_; simp only [sz, ss]
        refine tkM 6 _ rfl rfl ?_; simp only [sz, ss]
        refine r1L 7 rfl fun K hK => ?_
        · have p0 := VD.out.cell (j := 0) rfl
          have p1 := VD.out.cell (j := 1) rfl
          have p2 := VD.out.cell (j := 2) rfl
          have f0 := VD.out.frozen 0
          have f1 := VD.out.frozen 1
          have f2 := VD.out.frozen 2
          obtain ⟨wX, hwX, VX', KX'⟩ := VD.out.whole3 (.slice a' n' c') (.slice b' m' d') (.int .i64 t')
          have VX : Hid _ := VX'
          have KX : Hid _ := KX'
          clear VX' KX'
          go_simp
          clear p0 p1 p2 f0 f1 f2
          refine hK.out _ _ ?_ (fun hH => ?_)
          · try dsimp only
            all_goals exact trivial
          clear hK K
          refine wpAnyH_done (by kernel_rfl) ?_ _
          clear hH
          go_wp2_with fail
          go_meet
          exact ⟨a', n', c', b', m', d', t', VX, Rep.kept HRD.out KX.out (fun q hq _ => by have h1 : wo.heap.size ≤ q := hq; have h2 := BO.out.size; have h3 := V3.out.lt; show q ≠ B; omega) |> fun h => rSta.weaken h (fun q hq _ => by have h1 : wo.heap.size ≤ q := hq; have h2 := BO.out.size; have h3 := V3.out.lt; show q ≠ B; omega), Kept.belowOf (BW3.out.trans (BD.out.mono HBv3.out)) KX.out HB.out, (VR3.out.below BD.out).keep (KX.out.block _ (by have h := HBR.out; show wd3.heap.size ≠ B; omega))⟩
  refine rcL (fun K hK => ?_) ?_
  · go_simp
    go_at_call 38
    refine Calls.mono (qAJ v3.drew 2 2 rfl) ?_
    rintro e wo ⟨g, rfl, hro, bo⟩
    have BO : Hid (Below v3.heap.size v3 wo) := (Below.refl _ v3).drew.trans bo
    have HRO : Hid (rBytes.rd wo (fun q => v3.heap.size ≤ q) [.slice (some ⟨g, 0, none⟩) 64 64] (octL 2)) := hro
    clear hro bo
    go_simp
    refine hK.out _ _ ?_ (fun hH => ?_)
    · try dsimp only
      all_goals exact trivial
    clear hK K
    refine tkM 2 _ rfl rfl ?_; simp only [sz, ss]
    refine r1L 0 rfl fun K hK => ?_
    · have p0 := (V3.out.below BO.out).cell (j := 0) rfl
      have p1 := (V3.out.below BO.out).cell (j := 1) rfl
      have p2 := (V3.out.below BO.out).cell (j := 2) rfl
      go_simp
      clear p0 p1 p2
      refine hK.out _ _ ?_ (fun hH => ?_)
      · try dsimp only
        all_goals exact trivial
      clear hK K
      refine r1L 3 rfl fun K hK => ?_
      · go_simp
        go_at_call 11
        refine Calls.mono (do_v wo (fun _ => True) a3 b3 n3 c3 m3 d3 t3 alS3 (rSta.weaken (Rep.below HR3.out BO.out) (fun _ _ _ => trivial)) 1 0 0 0 ⟨#[]⟩ (octL 2) (some ⟨g, 0, none⟩) 64 64 (by unfold I64; decide) (by unfold I64; decide) (by unfold I64; decide) (by unfold I64; decide) (by decide) HRO.out) ?_
        rintro e wd ⟨a', n', c', b', m', d', t', da, dn, dc, la, ln, lc, rfl, hrd, -, -, bd⟩
        have HRD : Hid (rSta.rd wd (fun q => wo.heap.size ≤ q) [.slice a' n' c', .slice b' m' d', .int .i64 t'] alS4) := hrd
        have BD : Hid _ := on BO.out bd
        have VD : Hid _ := V3.out.below BD.out
        clear hrd bd
        go_simp
        refine hK.out _ _ ?_ (fun hH => ?_)
        · try dsimp only
          all_goals exact trivial
        clear hK K
        refine tkM 4 _ rfl rfl ?_; simp only [sz, ss]
        refine tkM 5 _ rfl rfl ?_; simp only [sz, ss]
        refine tkM 6 _ rfl rfl ?_; simp only [sz, ss]
        refine r1L 7 rfl fun K hK => ?_
        · have p0 := VD.out.cell (j := 0) rfl
          have p1 := VD.out.cell (j := 1) rfl
          have p2 := VD.out.cell (j := 2) rfl
          have f0 := VD.out.frozen 0
          have f1 := VD.out.frozen 1
          have f2 := VD.out.frozen 2
          obtain ⟨wX, hwX, VX', KX'⟩ := VD.out.whole3 (.slice a' n' c') (.slice b' m' d') (.int .i64 t')
          have VX : Hid _ := VX'
          have KX : Hid _ := KX'
          clear VX' KX'
          go_simp
          clear p0 p1 p2 f0 f1 f2
          refine hK.out _ _ ?_ (fun hH => ?_)
          · try dsimp only
            all_goals exact trivial
          clear hK K
          refine wpAnyH_done (by kernel_rfl) ?_ _
          clear hH
          go_wp2_with fail
          go_meet
          exact ⟨a', n', c', b', m', d', t', VX, Rep.kept HRD.out KX.out (fun q hq _ => by have h1 : wo.heap.size ≤ q := hq; have h2 := BO.out.size; have h3 := V3.out.lt; show q ≠ B; omega) |> fun h => rSta.weaken h (fun q hq _ => by have h1 : wo.heap.size ≤ q := hq; have h2 := BO.out.size; have h3 := V3.out.lt; show q ≠ B; omega), Kept.belowOf (BW3.out.trans (BD.out.mono HBv3.out)) KX.out HB.out, (VR3.out.below BD.out).keep (KX.out.block _ (by have h := HBR.out; show wd3.heap.size ≠ B; omega))⟩
  exact rnL
 obtain ⟨a4, n4, c4, b4, m4, d4, t4, V4, HR4, BW4, VR4⟩ := hcut
 obtain ⟨v4, hv4⟩ : ∃ v, v = wc := ⟨_, rfl⟩
 subst hv4
 have HBv4 : Hid (w.heap.size ≤ v4.heap.size) := BW4.out.size
 clear V3 HR3 BW3 HBv3
 have p0 := V4.out.cell (j := 0) rfl
 have p1 := V4.out.cell (j := 1) rfl
 have p2 := V4.out.cell (j := 2) rfl
 go_wp2_with fail
 go_at_call 11
 refine Calls.mono (do_v v4 (fun _ => True) a4 b4 n4 c4 m4 d4 t4 alS4 (rSta.weaken HR4.out (fun _ _ _ => trivial)) 6 0 0 1 ⟨#[]⟩ [] none 0 0 (by unfold I64; decide) (by unfold I64; decide) (by unfold I64; decide) (by unfold I64; decide) (by decide) (P' := fun _ => True) (q0j _ _ _ _ (fun _ => rfl))) ?_
 rintro e wd ⟨a5, n5, c5, b5, m5, d5, t5, da, dn, dc, la, ln, lc, rfl, hrd, -, -, bd⟩
 have HRD : Hid (rSta.rd wd (fun q => v4.heap.size ≤ q) [.slice a5 n5 c5, .slice b5 m5 d5, .int .i64 t5] alS5) := hrd
 have BD : Hid _ := bd
 have VD : Hid _ := V4.out.below bd
 clear hrd bd p0 p1 p2
 have VRD := VR4.out.below BD.out
 have p0 := VD.out.cell (j := 0) rfl
 have p1 := VD.out.cell (j := 1) rfl
 have p2 := VD.out.cell (j := 2) rfl
 have f0 := VD.out.frozen 0
 have f1 := VD.out.frozen 1
 have f2 := VD.out.frozen 2
 obtain ⟨v5, hv5, V5', K5⟩ := VD.out.whole3 (.slice a5 n5 c5) (.slice b5 m5 d5) (.int .i64 t5)
 have V5 : Hid _ := V5'
 have HR5 : Hid (rSta.rd v5 (· ≠ B) [.slice a5 n5 c5, .slice b5 m5 d5, .int .i64 t5] alS5) := rSta.weaken (Rep.kept HRD.out K5 (fun q hq _ => by have h1 : v4.heap.size ≤ q := hq; have h2 := V4.out.lt; show q ≠ B; omega)) (fun q hq _ => by have h1 : v4.heap.size ≤ q := hq; have h2 := V4.out.lt; show q ≠ B; omega)
 have BW5 : Hid (Below w.heap.size w v5) := Kept.belowOf (BW4.out.trans (BD.out.mono HBv4.out)) K5 HB.out
 have HBv5 : Hid (w.heap.size ≤ v5.heap.size) := BW5.out.size
 have VR5 : Hid (Row v5 wd3.heap.size 38 [.int .i64 z0, .slice dz dzn dzc, .int .i64 1, .slice lz lzn lzc, .int .i64 z1]) := VRD.keep (K5.block _ (by have h := HBR.out; show wd3.heap.size ≠ B; omega))
 clear VRD V5' K5 HRD BD VD V4 HR4 BW4 HBv4 VR4
 have q0 := V5.out.cell (j := 0) rfl
 have q1 := V5.out.cell (j := 1) rfl
 have q2 := V5.out.cell (j := 2) rfl
 go_wp2_with fail
 go_at_call 11
 refine Calls.mono (do_v v5 (fun _ => True) a5 b5 n5 c5 m5 d5 t5 alS5 (rSta.weaken HR5.out (fun _ _ _ => trivial)) 2 0 1 0 ⟨#[]⟩ [] none 0 0 (by unfold I64; decide) (by unfold I64; decide) (by unfold I64; decide) (by unfold I64; decide) (by decide) (P' := fun _ => True) (q0j _ _ _ _ (fun _ => rfl))) ?_
 rintro e wd ⟨a', n', c', b', m', d', t', da, dn, dc, la, ln, lc, rfl, hrd, hdd, -, bd⟩
 have HRD : Hid (rSta.rd wd (fun q => v5.heap.size ≤ q) [.slice a' n' c', .slice b' m' d', .int .i64 t'] (Mo.doS alS5 (2, 0, 1, 0, ⟨#[]⟩, []))) := hrd
 have HDD : Hid _ := hdd
 have BD : Hid _ := bd
 have VD : Hid _ := V5.out.below bd
 clear hrd hdd bd p0 p1 p2 f0 f1 f2 q0 q1 q2
 have HDe : Hid (rBytes.rd wd (fun q => v5.heap.size ≤ q) [.slice da dn dc] (octL 1)) := by have h := HDD.out; rw [show (Mo.doR alS5 (2, 0, 1, 0, ⟨#[]⟩, [])).2.1 = octL 1 from al_R6] at h; exact h
 obtain ⟨x0, hx0⟩ : ∃ z, z = (Mo.doR alS5 (2, 0, 1, 0, ⟨#[]⟩, [])).1 := ⟨_, rfl⟩
 obtain ⟨x1, hx1⟩ : ∃ z, z = (Mo.doR alS5 (2, 0, 1, 0, ⟨#[]⟩, [])).2.2.1 := ⟨_, rfl⟩
 obtain ⟨x2, hx2⟩ : ∃ z, z = (Mo.doR alS5 (2, 0, 1, 0, ⟨#[]⟩, [])).2.2.2.2 := ⟨_, rfl⟩
 rw [← hx0, ← hx1, ← hx2]
 clear hx0 hx1 hx2 HDD
 obtain ⟨wA, wB, wX, v6, hwA, hwB, va, hwX, vr, hv6, V6', VR', K6, hlA⟩ := fresh2 wd (.slice a' n' c') (.slice b' m' d') (.int .i64 t') (.int .i64 x0) (.slice da dn dc) (.int .i64 x1) (.slice la ln lc) (.int .i64 x2)
 have p0 := va.cell (j := 0) rfl
 have p1 := va.cell (j := 1) rfl
 have p2 := va.cell (j := 2) rfl
 have f0 := va.frozen 0
 have f1 := va.frozen 1
 have f2 := va.frozen 2
 have r0 := vr.cell (j := 0) rfl
 have r1 := vr.cell (j := 1) rfl
 have r2 := vr.cell (j := 2) rfl
 have r3 := vr.cell (j := 3) rfl
 have r4 := vr.cell (j := 4) rfl
 have g0 := vr.frozen 0
 have g1 := vr.frozen 1
 have g2 := vr.frozen 2
 have g3 := vr.frozen 3
 have g4 := vr.frozen 4
 have VQ : Hid _ := VR'
 have VR6 : Hid (Row v6 wd3.heap.size 38 [.int .i64 z0, .slice dz dzn dzc, .int .i64 1, .slice lz lzn lzc, .int .i64 z1]) := VR5.out.below (BD.out.trans (K6.mono BD.out.size))
 have HD6 : Hid (rBytes.rd v6 (fun q => v5.heap.size ≤ q) [.slice da dn dc] (octL 1)) := Rep.below HDe.out K6
 have BW6 : Hid (Below w.heap.size w v6) := BW5.out.trans ((BD.out.trans (K6.mono BD.out.size)).mono HBv5.out)
 clear va vr V6' VR' K6 hlA HRD BD VD V5 HR5 BW5 HBv5 VR5 HDe
 go_wp2_with fail
 clear p0 p1 p2 f0 f1 f2 r0 r1 r2 r3 r4 g0 g1 g2 g3 g4
 have HSee : Hid (∀ w', Below v6.heap.size v6 w' → w'.cell? ⟨wd3.heap.size, 2, none⟩ = some (.int .i64 1) ∧ w'.cell? ⟨wA.heap.size, 1, none⟩ = some (.slice da dn dc) ∧ rBytes.rd w' (fun _ => True) [.slice da dn dc] (octL 1)) := fun w' hb => ⟨(VR6.out.below hb).cell (j := 2) rfl, (VQ.out.below hb).cell (j := 1) rfl, rBytes.weaken (Rep.below HD6.out hb) (fun _ _ _ => trivial)⟩
 refine wp_region_held_drew (S := (fun w' : World => w'.cell? ⟨wd3.heap.size, 2, none⟩ = some (.int .i64 1) ∧ w'.cell? ⟨wA.heap.size, 1, none⟩ = some (.slice da dn dc) ∧ rBytes.rd w' (fun _ => True) [.slice da dn dc] (octL 1))) (by kernel_rfl) (HSee.out _ (Below.refl _ v6).drew) (fun hH => ?_)
 refine tkM 0 _ rfl rfl ?_; simp only [sz, ss]
 refine r1L 1 rfl fun K hK => ?_
 · go_simp
   go_at_call 15
   refine (num10_u _ _).mono ?_
   rintro e w9 ⟨rfl, rfl⟩
   go_simp
   refine hK.out _ _ ?_ (fun hH => ?_)
   · try dsimp only
     first | exact SO | exact HSee.out _ (Below.refl _ v6).drew
   clear hK K
   refine tkM 2 _ rfl rfl ?_; simp only [sz, ss]
   refine tkM 3 _ rfl rfl ?_; simp only [sz, ss]
   refine tkM 4 _ rfl rfl ?_; simp only [sz, ss]
   refine tkM 5 _ rfl rfl ?_; simp only [sz, ss]
   refine tkM 6 _ rfl rfl ?_; simp only [sz, ss]
   refine tkM 7 _ rfl rfl ?_; simp only [sz, ss]
   refine tkM 8 _ rfl rfl ?_; simp only [sz, ss]
   refine tkM 9 _ rfl rfl ?_; simp only [sz, ss]
   refine tkM 10 _ rfl rfl ?_; simp only [sz, ss]
   refine tkL 11 ?_ rfl rfl (Or.inl ⟨by rfl, ?_⟩) ?_
   rotate_left
   · intro w hSw
     have e1 := q2J w da dn dc _ (q1Q hSw.2.2).1
     try dsimp only at hSw
     go_simp
     all_goals with_reducible rfl
   simp only [sz, ss]
   refine r1L 12 rfl fun K hK => ?_
   · go_simp
     go_at_call 38
     refine Calls.mono (qAJ v6.drew 1 1 rfl) ?_
     rintro e wo ⟨g, rfl, hro, bo⟩
     have BO : Hid (Below v6.heap.size v6 wo) := (Below.refl _ v6).drew.trans bo
     have HRO : Hid (rBytes.rd wo (fun q => v6.heap.size ≤ q) [.slice (some ⟨g, 0, none⟩) 64 64] (octL 1)) := hro
     have SO := HSee.out _ BO.out
     clear hro bo
     go_simp
     refine hK.out _ _ ?_ (fun hH => ?_)
     · try dsimp only
       first | exact SO | exact HSee.out _ (Below.refl _ v6).drew
     clear hK K
     refine r1L 13 rfl fun K hK => ?_
     · have e1 := q2J wo (some ⟨g, 0, none⟩) 64 64 _ (q1Q HRO.out).1
       go_simp
       refine hK.out _ _ ?_ (fun hH => ?_)
       · try dsimp only
         first | exact SO | exact HSee.out _ (Below.refl _ v6).drew
       clear hK K
       refine tkM 14 _ rfl rfl ?_; simp only [sz, ss]
       refine tkM 15 _ rfl rfl ?_; simp only [sz, ss]
       refine tkL 16 ?_ rfl rfl (Or.inl ⟨by rfl, ?_⟩) ?_; rotate_left
       · intro w h; (try dsimp only at h); go_simp; all_goals with_reducible rfl
       simp only [List.set_cons_zero]
       refine wpAnyH_done (by kernel_rfl) ?_ _
       clear hH SO e1
       go_wp2_with fail
       go_ret
       exact ⟨rfl, BW6.out.trans (BO.out.mono BW6.out.size)⟩
theorem OwnsQ.set1 {α : Type} {A : Rep α} (h1 : A.size = 1) {e : TypeId} {w : World} {base : Nat} {Q : Nat → Prop} {g n c : Nat} {l : List α} (h : OwnsQ A e w base Q (.slice (some ⟨g, 0, none⟩) n c) l) (hn : l.length = n) {j : Nat} (hj : j < n) {u : Value} {x : α} (hx : A.rd w (fun b => Q b ∧ b ≠ g) [u] x) :
 OwnsQ A e (w.setCell ⟨g, j, none⟩ u) base Q (.slice (some ⟨g, 0, none⟩) n c) (l.set j x) := by
 obtain ⟨xs, ⟨k1, k2⟩, k3⟩ := h
 rcases k2 with ⟨e1, -⟩ | ⟨g', cap, cur, e1, e2, e3, e4, e5, e6, e7⟩
 · cases e1
 · simp only [Value.slice.injEq, Option.some.injEq, Addr.mk.injEq, and_true] at e1
   obtain ⟨rfl, e8, rfl⟩ := e1
   have hcur : n ≤ cur.size := by rw [e6, h1]; omega
   have hR : Row w g e cur.toList := ⟨by rw [Array.toArray_toList]; exact e3⟩
   have hR2 := hR.set j u
   refine ⟨xs.set j u, ⟨by rw [List.length_set, List.length_set]; exact k1, .inr ⟨g, c, (cur.toList.set j u).toArray, by rw [List.length_set, hn], e2, hR2.eq, by rw [List.length_set]; exact e4, e5, by simp [e6], ?_⟩⟩, ?_⟩
   · rw [List.length_set, ← e7, hn, h1, Nat.mul_one, List.take_set]
   · have hk : ∀ (l : List α) (xs : List Value) (j : Nat), j < l.length → q5j A w (fun b => Q b ∧ (Value.slice (some ⟨g, 0, none⟩) n c).ownBlock ≠ some b) xs l → q5j A w (fun b => Q b ∧ (Value.slice (some ⟨g, 0, none⟩) n c).ownBlock ≠ some b) (xs.set j u) (l.set j x) := by
      intro l
      induction l with
      | nil => intro xs j hj; cases hj
      | cons y l ih =>
        rintro _ j hj ⟨cc, r, rfl, p1, p2⟩
        have hcc : cc.length = 1 := by rw [A.len p1, h1]
        obtain ⟨c0, rfl⟩ : ∃ c0, cc = [c0] := by
         match cc, hcc with
         | [c0], _ => exact ⟨c0, rfl⟩
        cases j with
        | zero => exact ⟨[u], r, rfl, A.weaken hx (fun b hb _ => ⟨hb.1, fun e => hb.2 (by cases e; rfl)⟩), p2⟩
        | succ j => exact ⟨[c0], r.set j u, rfl, p1, ih r j (by simpa using hj) p2⟩
     have h0 := hk l xs j (by omega) k3
     exact q3X (w' := w.setCell ⟨g, j, none⟩ u) (fun b hb hl => heap_setCell_other _ _ _ _ (fun e => hb.2 (by rw [e]; rfl))) h0
end Go.Proofs.Ytoophkmnppoppaa
