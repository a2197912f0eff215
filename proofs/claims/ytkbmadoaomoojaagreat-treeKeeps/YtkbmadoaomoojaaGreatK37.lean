/-
  Facts that the proof rests on, part 38. Conditions: those that each of them names.
-/
import Derived.Lib.AppendZerosOnto
import Derived.Test.YtkbmadoaomoojaaGreatK02
import Derived.Test.YtkbmadoaomoojaaGreatK28
import Derived.Test.YtkbmadoaomoojaaGreatK30
import Derived.Test.YtkbmadoaomoojaaGreatK33
import Derived.Test.YtkbmadoaomoojaaGreatK34
import Derived.Test.YtkbmadoaomoojaaGreatK36
namespace Go.Proofs.YtkbmadoaomoojaaGreat
set_option maxRecDepth 20000
open Go.RowKit
set_option linter.unusedVariables false
attribute [local go_sem] Oper.semAt_some
namespace Tr
def numTo (m : List Bool) (j : Nat) : List Int := ((List.range j).filter fun i => m.getD i false).map fun (i : Nat) => (i : Int) + 1
theorem numTo_all (m : List Bool) : numTo m m.length = numbers m := rfl
theorem numTo_succ (m : List Bool) (j : Nat) : numTo m (j + 1) = if m.getD j false = true then numTo m j ++ [(j : Int) + 1] else numTo m j := by
 unfold numTo
 rw [List.range_succ, List.filter_append]
 by_cases h : m.getD j false = true
 · rw [if_pos h, List.filter_cons_of_pos (by simpa using h), List.filter_nil, List.map_append]; rfl
 · rw [if_neg h, List.filter_cons_of_neg (by simpa using h), List.filter_nil, List.append_nil]
end Tr
theorem isBnd_none (w : World) : IsBnd w (.slice none 0 0) none := by first | exact rfl | exact ⟨rfl, rfl⟩ | (unfold IsBnd; simp)
theorem info_bool : (Tryz.prog.info? 4).map (fun i => (i.zero, i.size, i.bytes)) = some (some (.bool false), 1, 1) := by kernel_rfl
set_option maxHeartbeats 1000000 in
theorem rread_u (w : World) (P : Nat → Prop) (s : Pgs) (root : Int) (pa : Option Addr) (pc : Nat) (hR : rSectors.rd w P [.slice pa s.length pc] s) (h0 : -9223372036854775808 ≤ root) (h1 : root ≤ 9223372036854775807) :
 Calls Tryz.prog 41 #[.agg #[.slice pa s.length pc], .int .i64 root] w fun e w' => ∃ a n c a' n' c', e = .returned (.tuple #[.slice a n c, .slice a' n' c', .int .i64 (Tr.readE s root)]) ∧ OwnI 45 w' w.heap.size (.slice a n c) (Tr.readI s root) ∧ OwnK 3 w' w.heap.size (.slice a' n' c') (Tr.readP s root) ∧ Below w.heap.size w w' := by
 obtain ⟨w1, hw1, V1, b1, z1⟩ := boxedRow w 24 [.slice pa s.length pc]
 have a0 := V1.cell (j := 0) rfl
 have B1 : Hid _ := b1
 have HR1 : Hid (rSectors.rd w1 (fun b => b < w.heap.size) [.slice pa s.length pc] s) := Rep.below (rSectors.weaken hR (fun b _ hl => hl)) b1
 have hsl : s.length ≤ 5864062014634 := (rSectors_len hR).2
 have HZ1 : Hid (w1.heap.size = w.heap.size + 1) := z1
 have HV1 : Hid _ := V1
 by_cases hl : 2048 < s.length
 · have hlz : (s.length : Int) > 2048 := by omega
   have HE : Hid (Tr.readE s root = 3) := by unfold Hid Tr.readE; rw [if_pos hl]
   have HI : Hid (Tr.readI s root = []) := by unfold Hid Tr.readI; rw [if_neg (fun k => by rw [HE.out] at k; exact absurd k.1 (by decide))]
   have HP : Hid (Tr.readP s root = []) := by unfold Hid Tr.readP; rw [if_neg (fun k => by rw [HE.out] at k; exact absurd k.1 (by decide))]
   clear hl hR V1 b1 z1
   go_enter Tryz.func41, Tryz.ntmps41
   go_wp2
   go_ret3
   exact ⟨_, _, _, _, _, _, by rw [HE.out]; rfl, by rw [HI.out]; exact OwnI.nil _ _ _, by rw [HP.out]; exact OwnK.nil _ _ _, B1.out⟩
 · have hlz : ¬ (s.length : Int) > 2048 := by omega
   by_cases hr : root = 0
   · subst hr
     have HE : Hid (Tr.readE s 0 = 0) := by unfold Hid Tr.readE; rw [if_neg hl, if_pos rfl]
     have HI : Hid (Tr.readI s 0 = []) := by unfold Hid Tr.readI; rw [if_neg (fun k => k.2 rfl)]
     have HP : Hid (Tr.readP s 0 = []) := by unfold Hid Tr.readP; rw [if_neg (fun k => k.2 rfl)]
     clear hl hR V1 b1 z1
     go_enter Tryz.func41, Tryz.ntmps41
     go_wp2
     go_ret3
     exact ⟨_, _, _, _, _, _, by rw [HE.out]; rfl, by rw [HI.out]; exact OwnI.nil _ _ _, by rw [HP.out]; exact OwnK.nil _ _ _, B1.out⟩
   · have hrz : (root == 0) = false := beq_eq_false_iff_ne.2 hr
     have HL : Hid (s.length ≤ 2048) := by unfold Hid; omega
     have HRt : Hid (root ≠ 0) := hr
     have HE : Hid (Tr.readE s root = if (Tr.walk s root).bad = true then 9 else 0) := by unfold Hid Tr.readE; rw [if_neg hl, if_neg hr]
     obtain ⟨i, hi, hz0, hz1', hz2⟩ := info_parts info_bool
     have hmk := run_makeSlice (P := Tryz.prog) (w := w1.drew) 43 4 i (.bool false) Tryz.underlying43 hi hz0 .i64 .i64 (s.length : Int) (s.length : Int) (by omega) (by omega) (by rw [hz1']; omega) (by rw [hz2]; omega) (by omega)
     rw [hz1', show ((s.length : Int)).toNat = s.length from rfl, Nat.mul_one] at hmk
     obtain ⟨w2, hw2⟩ : ∃ w2, w1.drew.alloc (.cells (madeCells (Value.bool false).cells s.length) 4) = w2 := ⟨_, rfl⟩
     rw [hw2] at hmk
     have V2 : Row w2 w1.heap.size 4 (List.replicate s.length (.bool false)) := by
      rw [← hw2]
      have := row_new w1.drew 4 (List.replicate s.length (.bool false))
      rw [← toList_madeCells_one, Array.toArray_toList] at this
      rw [← toList_madeCells_one]
      exact this
     have b2 : Below w1.heap.size w1 w2 := by rw [← hw2]; exact ((Below.refl _ w1).drew).alloc (Nat.le_refl _) _
     have z2 : w2.heap.size = w1.heap.size + 1 := by rw [← hw2]; simp
     obtain ⟨w3, hw3, V3, b3, z3⟩ := boxedRow w2 121 [.slice pa s.length pc, .slice (some ⟨w1.heap.size, 0, none⟩) s.length s.length, .slice none 0 0, .int .i64 0, .bool false]
     have B3 : Hid (Below w.heap.size w w3) := on (on B1.out b2) b3
     have HZ3 : Hid (w2.heap.size = w1.heap.size + 1 ∧ w3.heap.size = w1.heap.size + 2) := ⟨z2, by omega⟩
     have HWk : Hid (Walks w3 w2.heap.size w1.heap.size (fun b => b < w.heap.size) pa pc none 0 0 w3.heap.size s (Tr.none_ s)) :=
      ⟨V3, Rep.below HR1.out (on b2 b3), by have h := V2.below b3; unfold Tr.none_ boolCells; rw [List.map_replicate]; exact h, by simp [Tr.none_], OwnI.nil _ _ _, by simp [Tr.none_]⟩
     have HA : Hid (Apart (fun b => b < w.heap.size) w.heap.size w2.heap.size w1.heap.size w3.heap.size) := by
      have := HZ1.out
      exact ⟨fun b hb => hb, by omega, by omega, by omega, by omega, by omega, by omega⟩
     have HN : Hid _ := node_u s HL.out 16 (Nat.le_refl _) w3 w.heap.size w2.heap.size w1.heap.size (fun b => b < w.heap.size) pa pc none 0 0 w3.heap.size (Tr.none_ s) root 1 none none (.slice none 0 0) (.slice none 0 0) (by decide) HA.out HWk.out (isBnd_none _) (isBnd_none _) (fun q h => by rcases h with h | h <;> cases h) (Nat.le_refl _) h0 h1
     have a2 := (HV1.out.below b2).cell (j := 0) rfl
     have a3 := ((HV1.out.below b2).below b3).cell (j := 0) rfl
     clear hl hR V1 b1 z1 hr hi hz0 hz1' hz2 V2 b2 z2 V3 b3 z3
     go_enter Tryz.func41, Tryz.ntmps41
     go_wp2_with fail
     refine wp_region_held_drew (S := (fun w' : World => w'.cell? ⟨w.heap.size, 0, none⟩ = some (.slice pa s.length pc))) (by kernel_rfl) ((HV1.out.below (Below.refl _ _).drew).cell (j := 0) rfl) (fun hH => ?_)
     refine tkM 0 _ rfl rfl ?_; simp only [sz, ss]
     refine tkM 1 _ rfl rfl ?_; simp only [sz, ss]
     refine tkM 2 _ rfl rfl ?_; simp only [sz, ss]
     refine tkM 3 _ rfl rfl ?_; simp only [sz, ss]
     refine r1L 4 rfl fun K hK => ?_
     · go_simp
       refine hK.out _ _ ?_ (fun hH => ?_)
       · try dsimp only
         exact a2
       clear hK K
       refine tkM 5 _ rfl rfl ?_; simp only [sz, ss]
       refine r1L 6 rfl fun K hK => ?_
       · go_simp
         refine hK.out _ _ ?_ (fun hH => ?_)
         · try dsimp only
           exact a3
         clear hK K
         refine tkM 7 _ rfl rfl ?_; simp only [sz, ss]
         refine wpAnyH_done (by kernel_rfl) ?_ _
         clear hH
         go_wp2_with fail
         go_at_call 61
         refine Calls.mono HN.out ?_
         rintro e w4 ⟨oa, om, oc, rfl, hW4, hQ, hpl⟩
         have hw4 : Tr.node s 16 root none none (Tr.none_ s) = Tr.walk s root := rfl
         rw [hw4] at hW4
         have B4 : Hid (Below w.heap.size w w4) := by
          have h3 := B3.out
          have hz := HZ3.out
          have hz1 := HZ1.out
          refine ⟨hQ.os.trans h3.os, hQ.tape.trans h3.tape, hQ.output.trans h3.output, Nat.le_trans h3.size hQ.size, fun b hb => (hQ.block b ⟨by have := h3.size; omega, by omega, by omega, fun e => by cases e⟩).trans (h3.block b hb)⟩
         have HW4 : Hid _ := hW4
         obtain ⟨r0, r1, r2, r3, r4⟩ := hW4.five
         clear hQ hpl hw4 hW4 HN HWk HA a2 a3 hmk
         cases hb : (Tr.walk s root).bad with
         | true =>
           rw [hb] at r4
           have HE9 : Hid (Tr.readE s root = 9) := by rw [HE.out, hb]; rfl
           have HI : Hid (Tr.readI s root = []) := by unfold Hid Tr.readI; rw [if_neg (fun k => by rw [HE9.out] at k; exact absurd k.1 (by decide))]
           have HP : Hid (Tr.readP s root = []) := by unfold Hid Tr.readP; rw [if_neg (fun k => by rw [HE9.out] at k; exact absurd k.1 (by decide))]
           clear hb
           go_wp2
           go_ret3
           exact ⟨_, _, _, _, _, _, by rw [HE9.out]; rfl, by rw [HI.out]; exact OwnI.nil _ _ _, by rw [HP.out]; exact OwnK.nil _ _ _, B4.out⟩
         | false =>
           rw [hb] at r4
           have HE0 : Hid (Tr.readE s root = 0) := by rw [HE.out, hb]; rfl
           have HI : Hid (Tr.readI s root = (Tr.walk s root).out) := by unfold Hid Tr.readI; rw [if_pos ⟨HE0.out, HRt.out⟩]
           have HP : Hid (Tr.readP s root = Tr.numbers (Tr.walk s root).met) := by unfold Hid Tr.readP; rw [if_pos ⟨HE0.out, HRt.out⟩]
           clear hb r0 r1 r2 r3
           go_wp2
           clear r4
           have hsl2 : s.length ≤ 2048 := HL.out
           go_loopw [8, 9] (fun v i wr => ∃ k : Nat, k ≤ s.length ∧ i = .int .i64 k ∧ Hid (OwnK 3 wr w4.heap.size v (Tr.numTo (Tr.walk s root).met k)) ∧ Hid (Below w4.heap.size w4 wr)) (fun _ i _ => s.length - (intOf i).toNat)
           case atStart => exact ⟨0, Nat.zero_le _, rfl, OwnK.nil _ _ _, Below.refl _ _⟩
           case round =>
            obtain ⟨k, hk, rfl, HO, B⟩ := hrel
            have q1 := (HW4.out.row.below B.out).cell (j := 1) rfl
            obtain ⟨va, vc, rfl, -⟩ := HO.out.slice
            by_cases hlt : k < s.length
            · have hkm : k < (Tr.walk s root).met.length := by rw [HW4.out.len]; exact hlt
              have q2 : wr.cell? ⟨w1.heap.size, k, none⟩ = some (.bool (Tr.walk s root).met[k]) := (HW4.out.met.below B.out).cell (by unfold boolCells; simp [hkm])
              have hkz : (k : Int) < (s.length : Int) := by omega
              have hk0 : (0 : Int) ≤ (k : Int) := Int.natCast_nonneg _
              have HSt : Hid _ := Tr.numTo_succ (Tr.walk s root).met k
              have hgd : (Tr.walk s root).met.getD k false = (Tr.walk s root).met[k] := by rw [List.getD_eq_getElem?_getD, List.getElem?_eq_getElem hkm]; rfl
              rw [hgd] at HSt
              have HLn : Hid ((Tr.numTo (Tr.walk s root).met k).length ≤ k) := by unfold Hid Tr.numTo; rw [List.length_map]; exact Nat.le_trans (List.length_filter_le _ _) (by simp)
              clear hgd
              cases hm : (Tr.walk s root).met[k] with
              | true =>
                rw [hm] at q2 HSt
                have HS2 : Hid (Tr.numTo (Tr.walk s root).met (k + 1) = Tr.numTo (Tr.walk s root).met k ++ [(k : Int) + 1]) := by rw [HSt.out]; rfl
                obtain ⟨v7, w7, hr7, ho7, g7⟩ := run_append_kid HO.out ((k : Int) + 1) (by omega) (by have := HLn.out; omega) B.out.size 25
                have hwk : IntKind.i64.wrap ((k : Int) + 1) = (k : Int) + 1 := by rw [IntKind.wrap_i64]; omega
                have HRun : Hid _ := hr7
                have HO7 : Hid (OwnK 3 w7 w4.heap.size v7 (Tr.numTo (Tr.walk s root).met (k + 1))) := by rw [HS2.out]; exact ho7
                have HB7 : Hid (Below w4.heap.size w4 w7) := by
                 have hA : Below w4.heap.size w4 (wr.alloc (.cells #[.int .i64 ((k : Int) + 1)] 3)) := B.out.alloc B.out.size _
                 exact hA.trans ((HO.out.below ((Below.refl _ wr).alloc (Nat.le_refl _) _)).base_below (by simp; have := B.out.size; omega) g7)
                clear hm HSt HS2 hr7 ho7 g7
                go_wp2_with (at_builtin; refine Lib.wpList_append_run _ rfl _ _ _ _ rfl _ _ rfl rfl _ _ HRun.out ?_)
                go_roundw
                case rel => exact ⟨k + 1, by omega, by go_num, HO7, HB7⟩
                case measure => simp [intOf]; omega
              | false =>
                rw [hm] at q2 HSt
                have HS2 : Hid (OwnK 3 wr w4.heap.size (.slice va (Tr.numTo (Tr.walk s root).met k).length vc) (Tr.numTo (Tr.walk s root).met (k + 1))) := by rw [HSt.out]; exact HO.out
                clear hm HSt
                go_wp2
                go_roundw
                case rel => exact ⟨k + 1, by omega, by go_num, HS2, B⟩
                case measure => simp [intOf]; omega
            · obtain rfl : k = s.length := by omega
              have r2 := (HW4.out.row.below B.out).cell (j := 2) rfl
              have HO2 : Hid (OwnK 3 wr w.heap.size (.slice va (Tr.numTo (Tr.walk s root).met s.length).length vc) (Tr.readP s root)) := by
               have h := HO.out.mono B4.out.size
               have e : Tr.numTo (Tr.walk s root).met s.length = Tr.readP s root := by rw [HP.out, ← Tr.numTo_all, HW4.out.len]
               rw [e] at h ⊢
               exact h
              obtain ⟨n9, hn9⟩ : ∃ n9, (Tr.numTo (Tr.walk s root).met s.length).length = n9 := ⟨_, rfl⟩
              rw [hn9] at HO2 ⊢
              have HI2 : Hid (OwnI 45 wr w.heap.size (.slice oa om oc) (Tr.readI s root)) := by
               rw [HI.out]
               exact (HW4.out.out.below B.out).mono (by have := HZ3.out; have := HZ1.out; omega)
              clear hn9 HO
              go_wp2
              go_ret3
              exact ⟨oa, om, oc, va, n9, vc, by rw [HE0.out]; rfl, HI2.out, HO2.out, on B4.out B.out⟩
end Go.Proofs.YtkbmadoaomoojaaGreat
namespace Go.Proofs.YtkbmadoaomoojaaGreat
set_option maxRecDepth 20000
open Go.RowKit
set_option linter.unusedVariables false
namespace Tr
theorem flat_few {s : Pgs} {d : Nat} : ∀ {ks : List Int}, (∀ k ∈ ks, (its s d k).length ≤ 3 * (pgs s d k).length) → (ks.flatMap (its s d)).length ≤ 3 * (ks.flatMap (pgs s d)).length
 | [], _ => by simp
 | k :: ks, h => by
   have h1 := h k (by simp)
   have h2 := flat_few (ks := ks) (fun y hy => h y (by simp [hy]))
   rw [List.flatMap_cons, List.flatMap_cons, List.length_append, List.length_append]
   omega
theorem its_few {s : Pgs} : ∀ {d : Nat} {lo hi : Bnd} {p : Int}, Fit s d lo hi p → (its s d p).length ≤ 3 * (pgs s d p).length
 | d + 1, lo, hi, p, h => by
   obtain ⟨h1, h2, h3⟩ := h
   have hok := (good_ok h2).1
   unfold its pgs
   by_cases hk : (nod s p).2 = []
   · rw [if_pos hk, List.length_cons]
     have := hok.few
     omega
   · rw [if_neg hk, List.length_cons]
     have hd : d ≠ 0 := fun e => by rw [if_pos e] at h3; exact hk h3
     rw [if_neg hd] at h3
     have := flat_few (s := s) (d := d) (ks := (nod s p).2) (fun k hk' => by
      obtain ⟨i, hi', rfl⟩ := List.getElem_of_mem hk'
      exact its_few (h3.2 i hi'))
     omega
theorem readI_few (s : Pgs) (root : Int) : (readI s root).length ≤ 6144 := by
 by_cases h : readE s root = 0
 · obtain ⟨hl, hr⟩ := read_root h
   rcases hr with ⟨e, -⟩ | ⟨d, -, hF, hI, hn⟩
   · rw [e]; simp
   · rw [← hI]
     have h1 := its_few hF
     have h2 := nodup_le s.length _ hn (fit_pages hF)
     omega
 · rw [readI_bad h]; simp
end Tr
theorem rreach_u (w : World) (P : Nat → Prop) (s : Pgs) (root : Int) (pa : Option Addr) (pc : Nat) (hR : rSectors.rd w P [.slice pa s.length pc] s) (h0 : -9223372036854775808 ≤ root) (h1 : root ≤ 9223372036854775807) : Calls Tryz.prog 26 #[.agg #[.slice pa s.length pc], .int .i64 root] w fun e w' => ∃ a n c, e = .returned (.tuple #[.slice a n c, .int .i64 (Tr.readE s root)]) ∧ OwnK 3 w' w.heap.size (.slice a n c) (Tr.readP s root) ∧ Below w.heap.size w w' := by
 obtain ⟨w1, hw1, V1, b1, z1⟩ := boxedRow w 24 [.slice pa s.length pc]
 have a0 := V1.cell (j := 0) rfl
 have B1 : Hid _ := b1
 have HC : Hid _ := rread_u w1 P s root pa pc (Rep.below hR b1) h0 h1
 clear V1 b1 z1 hR
 go_enter Tryz.func26, Tryz.ntmps26
 go_wp2_with fail
 go_at_call 41
 refine Calls.mono HC.out ?_
 rintro e w2 ⟨a, n, c, a', n', c', rfl, hI, hK, b2⟩
 have HK : Hid (OwnK 3 w2 w.heap.size (.slice a' n' c') (Tr.readP s root)) := hK.mono B1.out.size
 have HB : Hid _ := on B1.out b2
 clear hI hK b2
 go_wp2
 go_ret2
 exact ⟨_, _, _, rfl, HK.out, HB.out⟩
theorem rcheck_u (w : World) (P : Nat → Prop) (s : Pgs) (root : Int) (pa : Option Addr) (pc : Nat) (hR : rSectors.rd w P [.slice pa s.length pc] s) (h0 : -9223372036854775808 ≤ root) (h1 : root ≤ 9223372036854775807) : Calls Tryz.prog 25 #[.agg #[.slice pa s.length pc], .int .i64 root] w fun e w' => e = .returned (.int .i64 (Tr.readE s root)) ∧ Below w.heap.size w w' := by
 obtain ⟨w1, hw1, V1, b1, z1⟩ := boxedRow w 24 [.slice pa s.length pc]
 have a0 := V1.cell (j := 0) rfl
 have B1 : Hid _ := b1
 have HC : Hid _ := rread_u w1 P s root pa pc (Rep.below hR b1) h0 h1
 clear V1 b1 z1 hR
 go_enter Tryz.func25, Tryz.ntmps25
 go_wp2_with fail
 go_at_call 41
 refine Calls.mono HC.out ?_
 rintro e w2 ⟨a, n, c, a', n', c', rfl, hI, hK, b2⟩
 have HB : Hid _ := on B1.out b2
 clear hI hK b2
 go_wp2
 go_ret
 exact ⟨rfl, HB.out⟩
namespace Tr
def rangeE (s : Pgs) (root : Int) (n : Int) : Int := if readE s root = 0 then (if n < 0 then 4 else 0) else readE s root
def rangeL (s : Pgs) (root : Int) (key : UInt64) (n : Int) : List Itm := if readE s root = 0 ∧ 0 ≤ n then rangeOf (readI s root) key n.toNat else []
end Tr
set_option maxHeartbeats 1000000 in
theorem trange_u (w : World) (P : Nat → Prop) (s : Pgs) (root : Int) (key : UInt64) (m : Int) (pa : Option Addr) (pc : Nat) (hR : rSectors.rd w P [.slice pa s.length pc] s) (h0 : -9223372036854775808 ≤ root) (h1 : root ≤ 9223372036854775807) (hm0 : -9223372036854775808 ≤ m) (hm1 : m ≤ 9223372036854775807) :
 Calls Tryz.prog 12 #[.agg #[.slice pa s.length pc], .int .i64 root, .int .u64 (key.toNat : Int), .int .i64 m] w fun e w' => ∃ a n c, e = .returned (.tuple #[.slice a n c, .int .i64 (Tr.rangeE s root m)]) ∧ OwnI 45 w' w.heap.size (.slice a n c) (Tr.rangeL s root key m) ∧ Below w.heap.size w w' := by
 obtain ⟨wa, hwa, Va, ba, za⟩ := boxedRow w 26 [.slice pa s.length pc]
 have a0 := Va.cell (j := 0) rfl
 have BA : Hid _ := ba
 have HC : Hid _ := walked_u wa P s root pa pc (Rep.below hR ba) h0 h1
 have HFew : Hid _ := Tr.readI_few s root
 clear Va ba za hR
 go_enter Tryz.func12, Tryz.ntmps12
 go_wp2_with fail
 go_at_call 22
 refine Calls.mono HC.out ?_
 rintro e w2 ⟨b2, hno, hyes⟩
 have B2 : Hid _ := on BA.out b2
 by_cases hE : Tr.readE s root = 0
 · obtain ⟨g, gm, base, k, es, rfl, hW, hA, hb, hg, hgm, hk⟩ := hyes hE
   by_cases hm : m < 0
   · have HE : Hid (Tr.rangeE s root m = 4) := by unfold Hid Tr.rangeE; rw [if_pos hE, if_pos hm]
     have HL : Hid (Tr.rangeL s root key m = []) := by unfold Hid Tr.rangeL; rw [if_neg (fun k => by omega)]
     clear hno hyes b2 hE hW hA hb hg hgm hk
     go_wp2
     go_ret2
     exact ⟨_, _, _, by rw [HE.out]; rfl, by rw [HL.out]; exact OwnI.nil _ _ _, B2.out⟩
   · have HE : Hid (Tr.rangeE s root m = 0) := by unfold Hid Tr.rangeE; rw [if_pos hE, if_neg hm]
     obtain ⟨mm, hmm⟩ : ∃ mm : Nat, m = (mm : Int) := ⟨m.toNat, by omega⟩
     subst hmm
     have HL : Hid (Tr.rangeL s root key mm = Tr.rangeOf (Tr.readI s root) key mm) := by unfold Hid Tr.rangeL; rw [if_pos ⟨hE, by omega⟩]; rfl
     have HSn : Hid (Seen w2 g gm s (Tr.lmet s root)) := by have h := hW.seen; rw [hk] at h; exact h
     obtain ⟨d, o1, o2, o3⟩ := Tr.start hE
     have HF : Hid _ := from_u w2 g gm s (Tr.lmet s root) HSn.out root d o1 ⟨h0, h1⟩ (by omega) (by rw [o2]; have := HFew.out; omega) key mm (by omega)
     simp only [o2] at HF
     have hmI : ¬ ((mm : Int) < 0) := hm
     clear hno hyes b2 hE hW hA hb hg hgm hk o1 o2 o3 hm
     go_wp2_with fail
     go_at_call 28
     refine Calls.mono HF.out ?_
     rintro e w3 ⟨a, n, c, rfl, hO, b3⟩
     go_wp2
     go_ret2
     exact ⟨a, n, c, by rw [HE.out]; rfl, by rw [HL.out]; exact hO.mono B2.out.size, on B2.out b3⟩
 · obtain ⟨q, rfl⟩ := hno hE
   have hEz : (Tr.readE s root == 0) = false := beq_eq_false_iff_ne.2 hE
   have HE : Hid (Tr.rangeE s root m = Tr.readE s root) := by unfold Hid Tr.rangeE; rw [if_neg hE]
   have HL : Hid (Tr.rangeL s root key m = []) := by unfold Hid Tr.rangeL; rw [if_neg (fun k => hE k.1)]
   clear hno hyes b2 hE
   go_wp2
   go_ret2
   exact ⟨_, _, _, by rw [HE.out]; rfl, by rw [HL.out]; exact OwnI.nil _ _ _, B2.out⟩
namespace Tr
open Lf
def cnt (k : UInt64) (l : List Itm) : Nat := (l.filter fun y => decide (y.1.toNat < k.toNat)).length
def has (k : UInt64) (l : List Itm) : Bool := l.any fun y => decide (y.1 = k)
def putT (x : Itm) (l : List Itm) : List Itm := (l.filter fun y => decide (y.1.toNat < x.1.toNat)) ++ [x] ++ l.filter fun y => decide (x.1.toNat < y.1.toNat)
theorem cut_lt {k : UInt64} : ∀ {l : List Itm}, Up l → l.take (cnt k l) = (l.filter fun y => decide (y.1.toNat < k.toNat)) ∧ l.drop (cnt k l) = l.filter fun y => decide (k.toNat ≤ y.1.toNat)
 | [], _ => by simp [cnt]
 | x :: l, h => by
   obtain ⟨h1, h2⟩ := List.pairwise_cons.1 h
   obtain ⟨e1, e2⟩ := cut_lt (k := k) h2
   unfold cnt at *
   by_cases hx : x.1.toNat < k.toNat
   · rw [List.filter_cons_of_pos (by simpa using hx), List.length_cons, List.take_succ_cons, List.drop_succ_cons, e1, e2, List.filter_cons_of_neg (by simp; omega)]
     exact ⟨rfl, rfl⟩
   · have hn : (l.filter fun y => decide (y.1.toNat < k.toNat)) = [] := by
      rw [List.filter_eq_nil_iff]
      intro y hy
      have := h1 y hy
      simp; omega
     have ha : (l.filter fun y => decide (k.toNat ≤ y.1.toNat)) = l := by
      rw [List.filter_eq_self]
      intro y hy
      have := h1 y hy
      simp; omega
     rw [List.filter_cons_of_neg (by simpa using hx), hn, List.filter_cons_of_pos (by simp; omega), ha]
     exact ⟨rfl, rfl⟩
theorem cnt_le (k : UInt64) (l : List Itm) : cnt k l ≤ l.length := List.length_filter_le _ _
theorem cnt_of {k : UInt64} {l : List Itm} (h : Up l) {i : Nat} (hi : i ≤ l.length) (h1 : ∀ j (hj : j < l.length), j < i → l[j].1.toNat < k.toNat) (h2 : ∀ j (hj : j < l.length), i ≤ j → k.toNat ≤ l[j].1.toNat) : cnt k l = i := by
 obtain ⟨e1, e2⟩ := cut_lt (k := k) h
 have hle := cnt_le k l
 rcases Nat.lt_trichotomy (cnt k l) i with q | q | q
 · exfalso
   have hlt : cnt k l < l.length := by omega
   have h3 := h1 _ hlt q
   have h4 : l[cnt k l] ∈ l.drop (cnt k l) := by
    rw [List.drop_eq_getElem_cons hlt]; exact List.mem_cons_self
   rw [e2] at h4
   have := (List.mem_filter.1 h4).2
   simp only [decide_eq_true_eq] at this
   omega
 · exact q
 · exfalso
   have hlt : i < l.length := by omega
   have h3 := h2 i hlt (Nat.le_refl _)
   have h4 : l[i] ∈ l.take (cnt k l) := by
    rw [List.mem_take_iff_getElem]
    exact ⟨i, by omega, rfl⟩
   rw [e1] at h4
   have := (List.mem_filter.1 h4).2
   simp only [decide_eq_true_eq] at this
   omega
theorem has_iff {k : UInt64} {l : List Itm} (h : Up l) : has k l = true ↔ ∃ hj : cnt k l < l.length, l[cnt k l].1 = k := by
 obtain ⟨e1, e2⟩ := cut_lt (k := k) h
 unfold has
 rw [List.any_eq_true]
 constructor
 · rintro ⟨y, hy, he⟩
   simp only [decide_eq_true_eq] at he
   have hd : y ∈ l.drop (cnt k l) := by rw [e2]; exact List.mem_filter.2 ⟨hy, by simp [he]⟩
   have hlt : cnt k l < l.length := by
    rcases Nat.lt_or_ge (cnt k l) l.length with q | q
    · exact q
    · rw [List.drop_of_length_le q] at hd; cases hd
   refine ⟨hlt, ?_⟩
   rw [List.drop_eq_getElem_cons hlt] at hd e2
   have hge : k.toNat ≤ (l[cnt k l]).1.toNat := by
    have : l[cnt k l] ∈ l.filter fun y => decide (k.toNat ≤ y.1.toNat) := by rw [← e2]; exact List.mem_cons_self
    simpa using (List.mem_filter.1 this).2
   rcases List.mem_cons.1 hd with q | q
   · rw [← q]; exact he
   · have hp : Up (l.drop (cnt k l)) := List.Pairwise.sublist (List.drop_sublist _ _) h
     rw [List.drop_eq_getElem_cons hlt] at hp
     have := (List.pairwise_cons.1 hp).1 y q
     rw [he] at this
     omega
 · rintro ⟨hj, e⟩
   exact ⟨_, List.getElem_mem hj, by simp [e]⟩
theorem putT_new {x : Itm} {l : List Itm} (h : Up l) (hn : has x.1 l = false) : l.take (cnt x.1 l) ++ [x] ++ l.drop (cnt x.1 l) = putT x l := by
 obtain ⟨e1, e2⟩ := cut_lt (k := x.1) h
 unfold putT
 rw [e1, e2]
 congr 1
 refine List.filter_congr fun y hy => ?_
 have : y.1 ≠ x.1 := fun e => by
  have : has x.1 l = true := by unfold has; rw [List.any_eq_true]; exact ⟨y, hy, by simp [e]⟩
  rw [hn] at this; cases this
 have : y.1.toNat ≠ x.1.toNat := fun e => this (UInt64.toNat_inj.1 e)
 simp only [decide_eq_decide]
 omega
theorem putT_old {x : Itm} {l : List Itm} (h : Up l) (hn : has x.1 l = true) : l.set (cnt x.1 l) x = putT x l := by
 obtain ⟨hj, e⟩ := (has_iff h).1 hn
 obtain ⟨e1, e2⟩ := cut_lt (k := x.1) h
 have hs : l.set (cnt x.1 l) x = l.take (cnt x.1 l) ++ [x] ++ l.drop (cnt x.1 l + 1) := by
  rw [List.set_eq_take_append_cons_drop, if_pos hj, List.append_assoc]; rfl
 rw [hs, e1]
 unfold putT
 congr 1
 rw [List.drop_eq_getElem_cons hj] at e2
 have hp : Up (l.drop (cnt x.1 l)) := List.Pairwise.sublist (List.drop_sublist _ _) h
 rw [List.drop_eq_getElem_cons hj] at hp
 have hq := (List.pairwise_cons.1 hp).1
 have h1 : (l.filter fun y => decide (x.1.toNat < y.1.toNat)) = (l.filter fun y => decide (x.1.toNat ≤ y.1.toNat)).filter fun y => decide (x.1.toNat < y.1.toNat) := by
  rw [List.filter_filter]
  refine List.filter_congr fun y _ => ?_
  rw [← Bool.decide_and, decide_eq_decide]
  omega
 rw [h1, ← e2, List.filter_cons_of_neg (by simp [e])]
 symm
 rw [List.filter_eq_self]
 intro y hy
 have := hq y hy
 rw [e] at this
 simpa using this
theorem putT_few (x : Itm) (l : List Itm) : (putT x l).length ≤ l.length + 1 := by
 unfold putT
 rw [List.length_append, List.length_append]
 have : ∀ l : List Itm, (l.filter fun y => decide (y.1.toNat < x.1.toNat)).length + (l.filter fun y => decide (x.1.toNat < y.1.toNat)).length ≤ l.length := by
  intro l
  induction l with
  | nil => simp
  | cons y l ih =>
    simp only [List.filter_cons, List.length_cons, decide_eq_true_eq]
    split <;> split <;> (try simp only [List.length_cons]) <;> omega
 have := this l
 simp only [List.length_singleton]
 omega
def cmpK (a k : UInt64) : Int := if a.toNat < k.toNat then -1 else if k.toNat < a.toNat then 1 else 0
end Tr
theorem nan_u (w : World) (a : UInt64) : Calls Tryz.prog 69 #[.int .u64 (a.toNat : Int)] w fun e w' => e = .returned (.bool false) ∧ w = w' := by
 go_enter Tryz.func69, Tryz.ntmps69
 go_wp2
 go_ret
 simp
theorem cmp_u (w : World) (a k : UInt64) : Calls Tryz.prog 55 #[.int .u64 (a.toNat : Int), .int .u64 (k.toNat : Int)] w fun e w' => e = .returned (.int .i64 (Tr.cmpK a k)) ∧ w = w' := by
 have h1 := nan_u w a
 have h2 := nan_u w k
 by_cases q : a.toNat < k.toNat
 · have e : Tr.cmpK a k = -1 := if_pos q
   have z : (a.toNat : Int) < (k.toNat : Int) := by omega
   rw [e]
   clear e q
   go_enter Tryz.func55, Tryz.ntmps55
   go_wp2_with (go_at_call 69; first | (refine h1.mono ?_; rintro e w' ⟨rfl, rfl⟩) | (refine h2.mono ?_; rintro e w' ⟨rfl, rfl⟩))
   go_ret
   exact ⟨rfl, rfl⟩
 · have z : ¬ (a.toNat : Int) < (k.toNat : Int) := by omega
   by_cases q2 : k.toNat < a.toNat
   · have e : Tr.cmpK a k = 1 := by unfold Tr.cmpK; rw [if_neg q, if_pos q2]
     have z2 : (a.toNat : Int) > (k.toNat : Int) := by omega
     rw [e]
     clear e q q2
     go_enter Tryz.func55, Tryz.ntmps55
     go_wp2_with (go_at_call 69; first | (refine h1.mono ?_; rintro e w' ⟨rfl, rfl⟩) | (refine h2.mono ?_; rintro e w' ⟨rfl, rfl⟩))
     go_ret
     exact ⟨rfl, rfl⟩
   · have e : Tr.cmpK a k = 0 := by unfold Tr.cmpK; rw [if_neg q, if_neg q2]
     have z2 : ¬ (a.toNat : Int) > (k.toNat : Int) := by omega
     rw [e]
     clear e q q2
     go_enter Tryz.func55, Tryz.ntmps55
     go_wp2_with (go_at_call 69; first | (refine h1.mono ?_; rintro e w' ⟨rfl, rfl⟩) | (refine h2.mono ?_; rintro e w' ⟨rfl, rfl⟩))
     go_ret
     exact ⟨rfl, rfl⟩
theorem against_u (w : World) (x : Itm) (k : UInt64) : Calls Tryz.prog 37 #[.agg #[.int .u64 (x.1.toNat : Int), .int .u64 (x.2.toNat : Int)], .int .u64 (k.toNat : Int)] w fun e w' => e = .returned (.int .i64 (Tr.cmpK x.1 k)) ∧ Below w.heap.size w w' := by
 obtain ⟨w0, hw0, V0, b0, z0⟩ := boxedRow w 45 [.int .u64 (x.1.toNat : Int), .int .u64 (x.2.toNat : Int)]
 obtain ⟨r0, r1⟩ := V0.two
 have B0 : Hid _ := b0
 have hc := cmp_u w0 x.1 k
 clear V0 b0 z0
 go_enter Tryz.func37, Tryz.ntmps37
 go_wp2_with (go_at_call 55; refine hc.mono ?_; rintro e w' ⟨rfl, rfl⟩)
 go_ret
 exact ⟨rfl, B0.out⟩
set_option maxHeartbeats 1000000 in
theorem bin_u (w : World) (P : Nat → Prop) (a : Option Addr) (n c : Nat) (l : List Itm) (hL : rItms.rd w P [.slice a n c] l) (hn : n ≤ 1000) (hup : Tr.Up l) (key : UInt64) :
 Calls Tryz.prog 36 #[.slice a n c, .int .u64 (key.toNat : Int), .func (.func 37) #[] #[]] w fun e w' => e = .returned (.tuple #[.int .i64 (Tr.cnt key l : Nat), .bool (Tr.has key l)]) ∧ Below w.heap.size w w' := by
 have HL : Hid _ := hL
 have HN : Hid (l.length = n) := (rList_len hL).1
 have HU : Hid (Tr.Up l) := hup
 clear hL hup
 go_enter Tryz.func36, Tryz.ntmps36
 go_wp2
 go_loopw [9, 10] (fun i j wr => ∃ lo hi : Nat, i = .int .i64 lo ∧ j = .int .i64 hi ∧ lo ≤ hi ∧ hi ≤ n ∧ Hid (∀ t (ht : t < l.length), t < lo → l[t].1.toNat < key.toNat) ∧ Hid (∀ t (ht : t < l.length), hi ≤ t → key.toNat ≤ l[t].1.toNat) ∧ Hid (Below w.heap.size w wr)) (fun i j _ => (intOf j).toNat - (intOf i).toNat)
 case atStart => exact ⟨0, n, rfl, rfl, Nat.zero_le _, Nat.le_refl _, (fun t ht h => absurd h (Nat.not_lt_zero _)), (fun t ht h => by have := HN.out; omega), Below.refl _ _⟩
 case round =>
  obtain ⟨lo, hi, rfl, rfl, hlh, hin, I, J, B⟩ := hrel
  by_cases hlt : lo < hi
  · obtain ⟨m, hm⟩ : ∃ m, m = (lo + hi) / 2 := ⟨_, rfl⟩
    have hmid : ((lo : Int) + (hi : Int)) / 2 = (m : Int) := by omega
    have hm1 : lo ≤ m := by omega
    have hm2 : m < hi := by omega
    have hml : m < l.length := by have := HN.out; omega
    obtain ⟨g, off, rfl, -, -, hat⟩ := rItms_at (Rep.below HL.out B.out) (by omega)
    obtain ⟨c0, c1⟩ := hat m hml
    have hmn : (m : Int) < (n : Int) := by omega
    have hm0 : (0 : Int) ≤ (m : Int) := Int.natCast_nonneg _
    have hc := against_u wr l[m] key
    have HX : Hid (∀ X, X = l[m] → (X.1.toNat < key.toNat → ∀ t (ht : t < l.length), t < m + 1 → l[t].1.toNat < key.toNat) ∧ (¬ X.1.toNat < key.toNat → ∀ t (ht : t < l.length), m ≤ t → key.toNat ≤ l[t].1.toNat)) := by
     rintro X rfl
     have hp := List.pairwise_iff_getElem.1 HU.out
     refine ⟨fun h t ht htm => ?_, fun h t ht htm => ?_⟩
     · rcases Nat.lt_or_ge t m with q | q
       · have := hp t m ht hml q; omega
       · obtain rfl : t = m := by omega
         exact h
     · rcases Nat.lt_or_ge m t with q | q
       · have := hp m t hml ht q; omega
       · obtain rfl : t = m := by omega
         omega
    clear hat hm
    generalize hXe : l[m] = X at *
    have HX2 := HX.out X rfl
    clear HX hXe
    by_cases q : X.1.toNat < key.toNat
    · have e : Tr.cmpK X.1 key = -1 := if_pos q
      rw [e] at hc
      have I2 : Hid _ := HX2.1 q
      clear HX2 e q
      have hw1 : IntKind.i64.wrap ((m : Int) + 1) = ((m + 1 : Nat) : Int) := by rw [IntKind.wrap_i64]; omega
      go_wp2_with (go_at_call 37; refine hc.mono ?_; rintro e w5 ⟨rfl, b5⟩)
      go_roundw
      case measure => simp [intOf]; omega
      case rel => exact ⟨m + 1, hi, rfl, rfl, by omega, hin, I2, J, on B.out b5⟩
    · have J2 : Hid _ := HX2.2 q
      have hnl : ¬ (Tr.cmpK X.1 key < 0) := by unfold Tr.cmpK; rw [if_neg q]; split <;> omega
      clear HX2 q
      generalize Tr.cmpK X.1 key = Y at *
      go_wp2_with (go_at_call 37; refine hc.mono ?_; rintro e w5 ⟨rfl, b5⟩)
      go_roundw
      case measure => simp [intOf]; omega
      case rel => exact ⟨lo, m, rfl, rfl, by omega, by omega, I, J2, on B.out b5⟩
  · obtain rfl : hi = lo := by omega
    have HC : Hid (Tr.cnt key l = hi) := Tr.cnt_of HU.out (by have := HN.out; omega) I.out J.out
    by_cases hend : hi < n
    · have hml : hi < l.length := by have := HN.out; omega
      obtain ⟨g, off, rfl, -, -, hat⟩ := rItms_at (Rep.below HL.out B.out) (by omega)
      obtain ⟨c0, c1⟩ := hat hi hml
      have hmn : (hi : Int) < (n : Int) := by omega
      have hm0 : (0 : Int) ≤ (hi : Int) := Int.natCast_nonneg _
      have hc := against_u wr l[hi] key
      have HH : Hid (Tr.has key l = (Tr.cmpK l[hi].1 key == 0)) := by
       unfold Hid
       have h1 := Tr.has_iff (k := key) HU.out
       have hge := J.out hi hml (Nat.le_refl _)
       cases hb : Tr.has key l with
       | true =>
         obtain ⟨hj, e⟩ := h1.1 hb
         have e2 : l[hi].1 = key := by rw [← e]; simp only [HC.out]
         unfold Tr.cmpK
         rw [e2, if_neg (by omega), if_neg (by omega)]
         rfl
       | false =>
         have hne : l[hi].1 ≠ key := fun e => by
          rw [h1.2 ⟨by rw [HC.out]; exact hml, by simp only [HC.out]; exact e⟩] at hb
          cases hb
         have hne2 : l[hi].1.toNat ≠ key.toNat := fun e => hne (UInt64.toNat_inj.1 e)
         unfold Tr.cmpK
         rw [if_neg (by omega), if_pos (by omega)]
         rfl
      clear hat
      generalize l[hi] = X at *
      generalize Tr.cmpK X.1 key = Y at *
      go_wp2_with (go_at_call 37; refine hc.mono ?_; rintro e w5 ⟨rfl, b5⟩)
      go_ret2
      exact ⟨by rw [HC.out, HH.out]; rfl, on B.out b5⟩
    · obtain rfl : hi = n := by omega
      have HH : Hid (Tr.has key l = false) := by
       unfold Hid
       have h1 := Tr.has_iff (k := key) HU.out
       cases hb : Tr.has key l with
       | true => obtain ⟨hj, -⟩ := h1.1 hb; rw [HC.out, HN.out] at hj; omega
       | false => rfl
      go_wp2
      go_ret2
      exact ⟨by rw [HC.out, HH.out]; rfl, B.out⟩
theorem copy_run2 {Pr : Program} (w : World) (dT sT ty : TypeId) (e : TypeId) (hu : Pr.underlying dT = some (.slice e)) (hsz : (Pr.info? e).map (·.size) = some 2)
 (dp sp : Option Addr) (dLen dCap sLen sCap : Nat) (g off : Nat) (cur : List Value) (t : TypeId) (hg : Row w g t cur) (cs : List Value) (hn : cs.length = Nat.min sLen dLen * 2)
 (hpos : 0 < cs.length → dp = some ⟨g, off, none⟩ ∧ ∃ ad, sp = some ad ∧ ∀ (j : Nat) (v : Value), cs[j]? = some v → w.cell? (ad.add j) = some v)
 (hfit : off + cs.length ≤ cur.length) (h1 : ∀ v ∈ cs, v.oneCell' = true) :
 ∃ w', (Builtin.copy_ #[dT, sT] ty #[.slice dp dLen dCap, .slice sp sLen sCap]).run Pr w = .ok (goInt (Nat.min sLen dLen)) w' ∧ Row w' g t (splice cur off cs) ∧ Kept (· ≠ g) w w' ∧ w'.heap.size = w.heap.size := by
 obtain ⟨i, hq⟩ : ∃ i, Pr.info? e = some i := by
  cases hq : Pr.info? e with
  | none => simp [hq] at hsz
  | some i => exact ⟨i, rfl⟩
 have hi : i.size = 2 := by simpa [hq] using hsz
 by_cases h0 : cs.length = 0
 · obtain rfl : cs = [] := List.eq_nil_of_length_eq_zero h0
   have hm : Nat.min sLen dLen = 0 := by simp only [List.length_nil] at hn; omega
   refine ⟨w, ?_, ?_, Kept.refl _ _, rfl⟩
   · rw [hm]
     have hl : ∀ (x : Addr), (loadCells x 0).run Pr w = .ok #[] w := fun x => by simpa using run_loadCells_list (P := Pr) w x [] (by simp)
     cases dp <;> cases sp <;> simp [Builtin.copy_, run_underlying hu, Builtin.lenOf, Builtin.firstCells, sizeOf, typeInfo, hq, hm, storeCells, hl]
   · rw [show splice cur off [] = cur from by simp [splice]]; exact hg
 · obtain ⟨rfl, ad, rfl, hsrc⟩ := hpos (by omega)
   have hl := run_loadCells_list (P := Pr) w ad cs hsrc
   have hst := run_storeCells_at Pr g off t cs 0 cur.toArray w hg.eq (by simpa using hfit) h1
   simp only [Nat.add_zero] at hst
   refine ⟨w.setRow g (splice cur off cs).toArray, ?_, ⟨setRow_heap w g _ _ t _ hg.eq⟩, ⟨rfl, rfl, rfl, by simp, fun k hk => setRow_other w g k _ hk⟩, by simp⟩
   simp [Builtin.copy_, run_underlying hu, Builtin.lenOf, Builtin.firstCells, sizeOf, typeInfo, hq, hi, ← hn, hl, hst, splice]
theorem take_splice {α : Type} {L cs : List α} {off : Nat} (h : off ≤ L.length) : (splice L off cs).take (off + cs.length) = L.take off ++ cs := by
 unfold splice
 rw [← List.append_assoc]
 have hl : (L.take off ++ cs).length = off + cs.length := by rw [List.length_append, List.length_take]; omega
 rw [← hl]
 exact List.take_left
theorem take_splice_lt {α : Type} {L cs : List α} {off k : Nat} (hk : k ≤ off) (h : off ≤ L.length) : (splice L off cs).take k = L.take k := by
 unfold splice
 rw [List.take_append_of_le_length (by rw [List.length_take]; omega), List.take_take, Nat.min_eq_left hk]
theorem drop_splice {α : Type} {L cs : List α} {off : Nat} (h : off ≤ L.length) : (splice L off cs).drop off = cs ++ L.drop (off + cs.length) := by
 unfold splice
 rw [List.drop_append_of_le_length (by rw [List.length_take]; omega)]
 rw [List.drop_of_length_le (by rw [List.length_take]; omega), List.nil_append]
end Go.Proofs.YtkbmadoaomoojaaGreat
