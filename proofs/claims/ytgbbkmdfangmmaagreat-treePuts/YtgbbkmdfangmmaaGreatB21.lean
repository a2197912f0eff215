/-
  Facts that the proof rests on, part 22. Conditions: those that each of them names.
-/
import Derived.ChangeOld
import Derived.OpenShut
import Derived.ProofKit
import Derived.ShutString
import Derived.SizedLaws
import Derived.Test.YtgbbkmdfangmmaaGreatRows
import Derived.Test.YtgbbkmdfangmmaaGreatB02
import Derived.Test.YtgbbkmdfangmmaaGreatB03
import Derived.Test.YtgbbkmdfangmmaaGreatB05
import Derived.Test.YtgbbkmdfangmmaaGreatB06
import Derived.Test.YtgbbkmdfangmmaaGreatB07
import Derived.Test.YtgbbkmdfangmmaaGreatB08
import Derived.Test.YtgbbkmdfangmmaaGreatB13
import Derived.Test.YtgbbkmdfangmmaaGreatB20
namespace Go.Proofs.YtgbbkmdfangmmaaGreat
set_option maxRecDepth 20000
open Go.ChangeShapes Go.WideShapes Go.ChangeAt Go.RowKit
theorem own : ownKnob Tryz.prog.godebug = none := by kernel_rfl
theorem laidOut : laidOutB Tryz.prog = true := by kernel_rfl
theorem opens_octets : Opens Tryz.prog 72 rBytes := opens_list Tryz.underlying72 (by kernel_rfl) (by kernel_rfl) (opens_byte Tryz.underlying5)
theorem opens_sectors : Opens Tryz.prog 22 rSectors := opens_list Tryz.underlying22 (by kernel_rfl) (by kernel_rfl) opens_octets
theorem opens_pages : Opens Tryz.prog 24 rSectors :=
 opens_struct Tryz.underlying24 (by kernel_rfl) (opens_last rfl (by kernel_rfl) opens_sectors)
theorem opens_item : Opens Tryz.prog 29 rItm :=
 opens_struct Tryz.underlying29 (by kernel_rfl) (opens_field rfl (by kernel_rfl) (opens_u64 Tryz.underlying25) (opens_last rfl (by kernel_rfl) (opens_u64 Tryz.underlying25)))
theorem rPages_rd {w : World} {P : Nat → Prop} {cs : List Value} {s : List (List UInt8)} (h : rSectors.rd w P cs s) : ∃ a n c, cs = [.slice a n c] ∧ s.length = n ∧ n ≤ 5864062014634 := by
 obtain ⟨a, n, c, e, h1, -, -, h4, -⟩ := h
 have h5 : n * 24 ≤ 140737488351232 := h4
 exact ⟨a, n, c, e, h1, by omega⟩
end Go.Proofs.YtgbbkmdfangmmaaGreat
namespace Go.Proofs.YtgbbkmdfangmmaaGreat
set_option maxRecDepth 20000
open Go.RowKit
set_option linter.unusedVariables false
theorem rSectors_none (w : World) (P : Nat → Prop) : rSectors.rd w P [.slice none 0 0] [] := ⟨none, 0, 0, rfl, rfl, Nat.zero_le _, fun _ => rfl, by decide, fun x hx j hj => by cases hj⟩
set_option maxHeartbeats 1000000 in
theorem of8_u (w : World) (P : Nat → Prop) (s : Pgs) (a : Option Addr) (n c : Nat) (hR : rSectors.rd w P [.slice a n c] s) :
 Calls Tryz.prog 9 #[.agg #[.slice a n c]] w fun e w' => ∃ b d, e = .returned (.agg #[.slice b n d]) ∧ rSectors.rd w' (fun k => w.heap.size ≤ k) [.slice b n d] s ∧ Below w.heap.size w w' := by
 obtain ⟨w1, hw1, V1, b1, z1⟩ := boxedRow w 24 [.slice a n c]
 obtain ⟨w2, hw2, V2, b2, z2⟩ := boxedRow w1 26 [.slice none 0 0]
 have B2 : Hid (Below w.heap.size w w2) := on b1 b2
 have HV2 : Hid _ := V2
 have HZ : Hid (w.heap.size ≤ w1.heap.size) := b1.size
 have HZ1 : Hid (w1.heap.size = w.heap.size + 1) := z1
 have HC : Hid _ := copyList_r w2 P a n c s (Rep.below hR B2.out)
 have c0 := (V1.below b2).cell (j := 0) rfl
 clear V1 V2 b1 b2 z1 z2 hR
 go_enter Tryz.func9, Tryz.ntmps9
 go_wp2_with fail
 go_at_call 33
 refine Calls.mono HC.out ?_
 rintro e w3 ⟨b, d, rfl, hr, b3⟩
 have HV3 : Hid _ := HV2.out.below b3
 have HR3 : Hid _ := hr
 have B3 : Hid _ := on B2.out b3
 have HS2 : Hid (w1.heap.size < w2.heap.size) := HV2.out.lt
 have e0 := HV3.out.cell (j := 0) rfl
 have e1 := HV3.out.frozen 0
 clear hr b3
 go_wp2
 have hk : Kept (· ≠ w1.heap.size) w3 (w3.setCell ⟨w1.heap.size, 0, none⟩ (.slice b n d)) := (Kept.refl _ w3).setCell (p := ⟨w1.heap.size, 0, none⟩) (fun h => h rfl) _
 refine bodyPost_ret (results_row (xs := [.slice b n d]) rfl (by first | rfl | (simp only [HZ1.out]; rfl)) (HV3.out.set 0 _) Tryz.underlying26 rfl (by kernel_rfl)) rfl ⟨b, d, rfl, ?_, Kept.belowOf B3.out hk (by have := HZ.out; omega)⟩
 exact rSectors.weaken (Rep.kept HR3.out hk (fun q hq _ => by have h1 : w2.heap.size ≤ q := hq; have h2 := HS2.out; show q ≠ w1.heap.size; omega)) (fun q hq _ => by have h1 : w2.heap.size ≤ q := hq; have h2 := HS2.out; have h3 := HZ.out; show w.heap.size ≤ q; omega)
namespace Tr
def putE (x : Itm) (s : Pgs) (root : Int) : Int := match putR x s root with | .error y => y | .ok _ => 0
def putS (x : Itm) (s : Pgs) (root : Int) : Pgs := match putR x s root with | .error _ => [] | .ok r => r.1
def putQ (x : Itm) (s : Pgs) (root : Int) : Int := match putR x s root with | .error _ => 0 | .ok r => r.2
theorem put_cases (x : Itm) (s : Pgs) (root : Int) :
 (readE s root ≠ 0 ∧ putE x s root = readE s root ∧ putS x s root = [] ∧ putQ x s root = 0) ∨ (readE s root = 0 ∧ putE x s root = 51 ∧ 2048 < s.length + 26 ∧ putS x s root = [] ∧ putQ x s root = 0) ∨ (readE s root = 0 ∧ putE x s root = 0 ∧ After (putT x) s root (putS x s root) (putQ x s root)) := by
 unfold putE putS putQ
 cases h : putR x s root with
 | error y =>
   rcases putR_error h with ⟨h1, h2⟩ | ⟨h1, h2, h3⟩
   · exact .inl ⟨h1, h2, rfl, rfl⟩
   · exact .inr (.inl ⟨h1, h2, h3, rfl, rfl⟩)
 | ok r =>
   obtain ⟨s', q⟩ := r
   obtain ⟨h1, h2⟩ := putR_ok h
   exact .inr (.inr ⟨h1, rfl, h2⟩)
theorem root_in {s : Pgs} {root : Int} (h : readE s root = 0) : 0 ≤ root ∧ root ≤ 2048 := by
 obtain ⟨hl, ⟨e, -⟩ | ⟨-, d, W, -⟩⟩ := read_zero h
 · omega
 · have := fit_root W.fit
   omega
theorem putQ_in (x : Itm) (s : Pgs) (root : Int) : 0 ≤ putQ x s root ∧ putQ x s root ≤ 2048 := by
 rcases put_cases x s root with ⟨-, -, -, h⟩ | ⟨-, -, -, -, h⟩ | ⟨-, -, h⟩
 · rw [h]; omega
 · rw [h]; omega
 · exact root_in h.ok_
end Tr
theorem put8_u (w : World) (P : Nat → Prop) (s : Pgs) (root : Int) (x : Itm) (pa : Option Addr) (n pc : Nat) (hR : rSectors.rd w P [.slice pa n pc] s) (h0 : -9223372036854775808 ≤ root) (h1 : root ≤ 9223372036854775807) :
 Calls Tryz.prog 24 #[.agg #[.slice pa n pc], .int .i64 root, .agg #[.int .u64 (x.1.toNat : Int), .int .u64 (x.2.toNat : Int)]] w fun e w' => ∃ a m c, e = .returned (.tuple #[.agg #[.slice a m c], .int .i64 (Tr.putQ x s root), .int .i64 (Tr.putE x s root)]) ∧ rSectors.rd w' (fun b => w.heap.size ≤ b) [.slice a m c] (Tr.putS x s root) ∧ Below w.heap.size w w' := by
 obtain rfl : n = s.length := (rList_len hR).1.symm
 refine (Put_u w P s root x pa pc hR h0 h1).mono ?_
 rintro e w' ⟨b, hno, hyes⟩
 unfold Tr.putQ Tr.putE Tr.putS
 cases h : Tr.putR x s root with
 | error y =>
   rw [h] at hno
   exact ⟨none, 0, 0, hno y rfl, rSectors_none _ _, b⟩
 | ok r =>
   rw [h] at hyes
   obtain ⟨a, c, h1, h2, -⟩ := hyes r.1 r.2 rfl
   exact ⟨a, _, c, h1, h2, b⟩
set_option maxHeartbeats 1000000 in
theorem ref8_u (w : World) (P : Nat → Prop) (s : Pgs) (a : Option Addr) (n c : Nat) (hR : rSectors.rd w P [.slice a n c] s) :
 Calls Tryz.prog 26 #[.agg #[.slice a n c]] w fun e w' => ∃ b d, e = .returned (.agg #[.slice b n d]) ∧ rSectors.rd w' (fun k => w.heap.size ≤ k) [.slice b n d] s ∧ Below w.heap.size w w' := by
 obtain ⟨w1, hw1, V1, b1, z1⟩ := boxedRow w 26 [.slice a n c]
 obtain ⟨w2, hw2, V2, b2, z2⟩ := boxedRow w1 24 [.slice none 0 0]
 have B2 : Hid (Below w.heap.size w w2) := on b1 b2
 have HV2 : Hid _ := V2
 have HZ : Hid (w.heap.size ≤ w1.heap.size) := b1.size
 have HZ1 : Hid (w1.heap.size = w.heap.size + 1) := z1
 have HC : Hid _ := copyList_r w2 P a n c s (Rep.below hR B2.out)
 have c0 := (V1.below b2).cell (j := 0) rfl
 clear V1 V2 b1 b2 z1 z2 hR
 go_enter Tryz.func26, Tryz.ntmps26
 go_wp2_with fail
 go_at_call 33
 refine Calls.mono HC.out ?_
 rintro e w3 ⟨b, d, rfl, hr, b3⟩
 have HV3 : Hid _ := HV2.out.below b3
 have HR3 : Hid _ := hr
 have B3 : Hid _ := on B2.out b3
 have HS2 : Hid (w1.heap.size < w2.heap.size) := HV2.out.lt
 have e0 := HV3.out.cell (j := 0) rfl
 have e1 := HV3.out.frozen 0
 clear hr b3
 go_wp2
 have hk : Kept (· ≠ w1.heap.size) w3 (w3.setCell ⟨w1.heap.size, 0, none⟩ (.slice b n d)) := (Kept.refl _ w3).setCell (p := ⟨w1.heap.size, 0, none⟩) (fun h => h rfl) _
 refine bodyPost_ret (results_row (xs := [.slice b n d]) rfl (by first | rfl | (simp only [HZ1.out]; rfl)) (HV3.out.set 0 _) Tryz.underlying24 rfl (by kernel_rfl)) rfl ⟨b, d, rfl, ?_, Kept.belowOf B3.out hk (by have := HZ.out; omega)⟩
 exact rSectors.weaken (Rep.kept HR3.out hk (fun q hq _ => by have h1 : w2.heap.size ≤ q := hq; have h2 := HS2.out; show q ≠ w1.heap.size; omega)) (fun q hq _ => by have h1 : w2.heap.size ≤ q := hq; have h2 := HS2.out; have h3 := HZ.out; show w.heap.size ≤ q; omega)
theorem after_more {w w1 : World} {oa : Option Addr} {on_ oc : Nat} {O : List Itm} (hO : OwnI 29 w w1.heap.size (.slice oa on_ oc) O) (hB : Below w1.heap.size w1 w) (x : Itm) (hl : O.length ≤ 999999) :
 ∃ a n c w', (Builtin.append_ #[35, 35] 35 #[.slice oa on_ oc, .slice (some ⟨w.heap.size, 0, none⟩) 1 1]).run Tryz.prog (w.alloc (.cells #[.int .u64 (x.1.toNat : Int), .int .u64 (x.2.toNat : Int)] 29)) = .ok (.slice a n c) w' ∧ OwnI 29 w' w1.heap.size (.slice a n c) (O ++ [x]) ∧ n = (O ++ [x]).length ∧ Below w1.heap.size w1 w' := by
 obtain ⟨v', w', hr, ho, g⟩ := run_append_itm hO x hl hB.size 35
 obtain ⟨a, c, rfl, -⟩ := ho.slice
 have hA : OwnI 29 (w.alloc (.cells #[.int .u64 (x.1.toNat : Int), .int .u64 (x.2.toNat : Int)] 29)) w1.heap.size (.slice oa on_ oc) O := hO.below ((Below.refl _ _).alloc (Nat.le_refl _) _)
 have hB2 : Below w1.heap.size w1 (w.alloc (.cells #[.int .u64 (x.1.toNat : Int), .int .u64 (x.2.toNat : Int)] 29)) := below_alloc0 hB _
 exact ⟨a, _, c, w', hr, ho, rfl, hB2.trans (hA.base_below hB2.size g)⟩
namespace Tr
theorem laid_step {x : Itm} {gone done : Bool} {y : Itm} {rest : List Itm} : laid x gone (y :: rest) done = (if done = false ∧ x.1.toNat ≤ y.1.toNat then [x] else []) ++ (if y.1 ≠ x.1 then [y] else []) ++ laid x gone rest (done || decide (x.1.toNat ≤ y.1.toNat)) := rfl
end Tr
set_option maxHeartbeats 4000000 in
theorem after_u (w : World) (P : Nat → Prop) (a : Option Addr) (n c : Nat) (l : List Itm) (hL : rItms.rd w P [.slice a n c] l) (hl : l.length ≤ 100000) (x : Itm) (gone : Bool) :
 Calls Tryz.prog 27 #[.slice a n c, .agg #[.int .u64 (x.1.toNat : Int), .int .u64 (x.2.toNat : Int)], .bool gone] w fun e w' => ∃ b m d, e = .returned (.slice b m d) ∧ OwnI 29 w' w.heap.size (.slice b m d) (Tr.after l x gone) ∧ Below w.heap.size w w' := by
 obtain ⟨w1, hw1, V1, b1, z1⟩ := boxedRow w 29 [.int .u64 (x.1.toNat : Int), .int .u64 (x.2.toNat : Int)]
 have HV1 : Hid _ := V1
 have HB1 : Hid _ := b1
 have HZ1 : Hid (w.heap.size < w1.heap.size) := V1.lt
 have HL : Hid (rItms.rd w1 P [.slice a n c] l) := Rep.below hL b1
 have HN : Hid (l.length = n) := (rList_len hL).1
 have hn5 : n ≤ 100000 := by rw [← HN.out]; exact hl
 clear V1 b1 z1 hL hl
 go_enter Tryz.func27, Tryz.ntmps27
 go_wp2
 go_loopw [7, 8, 9] (fun o dn i wr => ∃ (k : Nat) (O : List Itm) (oa : Option Addr) (on_ oc : Nat) (done : Bool), i = .int .i64 (k : Int) ∧ k ≤ n ∧ o = .slice oa on_ oc ∧ dn = .bool done ∧ Hid (OwnI 29 wr w1.heap.size (.slice oa on_ oc) O) ∧ Hid (Below w1.heap.size w1 wr) ∧ Hid (O.length ≤ 2 * k) ∧ Hid (O ++ Tr.laid x gone (l.drop k) done = Tr.after l x gone)) (fun _ _ i _ => ((n : Int) - intOf i).toNat)
 case atStart => exact ⟨0, [], none, 0, 0, gone, rfl, Nat.zero_le _, rfl, rfl, OwnI.nil _ _ _, Below.refl _ _, Nat.le_refl _, rfl⟩
 case round =>
  obtain ⟨k, O, oa, on_, oc, done, rfl, hkn, rfl, rfl, HO, HB, HOl, HA⟩ := hrel
  by_cases hk : k < n
  · have hkI : (k : Int) < (n : Int) := by omega
    have hkb : decide ((k : Int) < (n : Int)) = true := decide_eq_true hkI
    have hk0 : (0 : Int) ≤ (k : Int) := Int.natCast_nonneg _
    have hkl : k < l.length := by rw [HN.out]; exact hk
    have hwk : IntKind.i64.wrap ((k : Int) + 1) = ((k + 1 : Nat) : Int) := by rw [IntKind.wrap_i64]; omega
    obtain ⟨gi, oi, rfl, -, hgi, hat⟩ := rItms_at HL.out (by omega)
    obtain ⟨d0, d1⟩ := hat k hkl
    obtain ⟨y, hy⟩ : ∃ y, y = l[k] := ⟨_, rfl⟩
    rw [← hy] at d0 d1
    have HC : Hid (∀ {wx : World}, Below w1.heap.size w1 wx → (wx.cell? ⟨w.heap.size, 0, none⟩ = some (.int .u64 (x.1.toNat : Int)) ∧ wx.cell? ⟨w.heap.size, 1, none⟩ = some (.int .u64 (x.2.toNat : Int))) ∧ wx.cell? ⟨gi, oi + k * 2, none⟩ = some (.int .u64 (y.1.toNat : Int)) ∧ wx.cell? ⟨gi, oi + k * 2 + 1, none⟩ = some (.int .u64 (y.2.toNat : Int))) := fun b =>
     ⟨⟨(b.cell (p := ⟨w.heap.size, 0, none⟩) HZ1.out).trans (HV1.out.cell (j := 0) rfl), (b.cell (p := ⟨w.heap.size, 1, none⟩) HZ1.out).trans (HV1.out.cell (j := 1) rfl)⟩, (b.cell (p := ⟨gi, oi + k * 2, none⟩) hgi).trans d0, (b.cell (p := ⟨gi, oi + k * 2 + 1, none⟩) hgi).trans d1⟩
    have HD : Hid (O ++ ((if done = false ∧ x.1.toNat ≤ y.1.toNat then [x] else []) ++ (if y.1 ≠ x.1 then [y] else []) ++ Tr.laid x gone (l.drop (k + 1)) (done || decide (x.1.toNat ≤ y.1.toNat))) = Tr.after l x gone) := by
     have h := HA.out
     rw [List.drop_eq_getElem_cons hkl, ← hy, Tr.laid_step] at h
     exact h
    have HO5 : Hid (O.length ≤ 200000) := by have := HOl.out; unfold Hid; omega
    clear hat d0 d1 hy hgi HA
    cases done with
    | true =>
      by_cases hne : y.1 ≠ x.1
      · have HP : Hid ((O ++ [y]) ++ Tr.laid x gone (l.drop (k + 1)) true = Tr.after l x gone) := by
         have h := HD.out
         rw [if_neg (fun q => by cases q.1), if_pos hne, Bool.true_or] at h
         unfold Hid
         simpa using h
        clear HD
        have neI : ¬ ((y.1.toNat : Int) = (x.1.toNat : Int)) := fun q => hne (UInt64.toNat_inj.1 (by omega))
        have neB : ((y.1.toNat : Int) == (x.1.toNat : Int)) = false := beq_eq_false_iff_ne.2 neI
        clear hne
        go_wp2_with fail
        obtain ⟨⟨z0, z1⟩, z2, z3⟩ := HC.out HB.out.drew
        go_region
        clear z0 z1 z2 z3
        go_wp2_with fail
        obtain ⟨⟨z0, z1⟩, z2, z3⟩ := HC.out HB.out.drew.drew
        go_region
        clear z0 z1 z2 z3
        obtain ⟨a9, n9, c9, w9, hr9, ho9, hn9, b9⟩ := after_more (w := wr.drew.drew) (HO.out.keep1 (fun _ _ => rfl)) HB.out.drew.drew y (by have := HO5.out; omega)
        have HR9 : Hid _ := hr9
        have HO9 : Hid _ := ho9
        have HB9 : Hid _ := b9
        obtain ⟨-, y0, y1⟩ := HC.out (wx := wr.drew.drew) HB.out.drew.drew
        clear hr9 ho9 hn9 b9
        go_wp2_with (at_builtin; refine Lib.wpList_append_run _ rfl _ _ _ _ rfl _ _ rfl rfl _ _ HR9.out ?_)
        clear y0 y1
        go_roundw
        case rel => exact ⟨k + 1, O ++ [y], a9, n9, c9, true, by go_num, by omega, rfl, rfl, HO9, HB9, by have h := HOl.out; unfold Hid; first | omega | (simp only [List.length_append, List.length_cons, List.length_nil]; omega), HP⟩
        case measure => simp only [intOf]; omega
      · replace hne : y.1 = x.1 := Decidable.not_not.1 hne
        have HP : Hid ((O) ++ Tr.laid x gone (l.drop (k + 1)) true = Tr.after l x gone) := by
         have h := HD.out
         rw [if_neg (fun q => by cases q.1), if_neg (fun q => q hne), Bool.true_or] at h
         unfold Hid
         simpa using h
        clear HD
        have neI : (y.1.toNat : Int) = (x.1.toNat : Int) := by rw [hne]
        have neB : ((y.1.toNat : Int) == (x.1.toNat : Int)) = true := beq_iff_eq.2 neI
        clear hne
        go_wp2_with fail
        obtain ⟨⟨z0, z1⟩, z2, z3⟩ := HC.out HB.out.drew
        go_region
        clear z0 z1 z2 z3
        go_wp2_with fail
        obtain ⟨⟨z0, z1⟩, z2, z3⟩ := HC.out HB.out.drew.drew
        go_region
        clear z0 z1 z2 z3
        go_wp2
        go_roundw
        case rel => exact ⟨k + 1, O, oa, on_, oc, true, by go_num, by omega, rfl, rfl, (show Hid _ from HO.out.keep1 (fun _ _ => rfl)), (show Hid _ from HB.out.drew.drew), by have h := HOl.out; unfold Hid; first | omega | (simp only [List.length_append, List.length_cons, List.length_nil]; omega), HP⟩
        case measure => simp only [intOf]; omega
    | false =>
      by_cases hle : x.1.toNat ≤ y.1.toNat
      · by_cases hne : y.1 ≠ x.1
        · have HP : Hid ((O ++ [x] ++ [y]) ++ Tr.laid x gone (l.drop (k + 1)) true = Tr.after l x gone) := by
           have h := HD.out
           rw [if_pos ⟨rfl, hle⟩, if_pos hne, decide_eq_true hle, Bool.or_true] at h
           unfold Hid
           simpa using h
          clear HD
          have leI : (y.1.toNat : Int) ≥ (x.1.toNat : Int) := by omega
          have leB : decide ((y.1.toNat : Int) ≥ (x.1.toNat : Int)) = true := decide_eq_true leI
          have neI : ¬ ((y.1.toNat : Int) = (x.1.toNat : Int)) := fun q => hne (UInt64.toNat_inj.1 (by omega))
          have neB : ((y.1.toNat : Int) == (x.1.toNat : Int)) = false := beq_eq_false_iff_ne.2 neI
          clear hne hle
          go_wp2_with fail
          obtain ⟨⟨z0, z1⟩, z2, z3⟩ := HC.out HB.out.drew
          go_region
          clear z0 z1 z2 z3
          obtain ⟨a8, n8, c8, w8, hr8, ho8, hn8, b8⟩ := after_more (w := wr.drew) (HO.out.keep1 (fun _ _ => rfl)) HB.out.drew x (by have := HO5.out; omega)
          have HR8 : Hid _ := hr8
          have HO8 : Hid _ := ho8
          have HB8 : Hid _ := b8
          obtain ⟨⟨x0, x1⟩, -⟩ := HC.out (wx := wr.drew) HB.out.drew
          clear hr8 ho8 hn8 b8
          go_wp2_with (at_builtin; refine Lib.wpList_append_run _ rfl _ _ _ _ rfl _ _ rfl rfl _ _ HR8.out ?_)
          clear x0 x1
          obtain ⟨⟨z0, z1⟩, z2, z3⟩ := HC.out HB8.out.drew
          go_region
          clear z0 z1 z2 z3
          obtain ⟨a9, n9, c9, w9, hr9, ho9, hn9, b9⟩ := after_more (w := w8.drew) (HO8.out.keep1 (fun _ _ => rfl)) HB8.out.drew y (by have := HO5.out; simp only [List.length_append, List.length_cons, List.length_nil]; omega)
          have HR9 : Hid _ := hr9
          have HO9 : Hid _ := ho9
          have HB9 : Hid _ := b9
          obtain ⟨-, y0, y1⟩ := HC.out (wx := w8.drew) HB8.out.drew
          clear hr9 ho9 hn9 b9
          go_wp2_with (at_builtin; refine Lib.wpList_append_run _ rfl _ _ _ _ rfl _ _ rfl rfl _ _ HR9.out ?_)
          clear y0 y1
          go_roundw
          case rel => exact ⟨k + 1, O ++ [x] ++ [y], a9, n9, c9, true, by go_num, by omega, rfl, rfl, HO9, HB9, by have h := HOl.out; unfold Hid; first | omega | (simp only [List.length_append, List.length_cons, List.length_nil]; omega), HP⟩
          case measure => simp only [intOf]; omega
        · replace hne : y.1 = x.1 := Decidable.not_not.1 hne
          have HP : Hid ((O ++ [x]) ++ Tr.laid x gone (l.drop (k + 1)) true = Tr.after l x gone) := by
           have h := HD.out
           rw [if_pos ⟨rfl, hle⟩, if_neg (fun q => q hne), decide_eq_true hle, Bool.or_true] at h
           unfold Hid
           simpa using h
          clear HD
          have leI : (y.1.toNat : Int) ≥ (x.1.toNat : Int) := by omega
          have leB : decide ((y.1.toNat : Int) ≥ (x.1.toNat : Int)) = true := decide_eq_true leI
          have neI : (y.1.toNat : Int) = (x.1.toNat : Int) := by rw [hne]
          have neB : ((y.1.toNat : Int) == (x.1.toNat : Int)) = true := beq_iff_eq.2 neI
          clear hne hle
          go_wp2_with fail
          obtain ⟨⟨z0, z1⟩, z2, z3⟩ := HC.out HB.out.drew
          go_region
          clear z0 z1 z2 z3
          obtain ⟨a8, n8, c8, w8, hr8, ho8, hn8, b8⟩ := after_more (w := wr.drew) (HO.out.keep1 (fun _ _ => rfl)) HB.out.drew x (by have := HO5.out; omega)
          have HR8 : Hid _ := hr8
          have HO8 : Hid _ := ho8
          have HB8 : Hid _ := b8
          obtain ⟨⟨x0, x1⟩, -⟩ := HC.out (wx := wr.drew) HB.out.drew
          clear hr8 ho8 hn8 b8
          go_wp2_with (at_builtin; refine Lib.wpList_append_run _ rfl _ _ _ _ rfl _ _ rfl rfl _ _ HR8.out ?_)
          clear x0 x1
          obtain ⟨⟨z0, z1⟩, z2, z3⟩ := HC.out HB8.out.drew
          go_region
          clear z0 z1 z2 z3
          go_wp2
          go_roundw
          case rel => exact ⟨k + 1, O ++ [x], a8, n8, c8, true, by go_num, by omega, rfl, rfl, (show Hid _ from HO8.out.keep1 (fun _ _ => rfl)), (show Hid _ from HB8.out.drew), by have h := HOl.out; unfold Hid; first | omega | (simp only [List.length_append, List.length_cons, List.length_nil]; omega), HP⟩
          case measure => simp only [intOf]; omega
      · have hne : y.1 ≠ x.1 := fun q => hle (by rw [q]; exact Nat.le_refl _)
        have HP : Hid ((O ++ [y]) ++ Tr.laid x gone (l.drop (k + 1)) false = Tr.after l x gone) := by
         have h := HD.out
         rw [if_neg (fun q => hle q.2), if_pos hne, decide_eq_false hle, Bool.or_false] at h
         unfold Hid
         simpa using h
        clear HD
        have leI : ¬ ((y.1.toNat : Int) ≥ (x.1.toNat : Int)) := by omega
        have leB : decide ((y.1.toNat : Int) ≥ (x.1.toNat : Int)) = false := decide_eq_false leI
        have neI : ¬ ((y.1.toNat : Int) = (x.1.toNat : Int)) := fun q => hne (UInt64.toNat_inj.1 (by omega))
        have neB : ((y.1.toNat : Int) == (x.1.toNat : Int)) = false := beq_eq_false_iff_ne.2 neI
        clear hne hle
        go_wp2_with fail
        obtain ⟨⟨z0, z1⟩, z2, z3⟩ := HC.out HB.out.drew
        go_region
        clear z0 z1 z2 z3
        go_wp2_with fail
        obtain ⟨⟨z0, z1⟩, z2, z3⟩ := HC.out HB.out.drew.drew
        go_region
        clear z0 z1 z2 z3
        obtain ⟨a9, n9, c9, w9, hr9, ho9, hn9, b9⟩ := after_more (w := wr.drew.drew) (HO.out.keep1 (fun _ _ => rfl)) HB.out.drew.drew y (by have := HO5.out; omega)
        have HR9 : Hid _ := hr9
        have HO9 : Hid _ := ho9
        have HB9 : Hid _ := b9
        obtain ⟨-, y0, y1⟩ := HC.out (wx := wr.drew.drew) HB.out.drew.drew
        clear hr9 ho9 hn9 b9
        go_wp2_with (at_builtin; refine Lib.wpList_append_run _ rfl _ _ _ _ rfl _ _ rfl rfl _ _ HR9.out ?_)
        clear y0 y1
        go_roundw
        case rel => exact ⟨k + 1, O ++ [y], a9, n9, c9, false, by go_num, by omega, rfl, rfl, HO9, HB9, by have h := HOl.out; unfold Hid; first | omega | (simp only [List.length_append, List.length_cons, List.length_nil]; omega), HP⟩
        case measure => simp only [intOf]; omega
  · have hkI : ¬ ((k : Int) < (n : Int)) := by omega
    have hkb : decide ((k : Int) < (n : Int)) = false := decide_eq_false hkI
    have HE : Hid (O ++ Tr.laid x gone [] done = Tr.after l x gone) := by have h := HA.out; rw [List.drop_of_length_le (by rw [HN.out]; omega)] at h; exact h
    have HO5 : Hid (O.length ≤ 999999) := by have := HOl.out; unfold Hid; omega
    clear HA
    cases done with
    | true =>
      have HF : Hid (O = Tr.after l x gone) := by have h := HE.out; rw [show Tr.laid x gone [] true = [] from rfl, List.append_nil] at h; exact h
      go_wp2
      go_ret
      exact ⟨oa, on_, oc, rfl, by rw [← HF.out]; exact HO.out.mono HB1.out.size, HB1.out.trans (HB.out.mono HB1.out.size)⟩
    | false =>
      have HF : Hid (O ++ [x] = Tr.after l x gone) := HE.out
      obtain ⟨a9, n9, c9, w9, hr9, ho9, hn9, b9⟩ := after_more HO.out HB.out x HO5.out
      have HR9 : Hid _ := hr9
      have x0 := (HB.out.cell (p := ⟨w.heap.size, 0, none⟩) HZ1.out).trans (HV1.out.cell (j := 0) rfl)
      have x1 := (HB.out.cell (p := ⟨w.heap.size, 1, none⟩) HZ1.out).trans (HV1.out.cell (j := 1) rfl)
      have HO9 : Hid _ := ho9
      have HB9 : Hid _ := b9
      clear hr9 ho9 hn9 b9
      go_wp2_with (at_builtin; refine Lib.wpList_append_run _ rfl _ _ _ _ rfl _ _ rfl rfl _ _ HR9.out ?_)
      go_ret
      exact ⟨a9, n9, c9, rfl, by rw [← HF.out]; exact HO9.out.mono HB1.out.size, HB1.out.trans (HB9.out.mono HB1.out.size)⟩
theorem sameBytes_any (w : World) (a b : Option Addr) (n c m d : Nat) (l k : List UInt8) (ha : IsB w a n l) (hb : IsB w b m k) :
 Calls Tryz.prog 45 #[.slice a n c, .slice b m d] w fun e w' => e = .returned (.bool (l == k)) ∧ w = w' := by
 have e1 := conv_bytes w a n c l ha
 have e2 := conv_bytes w b m d k hb
 clear ha hb
 go_enter Tryz.func45, Tryz.ntmps45
 go_wp2
 go_ret
 exact ⟨rfl, rfl⟩
theorem rSectors_at {w : World} {P : Nat → Prop} {a : Option Addr} {n c : Nat} {L : List (List UInt8)} (h : rSectors.rd w P [.slice a n c] L) (hn : 0 < n) :
 ∃ b off, a = some ⟨b, off, none⟩ ∧ P b ∧ b < w.heap.size ∧ ∀ (j : Nat) (hj : j < L.length), ∃ x m d, w.cell? ⟨b, off + j, none⟩ = some (.slice x m d) ∧ rBytes.rd w P [.slice x m d] L[j] := by
 obtain ⟨b, off, e1, e2, e3, e4⟩ := rList_at h hn
 refine ⟨b, off, e1, e2, e3, fun j hj => ?_⟩
 obtain ⟨cj, g1, g2⟩ := e4 j hj
 have g1' := g1
 obtain ⟨x, m, d, rfl, -⟩ := g1
 have := g2 0 (.slice x m d) rfl
 rw [show j * rBytes.size + 0 = j from by show j * 1 + 0 = j; omega] at this
 exact ⟨x, m, d, this, g1'⟩
set_option maxHeartbeats 4000000 in
theorem kept_u (w : World) (P Q : Nat → Prop) (a b : Option Addr) (n c m d : Nat) (s t : Pgs) (hS : rSectors.rd w P [.slice a n c] s) (hT : rSectors.rd w Q [.slice b m d] t) (hK : Tr.Ext s t) :
 Calls Tryz.prog 28 #[.agg #[.slice a n c], .agg #[.slice b m d]] w fun e w' => e = .returned (.bool true) ∧ Below w.heap.size w w' := by
 obtain ⟨w0, hw0, V0, b0, z0⟩ := boxedRow w 24 [.slice a n c]
 obtain ⟨w1, hw1, V1, b1, z1⟩ := boxedRow w0 26 [.slice b m d]
 rw [z0] at V1
 have HB1 : Hid (Below w.heap.size w w1) := on b0 b1
 have HV0 : Hid (Row w1 w.heap.size 24 [.slice a n c]) := V0.below b1
 have HV1 : Hid _ := V1
 have HS : Hid (rSectors.rd w1 P [.slice a n c] s) := Rep.below hS HB1.out
 have HT : Hid (rSectors.rd w1 Q [.slice b m d] t) := Rep.below hT HB1.out
 have HN : Hid (s.length = n) := (rList_len hS).1
 have HM : Hid (t.length = m) := (rList_len hT).1
 have hn5 : n ≤ 5864062014634 := by have h : n * 24 ≤ 140737488351232 := (rList_len hS).2.2.2; omega
 have hnm : n ≤ m := by rw [← HN.out, ← HM.out]; exact hK.len
 have hmn : ¬ ((m : Int) < (n : Int)) := by omega
 have hmb : decide ((m : Int) < (n : Int)) = false := decide_eq_false hmn
 have HK : Hid _ := hK
 have c0 := HV0.out.cell (j := 0) rfl
 have c1 := HV1.out.cell (j := 0) rfl
 clear V0 V1 b0 b1 z1 hS hT hK
 go_enter Tryz.func28, Tryz.ntmps28
 go_wp2
 go_loopw [5] (fun i wr => ∃ k : Nat, i = .int .i64 (k : Int) ∧ k ≤ n ∧ Hid (Below w1.heap.size w1 wr)) (fun i _ => ((n : Int) - intOf i).toNat)
 case atStart => exact ⟨0, rfl, Nat.zero_le _, Below.refl _ _⟩
 case round =>
  clear c0 c1
  obtain ⟨k, rfl, hkn, HB⟩ := hrel
  have c0 := (HV0.out.below HB.out).cell (j := 0) rfl
  by_cases hk : k < n
  · have hkI : (k : Int) < (n : Int) := by omega
    have hkb : decide ((k : Int) < (n : Int)) = true := decide_eq_true hkI
    have hk0 : (0 : Int) ≤ (k : Int) := Int.natCast_nonneg _
    have hkm : (k : Int) < (m : Int) := by omega
    have hwk : IntKind.i64.wrap ((k : Int) + 1) = ((k + 1 : Nat) : Int) := by rw [IntKind.wrap_i64]; omega
    have hks : k < s.length := by rw [HN.out]; exact hk
    have hkt : k < t.length := by rw [HM.out]; omega
    obtain ⟨gs, os_, rfl, -, hgs, hats⟩ := rSectors_at HS.out (by omega)
    obtain ⟨gt, ot, rfl, -, hgt, hatt⟩ := rSectors_at HT.out (by omega)
    obtain ⟨sa, sn, sc, d0, hsr⟩ := hats k hks
    obtain ⟨ta, tn, tc, d1, htr⟩ := hatt k hkt
    have HC : Hid (∀ {wx : World}, Below w1.heap.size w1 wx → (wx.cell? ⟨w.heap.size, 0, none⟩ = some (.slice (some ⟨gs, os_, none⟩) n c) ∧ wx.cell? ⟨w.heap.size + 1, 0, none⟩ = some (.slice (some ⟨gt, ot, none⟩) m d)) ∧ wx.cell? ⟨gs, os_ + k, none⟩ = some (.slice sa sn sc) ∧ wx.cell? ⟨gt, ot + k, none⟩ = some (.slice ta tn tc)) := fun b =>
     ⟨⟨(HV0.out.below b).cell (j := 0) rfl, (HV1.out.below b).cell (j := 0) rfl⟩, (b.cell (p := ⟨gs, os_ + k, none⟩) hgs).trans d0, (b.cell (p := ⟨gt, ot + k, none⟩) hgt).trans d1⟩
    have HSn : Hid (s[k].length = sn) := (rBytes_isB hsr).1.1
    have HSr : Hid (rBytes.rd wr P [.slice sa sn sc] s[k]) := Rep.below hsr HB.out
    have HTr : Hid (rBytes.rd wr Q [.slice ta tn tc] t[k]) := Rep.below htr HB.out
    clear hats hatt d0 d1 hsr htr hgs hgt
    by_cases h0 : sn = 0
    · subst h0
      have hz : ¬ ((0 : Int) > 0) := by omega
      go_wp2_with fail
      refine wp_region_held_drew (S := (fun w' : World => (w'.cell? ⟨w.heap.size, 0, none⟩ = some (.slice (some ⟨gs, os_, none⟩) n c) ∧ w'.cell? ⟨w.heap.size + 1, 0, none⟩ = some (.slice (some ⟨gt, ot, none⟩) m d)) ∧ w'.cell? ⟨gs, os_ + k, none⟩ = some (.slice sa 0 sc) ∧ w'.cell? ⟨gt, ot + k, none⟩ = some (.slice ta tn tc))) (by kernel_rfl) (HC.out HB.out.drew) (fun hH => ?_)
      refine tkL 0 ?_ rfl rfl (Or.inl ⟨by rfl, ?_⟩) ?_; rotate_left
      · intro w h; (try dsimp only at h); go_simp; all_goals with_reducible rfl
      simp only [sz, ss]
      refine tkL 1 ?_ rfl rfl (Or.inl ⟨by rfl, ?_⟩) ?_; rotate_left
      · intro w h; (try dsimp only at h); go_simp; all_goals with_reducible rfl
      simp only [sz, ss]
      refine tkL 2 ?_ rfl rfl (Or.inl ⟨by rfl, ?_⟩) ?_; rotate_left
      · intro w h; (try dsimp only at h); go_simp; all_goals with_reducible rfl
      simp only [sz, ss]
      refine tkL 3 ?_ rfl rfl (Or.inl ⟨by rfl, ?_⟩) ?_; rotate_left
      · intro w h; (try dsimp only at h); go_simp; all_goals with_reducible rfl
      simp only [sz, ss]
      refine tkL 4 ?_ rfl rfl (Or.inl ⟨by rfl, ?_⟩) ?_; rotate_left
      · intro w h; (try dsimp only at h); go_simp; all_goals with_reducible rfl
      simp only [sz, ss]
      refine tkL 5 ?_ rfl rfl (Or.inl ⟨by rfl, ?_⟩) ?_; rotate_left
      · intro w h; (try dsimp only at h); go_simp; all_goals with_reducible rfl
      simp only [sz, ss]
      refine tkL 6 ?_ rfl rfl (Or.inl ⟨by rfl, ?_⟩) ?_; rotate_left
      · intro w h; (try dsimp only at h); go_simp; all_goals with_reducible rfl
      simp only [sz, ss]
      refine tkL 7 ?_ rfl rfl (Or.inl ⟨by rfl, ?_⟩) ?_; rotate_left
      · intro w h; (try dsimp only at h); go_simp; all_goals with_reducible rfl
      simp only [sz, ss]
      refine wpAnyH_passL (i := 8) rfl rfl (by kernel_rfl) (by kernel_rfl) (by kernel_rfl) (by rfl) (fun _ _ _ h => h) (by assumption) ?_
      simp only [sz, ss]
      refine wpAnyH_passL (i := 9) rfl rfl (by kernel_rfl) (by kernel_rfl) (by kernel_rfl) (by rfl) (fun _ _ _ h => h) (by assumption) ?_
      simp only [sz, ss]
      refine wpAnyH_passL (i := 10) rfl rfl (by kernel_rfl) (by kernel_rfl) (by kernel_rfl) (by rfl) (fun _ _ _ h => h) (by assumption) ?_
      simp only [sz, ss]
      refine wpAnyH_passL (i := 11) rfl rfl (by kernel_rfl) (by kernel_rfl) (by kernel_rfl) (by rfl) (fun _ _ _ h => h) (by assumption) ?_
      simp only [sz, ss]
      refine wpAnyH_passL (i := 12) rfl rfl (by kernel_rfl) (by kernel_rfl) (by kernel_rfl) (by rfl) (fun _ _ _ h => h) (by assumption) ?_
      simp only [sz, ss]
      refine wpAnyH_passL (i := 13) rfl rfl (by kernel_rfl) (by kernel_rfl) (by kernel_rfl) (by rfl) (fun _ _ _ h => h) (by assumption) ?_
      simp only [sz, ss]
      refine wpAnyH_passL (i := 14) rfl rfl (by kernel_rfl) (by kernel_rfl) (by kernel_rfl) (by rfl) (fun _ _ _ h => h) (by assumption) ?_
      simp only [sz, ss]
      refine wpAnyH_passL (i := 15) rfl rfl (by kernel_rfl) (by kernel_rfl) (by kernel_rfl) (by rfl) (fun _ _ _ h => h) (by assumption) ?_
      simp only [sz, ss]
      refine wpAnyH_passL (i := 16) rfl rfl (by kernel_rfl) (by kernel_rfl) (by kernel_rfl) (by rfl) (fun _ _ _ h => h) (by assumption) ?_
      simp only [sz, ss]
      refine wpAnyH_passL (i := 17) rfl rfl (by kernel_rfl) (by kernel_rfl) (by kernel_rfl) (by rfl) (fun _ _ _ h => h) (by assumption) ?_
      simp only [sz, ss]
      refine wpAnyH_passL (i := 18) rfl rfl (by kernel_rfl) (by kernel_rfl) (by kernel_rfl) (by rfl) (fun _ _ _ h => h) (by assumption) ?_
      simp only [sz, ss]
      refine wpAnyH_passL (i := 19) rfl rfl (by kernel_rfl) (by kernel_rfl) (by kernel_rfl) (by rfl) (fun _ _ _ h => h) (by assumption) ?_
      simp only [sz, ss]
      refine tkL 20 ?_ rfl rfl (Or.inl ⟨by rfl, ?_⟩) ?_; rotate_left
      · intro w h; (try dsimp only at h); go_simp; all_goals with_reducible rfl
      simp only [sz, ss]
      refine wpAnyH_done (by kernel_rfl) ?_ _
      clear hH
      go_wp2
      go_roundw
      case rel => exact ⟨k + 1, by go_num, by omega, HB.out.drew⟩
      case measure => simp only [intOf]; omega
    · have hz : (sn : Int) > 0 := by omega
      have hzb : decide ((sn : Int) > 0) = true := decide_eq_true hz
      have hzn : 0 < sn := by omega
      have hznb : decide (0 < sn) = true := decide_eq_true hzn
      have HEq : Hid ((s[k] == t[k]) = true) := by
       have hp : Tr.page s ((k : Int) + 1) = s[k] := by unfold Tr.page; rw [show ((k : Int) + 1).toNat - 1 = k by omega, List.getD_eq_getElem?_getD, List.getElem?_eq_getElem hks]; rfl
       have hq : Tr.page t ((k : Int) + 1) = t[k] := by unfold Tr.page; rw [show ((k : Int) + 1).toNat - 1 = k by omega, List.getD_eq_getElem?_getD, List.getElem?_eq_getElem hkt]; rfl
       have h := HK.out.same ((k : Int) + 1) (by omega) (by rw [hp]; intro e; have h9 := HSn.out; rw [e] at h9; exact h0 h9.symm)
       rw [hp, hq] at h
       unfold Hid
       rw [h]
       simp
      go_wp2_with fail
      refine wp_region_held_drew (S := (fun w' : World => (w'.cell? ⟨w.heap.size, 0, none⟩ = some (.slice (some ⟨gs, os_, none⟩) n c) ∧ w'.cell? ⟨w.heap.size + 1, 0, none⟩ = some (.slice (some ⟨gt, ot, none⟩) m d)) ∧ w'.cell? ⟨gs, os_ + k, none⟩ = some (.slice sa sn sc) ∧ w'.cell? ⟨gt, ot + k, none⟩ = some (.slice ta tn tc))) (by kernel_rfl) (HC.out HB.out.drew) (fun hH => ?_)
      refine tkL 0 ?_ rfl rfl (Or.inl ⟨by rfl, ?_⟩) ?_; rotate_left
      · intro w h; (try dsimp only at h); go_simp; all_goals with_reducible rfl
      simp only [sz, ss]
      refine tkL 1 ?_ rfl rfl (Or.inl ⟨by rfl, ?_⟩) ?_; rotate_left
      · intro w h; (try dsimp only at h); go_simp; all_goals with_reducible rfl
      simp only [sz, ss]
      refine tkL 2 ?_ rfl rfl (Or.inl ⟨by rfl, ?_⟩) ?_; rotate_left
      · intro w h; (try dsimp only at h); go_simp; all_goals with_reducible rfl
      simp only [sz, ss]
      refine tkL 3 ?_ rfl rfl (Or.inl ⟨by rfl, ?_⟩) ?_; rotate_left
      · intro w h; (try dsimp only at h); go_simp; all_goals with_reducible rfl
      simp only [sz, ss]
      refine tkL 4 ?_ rfl rfl (Or.inl ⟨by rfl, ?_⟩) ?_; rotate_left
      · intro w h; (try dsimp only at h); go_simp; all_goals with_reducible rfl
      simp only [sz, ss]
      refine tkL 5 ?_ rfl rfl (Or.inl ⟨by rfl, ?_⟩) ?_; rotate_left
      · intro w h; (try dsimp only at h); go_simp; all_goals with_reducible rfl
      simp only [sz, ss]
      refine tkL 6 ?_ rfl rfl (Or.inl ⟨by rfl, ?_⟩) ?_; rotate_left
      · intro w h; (try dsimp only at h); go_simp; all_goals with_reducible rfl
      simp only [sz, ss]
      refine tkL 7 ?_ rfl rfl (Or.inl ⟨by rfl, ?_⟩) ?_; rotate_left
      · intro w h; (try dsimp only at h); go_simp; all_goals with_reducible rfl
      simp only [sz, ss]
      refine tkL 8 ?_ rfl rfl (Or.inl ⟨by rfl, ?_⟩) ?_; rotate_left
      · intro w h; (try dsimp only at h); go_simp; all_goals with_reducible rfl
      simp only [sz, ss]
      refine tkL 9 ?_ rfl rfl (Or.inl ⟨by rfl, ?_⟩) ?_; rotate_left
      · intro w h; (try dsimp only at h); go_simp; all_goals with_reducible rfl
      simp only [sz, ss]
      refine tkL 10 ?_ rfl rfl (Or.inl ⟨by rfl, ?_⟩) ?_; rotate_left
      · intro w h; (try dsimp only at h); go_simp; all_goals with_reducible rfl
      simp only [sz, ss]
      refine tkL 11 ?_ rfl rfl (Or.inl ⟨by rfl, ?_⟩) ?_; rotate_left
      · intro w h; (try dsimp only at h); go_simp; all_goals with_reducible rfl
      simp only [sz, ss]
      refine tkL 12 ?_ rfl rfl (Or.inl ⟨by rfl, ?_⟩) ?_; rotate_left
      · intro w h; (try dsimp only at h); go_simp; all_goals with_reducible rfl
      simp only [sz, ss]
      refine tkL 13 ?_ rfl rfl (Or.inl ⟨by rfl, ?_⟩) ?_; rotate_left
      · intro w h; (try dsimp only at h); go_simp; all_goals with_reducible rfl
      simp only [sz, ss]
      refine tkL 14 ?_ rfl rfl (Or.inl ⟨by rfl, ?_⟩) ?_; rotate_left
      · intro w h; (try dsimp only at h); go_simp; all_goals with_reducible rfl
      simp only [sz, ss]
      refine tkL 15 ?_ rfl rfl (Or.inl ⟨by rfl, ?_⟩) ?_; rotate_left
      · intro w h; (try dsimp only at h); go_simp; all_goals with_reducible rfl
      simp only [sz, ss]
      refine tkL 16 ?_ rfl rfl (Or.inl ⟨by rfl, ?_⟩) ?_; rotate_left
      · intro w h; (try dsimp only at h); go_simp; all_goals with_reducible rfl
      simp only [sz, ss]
      refine tkL 17 ?_ rfl rfl (Or.inl ⟨by rfl, ?_⟩) ?_; rotate_left
      · intro w h; (try dsimp only at h); go_simp; all_goals with_reducible rfl
      simp only [sz, ss]
      refine wpAnyH_ready (rs := [18]) (by kernel_rfl) (by simp) ?_
      refine AllReadyH.cons rfl (fun K hK => ?_) ?_
      · go_simp
        go_at_call 45
        refine Calls.mono (sameBytes_any _ _ _ _ _ _ _ _ _ (rBytes_isB (Rep.below HSr.out (Below.refl _ wr).drew)).1 (rBytes_isB (Rep.below HTr.out (Below.refl _ wr).drew)).1) ?_
        rintro e w99 ⟨rfl, rfl⟩
        rw [HEq.out]
        go_simp
        refine hK.out _ _ ?_ (fun hH => ?_)
        · try dsimp only
          exact HC.out HB.out.drew
        clear hK K
        refine tkL 19 ?_ rfl rfl (Or.inl ⟨by rfl, ?_⟩) ?_; rotate_left
        · intro w h; (try dsimp only at h); go_simp; all_goals with_reducible rfl
        simp only [sz, ss]
        refine tkL 20 ?_ rfl rfl (Or.inl ⟨by rfl, ?_⟩) ?_; rotate_left
        · intro w h; (try dsimp only at h); go_simp; all_goals with_reducible rfl
        simp only [sz, ss]
        refine wpAnyH_done (by kernel_rfl) ?_ _
        clear hH
        go_wp2
        go_roundw
        case rel => exact ⟨k + 1, by go_num, by omega, HB.out.drew⟩
        case measure => simp only [intOf]; omega
      exact AllReadyH.nil
  · have hkI : ¬ ((k : Int) < (n : Int)) := by omega
    have hkb : decide ((k : Int) < (n : Int)) = false := decide_eq_false hkI
    go_wp2
    go_ret
    exact ⟨rfl, HB1.out.trans (HB.out.mono HB1.out.size)⟩
set_option maxHeartbeats 800000 in
theorem sameList_r (w : World) (P Q : Nat → Prop) (a b : Option Addr) (n c m d : Nat) (L K : List (List UInt8)) (hA : rSectors.rd w P [.slice a n c] L) (hB : rSectors.rd w Q [.slice b m d] K) :
 Calls Tryz.prog 22 #[.slice a n c, .slice b m d] w fun e w' => e = .returned (.bool (L == K)) ∧ Below w.heap.size w w' := by
 obtain ⟨hn, hn2⟩ := rSectors_len hA
 obtain ⟨hm, hm2⟩ := rSectors_len hB
 have HN : Hid _ := hn
 have HM : Hid _ := hm
 clear hn hm
 by_cases hnm : n = m
 case neg =>
  have hf : (L == K) = false := beq_eq_false_iff_ne.2 (fun e => hnm (by rw [← HN.out, ← HM.out, e]))
  have hne : ((n : Int) != (m : Int)) = true := bne_iff_ne.2 (by omega)
  rw [hf]
  go_enter Tryz.func22, Tryz.ntmps22
  go_wp2
  go_ret
  exact ⟨rfl, Below.refl _ _⟩
 subst hnm
 go_enter Tryz.func22, Tryz.ntmps22
 go_wp2
 go_loopw [5] (fun i wr => ∃ k : Nat, k ≤ n ∧ i = .int .i64 k ∧ Hid (L.take k = K.take k) ∧ Below w.heap.size w wr) (fun i _ => n - (intOf i).toNat)
 case atStart => exact ⟨0, Nat.zero_le _, rfl, by unfold Hid; simp, Below.refl _ _⟩
 case round =>
  obtain ⟨k, hk, rfl, HK, bel⟩ := hrel
  by_cases hlt : k < n
  · have hAr := Rep.below hA bel
    have hBr := Rep.below hB bel
    obtain ⟨g, off, rfl, -, -, hat⟩ := rLists_at hAr (by omega)
    obtain ⟨g', off', rfl, -, -, hbt⟩ := rLists_at hBr (by omega)
    have hkl : k < L.length := by rw [HN.out]; exact hlt
    have hkk : k < K.length := by rw [HM.out]; exact hlt
    obtain ⟨x, l, e, hx, -, hcell⟩ := hat k hkl
    obtain ⟨x', l', e', hx', -, hcell'⟩ := hbt k hkk
    have e1 := conv_bytes wr.drew x l e _ (rBytes_isB hx).1
    have e2 := conv_bytes wr.drew x' l' e' _ (rBytes_isB hx').1
    have HNX : Hid (L.take (k + 1) = L.take k ++ [L[k]]) := List.take_succ_eq_append_getElem hkl
    have HNK : Hid (K.take (k + 1) = K.take k ++ [K[k]]) := List.take_succ_eq_append_getElem hkk
    have HNE : Hid (L[k] ≠ K[k] → L ≠ K) := fun h e => h (by subst e; rfl)
    clear hat hbt hx hx' hAr hBr
    generalize L[k] = X at *
    generalize K[k] = Y at *
    go_wp2
    go_cut [27] (fun t wx => t = .bool (X != Y) ∧ wx = wr.drew)
    case first =>
     go_region_with fail
     all_goals (try go_wp2_with fail)
     all_goals go_meet
     all_goals exact ⟨rfl, rfl⟩
    case rest =>
     obtain ⟨rfl, rfl⟩ := hcut
     clear e1 e2 hcell hcell'
     by_cases hxy : X = Y
     · have hne : (X != Y) = false := by rw [hxy]; exact bne_self_eq_false _
       have HXY : Hid _ := hxy
       rw [hne]
       clear hxy hne
       go_wp2
       go_roundw
       case rel => exact ⟨k + 1, by omega, by go_num, by unfold Hid; rw [HNX.out, HNK.out, HK.out, HXY.out], bel.drew⟩
       case measure => simp [intOf]; omega
     · have hne : (X != Y) = true := bne_iff_ne.2 hxy
       have HF : Hid ((L == K) = false) := beq_eq_false_iff_ne.2 (HNE.out hxy)
       rw [hne]
       clear hxy hne
       go_wp2
       go_ret
       exact ⟨by rw [HF.out]; rfl, bel.drew⟩
  · obtain rfl : k = n := by omega
    have e : L = K := by
     have := HK.out
     rwa [List.take_of_length_le (by rw [HN.out]; exact Nat.le_refl _), List.take_of_length_le (by rw [HM.out]; exact Nat.le_refl _)] at this
    have E : Hid _ := e
    clear e
    go_wp2
    go_ret
    exact ⟨by rw [E.out]; simp, bel⟩
end Go.Proofs.YtgbbkmdfangmmaaGreat
