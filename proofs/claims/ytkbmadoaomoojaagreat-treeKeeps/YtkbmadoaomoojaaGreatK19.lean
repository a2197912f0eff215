/-
  Facts that the proof rests on, part 20. Conditions: those that each of them names.
-/
import Derived.Test.YtkbmadoaomoojaaGreatK00
import Derived.Test.YtkbmadoaomoojaaGreatK05
import Derived.Test.YtkbmadoaomoojaaGreatK06
import Derived.Test.YtkbmadoaomoojaaGreatK13
import Derived.Test.YtkbmadoaomoojaaGreatK15
import Derived.Test.YtkbmadoaomoojaaGreatK16
import Derived.Test.YtkbmadoaomoojaaGreatK17
import Derived.Test.YtkbmadoaomoojaaGreatK18
namespace Go.Proofs.YtkbmadoaomoojaaGreat
set_option maxRecDepth 20000
open Go.RowKit
set_option linter.unusedVariables false
theorem fits8 (x : UInt64) : x.toNat < 256 ^ 8 := by
 have := x.toNat_lt
 simpa using this
theorem kept_below {B gA gS : Nat} {w0 w w' : World} (h : Below B w0 w) (k : Kept (fun b => b < w.heap.size ∧ b ≠ gA ∧ b ≠ gS) w w') (hB : B ≤ w.heap.size) (ha : B ≤ gA) (hs : B ≤ gS) : Below B w0 w' :=
 h.trans ⟨k.os, k.tape, k.output, k.size, fun b hb => k.block b ⟨by omega, by omega, by omega⟩⟩
theorem kind_lt (n : Nod) : (Lf.kind n).toNat < 256 ^ 1 := by
 have := (Lf.kind n).toNat_lt
 simpa using this
set_option maxRecDepth 20000 in
set_option maxHeartbeats 8000000 in
theorem encode_leaf (w : World) (P P' : Nat → Prop) (a a' : Option Addr) (n c n' c' : Nat) (l : List Itm) (ks : List Int) (hL : rItms.rd w P [.slice a n c] l) (hK : rKids.rd w P' [.slice a' n' c'] ks) (hok : Lf.ok (l, ks) = true) (hlf : Lf.isLeaf (l, ks) = true) :
 Calls Tryz.prog 104 #[.agg #[.slice a n c, .slice a' n' c']] w fun e w' => ∃ b d, e = .returned (.tuple #[.slice b 64 d, .int .i64 0]) ∧ w'.ownsRow w.heap.size 5 1 (.slice b 64 d) 64 (cellsOf (Lf.enc (l, ks))) ∧ Below w.heap.size w w' := by
 have HOK : Hid _ := Lf.ok_iff.1 hok
 have HE0 : Hid (Lf.encodeE (l, ks) = 0) := if_pos hok
 have HLf : Hid _ := hlf
 have HR : Hid _ := hL
 have HK : Hid _ := hK
 have HN : Hid (l.length = n) := (rList_len hL).1
 have HN' : Hid (ks.length = n') := (rList_len hK).1
 have hn1 : 1 ≤ n := by have := HOK.out.some_; have e := HN.out; simp only at this; omega
 have hn3 : n ≤ 3 := by have := HOK.out.few; have e := HN.out; simp only at this; omega
 have hz0 : n' = 0 := by have := Lf.leaf_iff.1 hlf; rw [← HN'.out]; exact this
 have HKnil : Hid (ks = []) := List.length_eq_zero_iff.1 (HN'.out.trans hz0)
 have hz1 : n' ≤ 0 := by omega
 clear hz0
 obtain ⟨w0, hw0, V0, b0, z0⟩ := boxedRow w 63 [.slice a n c, .slice a' n' c']
 have HV0 : Hid _ := V0
 have B0 : Hid _ := b0
 clear hL hK V0 b0 z0 hok hlf
 go_enter Tryz.func104, Tryz.ntmps104
 obtain ⟨r0, r1⟩ := HV0.out.two
 go_wp2_with fail
 refine (check_u _ P P' a a' n c n' c' l ks (Rep.below HR.out B0.out) (Rep.below HK.out B0.out)).mono ?_
 rintro e w1 ⟨rfl, b1⟩
 rw [HE0.out]
 have HV1 : Hid _ := HV0.out.below b1
 have B1 : Hid _ := on B0.out b1
 clear r0 r1 b1
 go_wp2_with (at_make; refine make_row _ rfl _ _ 53 rfl 5 (.int .u8 0) 1 Tryz.underlying53 info_u8 rfl 60 _ rfl rfl rfl (by decide) (by decide) ?_
              intro w2 HR2 b2 z2
              obtain ⟨w3, hw3, V3, b3, z3⟩ := boxedRow w2 53 [.slice (some ⟨w1.heap.size, 0, none⟩) 60 60]
              obtain ⟨w4, hw4, V4, b4, z4⟩ := boxedRow w3 3 [.int .i64 0]
              rw [z2] at V3 z3
              rw [z3] at V4
              have f4 := V4.frozen 0
              have c4 := V4.cell (j := 0) rfl
              obtain ⟨w5, hw5⟩ : ∃ w5, w4.setCell ⟨w1.heap.size + 1 + 1, 0, none⟩ (.int .i64 0) = w5 := ⟨_, rfl⟩
              have HP5 : Hid (Puts (w1.heap.size + 1 + 1) (w1.heap.size + 1) w1.heap.size w5 [] 0) := (by rw [← hw5]; exact ⟨rfl, V4.set 0 (.int .i64 0), (V3.below b4).setO (p := ⟨w1.heap.size + 1 + 1, 0, none⟩) (by show w1.heap.size + 1 + 1 ≠ _; omega) _, ((HR2.out.below b3).below b4).setO (p := ⟨w1.heap.size + 1 + 1, 0, none⟩) (by show w1.heap.size + 1 + 1 ≠ _; omega) _⟩)
              have B5 : Hid (Below w1.heap.size w1 w5) := (by rw [← hw5]; exact (on (on b2 b3) b4).setCell (p := ⟨w1.heap.size + 1 + 1, 0, none⟩) (by show w1.heap.size ≤ w1.heap.size + 1 + 1; omega) _)
              obtain ⟨r0, r1⟩ := (HV1.out.below B5.out).two
              clear V3 V4 b2 b3 b4 HR2 z4)
 refine (kindOf_u _ _ a' n' c' l ks HN'.out).mono ?_
 rintro e w6 ⟨rfl, b6⟩
 have HP6 : Hid _ := HP5.out.below b6
 have B6 : Hid _ := on B5.out b6
 clear r0 r1 b6 HP5 B5 c4 f4 hw3 hw4 hw5 z2 z3
 obtain ⟨r0, r1⟩ := (HV1.out.below B6.out).two
 go_wp2_with fail
 refine (put_c _ (w1.heap.size + 1 + 1) (w1.heap.size + 1) w1.heap.size (by omega) (by omega) (by omega) _ _ HP6.out (Lf.kind (l, ks)).toNat 1 _ _ rfl rfl (by decide) (by decide) (kind_lt _) (by omega)).mono ?_
 rintro e w7 ⟨rfl, hp7, k7⟩
 have B7 : Hid (Below w1.heap.size w1 w7) := kept_below B6.out k7 B6.out.size (by omega) (by omega)
 have HP7 : Hid _ := hp7
 clear r0 r1 hp7 k7 HP6 B6
 obtain ⟨r0, r1⟩ := (HV1.out.below B7.out).two
 go_wp2_with fail
 refine (put_c _ (w1.heap.size + 1 + 1) (w1.heap.size + 1) w1.heap.size (by omega) (by omega) (by omega) _ _ HP7.out n 1 _ _ rfl rfl (by decide) (by decide) (Nat.lt_of_le_of_lt hn3 (by decide)) (by omega)).mono ?_
 rintro e w8 ⟨rfl, hp8, k8⟩
 have B8 : Hid (Below w1.heap.size w1 w8) := kept_below B7.out k8 B7.out.size (by omega) (by omega)
 have HP8 : Hid _ := hp8
 clear r0 r1 hp8 k8 HP7 B7
 obtain ⟨r0, r1⟩ := (HV1.out.below B8.out).two
 go_wp2_with fail
 refine (put_c _ (w1.heap.size + 1 + 1) (w1.heap.size + 1) w1.heap.size (by omega) (by omega) (by omega) _ _ HP8.out 0 2 _ _ rfl rfl (by decide) (by decide) (by decide) (by omega)).mono ?_
 rintro e w9 ⟨rfl, hp9, k9⟩
 have B9 : Hid (Below w1.heap.size w1 w9) := kept_below B8.out k9 B8.out.size (by omega) (by omega)
 have HP9 : Hid (Puts (w1.heap.size + 1 + 1) (w1.heap.size + 1) w1.heap.size w9 (Lf.heads (l, ks)) 4) := by
  have h : Puts (w1.heap.size + 1 + 1) (w1.heap.size + 1) w1.heap.size w9 (Oct.octs (Lf.kind (l, ks)).toNat 1 ++ Oct.octs n 1 ++ Oct.octs 0 2) 4 := hp9
  rw [← HN.out] at h
  exact h
 clear r0 r1 hp9 k9 HP8 B8
 obtain ⟨r0, r1⟩ := (HV1.out.below B9.out).two
 go_wp2
 clear r0 r1
 go_loopw [36] (fun i wr => ∃ (k p : Nat), k ≤ n ∧ i = .int .i64 k ∧ p ≤ 28 ∧ Hid (p = 4 + 8 * k) ∧ Hid (Puts (w1.heap.size + 1 + 1) (w1.heap.size + 1) w1.heap.size wr (Lf.heads (l, ks) ++ (l.take k).flatMap Lf.key8) p) ∧ Below w1.heap.size w1 wr) (fun i _ => n - (intOf i).toNat)
 case atStart => exact ⟨0, 4, Nat.zero_le _, rfl, by omega, rfl, by rw [List.take_zero, List.flatMap_nil, List.append_nil]; exact HP9, B9.out⟩
 case round =>
  obtain ⟨k, p, hk, rfl, hp, HC, HP, bel⟩ := hrel
  by_cases hlt : k < n
  · have hkl : k < l.length := by rw [HN.out]; exact hlt
    have BW : Hid _ := on B1.out bel
    obtain ⟨g, off, rfl, -, -, hat⟩ := rItms_at (Rep.below HR.out BW.out) (by omega)
    obtain ⟨c0, c1⟩ := hat k hkl
    have hkz : (k : Int) < (n : Int) := by omega
    obtain ⟨w3, hw3, V3, b3, z3⟩ := boxedRow wr 45 [.int .u64 (l[k].1.toNat : Int), .int .u64 (l[k].2.toNat : Int)]
    obtain ⟨y0, y1⟩ := V3.two
    have HP3 : Hid _ := HP.out.below b3
    have B3 : Hid (Below w1.heap.size w1 w3) := on bel b3
    clear V3 b3 z3 HP
    clear hat bel
    go_wp2_with fail
    refine (put_c _ (w1.heap.size + 1 + 1) (w1.heap.size + 1) w1.heap.size (by omega) (by omega) (by omega) _ _ HP3.out (l[k].1.toNat) 8 _ _ rfl rfl (by decide) (by decide) (fits8 _) (by omega)).mono ?_
    rintro e w4 ⟨rfl, hp4, k4⟩
    have B4 : Hid (Below w1.heap.size w1 w4) := kept_below B3.out k4 B3.out.size (by omega) (by omega)
    have HP4 : Hid (Puts (w1.heap.size + 1 + 1) (w1.heap.size + 1) w1.heap.size w4 (Lf.heads (l, ks) ++ (l.take (k + 1)).flatMap Lf.key8) (p + 8)) := by
     rw [Lf.flat_next _ hkl, ← List.append_assoc]
     exact hp4
    have HC4 : Hid (p + 8 = 4 + 8 * (k + 1)) := by have := HC.out; unfold Hid; omega
    have hp4b : p + 8 ≤ 28 := by have := HC4.out; omega
    clear hp4 k4 HP3
    go_wp2
    go_roundw
    case rel => exact ⟨k + 1, p + 8, by omega, by go_num, hp4b, HC4, HP4, B4.out⟩
    case measure => simp [intOf]; omega
  · obtain rfl : n = k := by omega
    have HPf : Hid (Puts (w1.heap.size + 1 + 1) (w1.heap.size + 1) w1.heap.size wr (Lf.heads (l, ks) ++ l.flatMap Lf.key8) p) := by have h := HP.out; rw [List.take_of_length_le (by rw [HN.out]; exact Nat.le_refl _)] at h; exact h
    clear HP
    obtain ⟨r0, r1⟩ := (HV1.out.below bel).two
    have BL : Hid _ := bel
    clear bel
    go_wp2_with fail
    refine (isLeaf_u _ _ a' n' c' l ks HN'.out).mono ?_
    rintro e w5 ⟨rfl, b5⟩
    rw [HLf.out]
    have bel : Below w1.heap.size w1 w5 := on BL.out b5
    have HP5 : Hid _ := HPf.out.below b5
    clear b5 BL HPf r0 r1
    obtain ⟨r0, r1⟩ := (HV1.out.below bel).two
    go_wp2
    go_loopw [50] (fun i wr => ∃ (k p : Nat), k ≤ n ∧ i = .int .i64 k ∧ p ≤ 52 ∧ Hid (p = 4 + 8 * n + 8 * k) ∧ Hid (Puts (w1.heap.size + 1 + 1) (w1.heap.size + 1) w1.heap.size wr (Lf.heads (l, ks) ++ l.flatMap Lf.key8 ++ (l.take k).flatMap Lf.val8) p) ∧ Below w1.heap.size w1 wr) (fun i _ => n - (intOf i).toNat)
    case atStart => exact ⟨0, p, Nat.zero_le _, rfl, by omega, HC, by rw [List.take_zero, List.flatMap_nil, List.append_nil]; exact HP5, bel⟩
    case round =>
     obtain ⟨k, p, hk, rfl, hp, HC, HP, bel⟩ := hrel
     by_cases hlt : k < n
     · have hkl : k < l.length := by rw [HN.out]; exact hlt
       have BW : Hid _ := on B1.out bel
       obtain ⟨g, off, rfl, -, -, hat⟩ := rItms_at (Rep.below HR.out BW.out) (by omega)
       obtain ⟨c0, c1⟩ := hat k hkl
       have hkz : (k : Int) < (n : Int) := by omega
       obtain ⟨w3, hw3, V3, b3, z3⟩ := boxedRow wr 45 [.int .u64 (l[k].1.toNat : Int), .int .u64 (l[k].2.toNat : Int)]
       obtain ⟨y0, y1⟩ := V3.two
       have HP3 : Hid _ := HP.out.below b3
       have B3 : Hid (Below w1.heap.size w1 w3) := on bel b3
       clear V3 b3 z3 HP
       clear hat bel
       go_wp2_with fail
       refine (put_c _ (w1.heap.size + 1 + 1) (w1.heap.size + 1) w1.heap.size (by omega) (by omega) (by omega) _ _ HP3.out (l[k].2.toNat) 8 _ _ rfl rfl (by decide) (by decide) (fits8 _) (by omega)).mono ?_
       rintro e w4 ⟨rfl, hp4, k4⟩
       have B4 : Hid (Below w1.heap.size w1 w4) := kept_below B3.out k4 B3.out.size (by omega) (by omega)
       have HP4 : Hid (Puts (w1.heap.size + 1 + 1) (w1.heap.size + 1) w1.heap.size w4 (Lf.heads (l, ks) ++ l.flatMap Lf.key8 ++ (l.take (k + 1)).flatMap Lf.val8) (p + 8)) := by
        rw [Lf.flat_next _ hkl, ← List.append_assoc]
        exact hp4
       have HC4 : Hid (p + 8 = 4 + 8 * n + 8 * (k + 1)) := by have := HC.out; unfold Hid; omega
       have hp4b : p + 8 ≤ 52 := by have := HC4.out; omega
       clear hp4 k4 HP3
       go_wp2
       go_roundw
       case rel => exact ⟨k + 1, p + 8, by omega, by go_num, hp4b, HC4, HP4, B4.out⟩
       case measure => simp [intOf]; omega
     · obtain rfl : n = k := by omega
       have HPz : Hid (Puts (w1.heap.size + 1 + 1) (w1.heap.size + 1) w1.heap.size wr (Lf.heads (l, ks) ++ l.flatMap Lf.key8 ++ l.flatMap Lf.val8) p) := by have h := HP.out; rw [List.take_of_length_le (by rw [HN.out]; exact Nat.le_refl _)] at h; exact h
       clear HP
       obtain ⟨r0, r1⟩ := (HV1.out.below bel).two
       go_wp2
       obtain ⟨wq, hwq⟩ : ∃ wq, wq = wr := ⟨_, rfl⟩
       subst hwq
       go_loopw [62] (fun i wr => i = .int .i64 0 ∧ wr = wq) (fun i _ => 0)
       case atStart => exact ⟨rfl, rfl⟩
       case round =>
        obtain ⟨rfl, rfl⟩ := hrel
        have hzz : ¬ (0 : Int) < (n' : Int) := by omega
        clear r0 r1
        obtain ⟨r2, -⟩ := (⟨HPz.out.box.cell (j := 0) rfl, trivial⟩ : _ ∧ True)
        have HS : Hid (IsB wr (some ⟨w1.heap.size, 0, none⟩) 60 ((Lf.heads (l, ks) ++ l.flatMap Lf.key8 ++ l.flatMap Lf.val8) ++ List.replicate (60 - p) 0)) := HPz.out.isB (by omega)
        have HEN : Hid (Crc.sealed ((Lf.heads (l, ks) ++ l.flatMap Lf.key8 ++ l.flatMap Lf.val8) ++ List.replicate (60 - p) 0) = Lf.enc (l, ks)) := by
         have hf : Lf.front (l, ks) = Lf.heads (l, ks) ++ l.flatMap Lf.key8 ++ l.flatMap Lf.val8 := (by rw [Lf.front_put (by show l.length ≤ 3; rw [HN.out]; exact hn3), HLf.out, show (l, ks).2 = [] from HKnil.out]; simp)
         unfold Hid Lf.enc Lf.body
         rw [hf, HPz.out.len]
        have BE : Hid _ := bel
        clear bel
        go_wp2_with fail
        refine (seal_said _ _ 60 _ _ (by decide) (by decide) (fun h => by cases h) HS.out).mono ?_
        rintro ey w9 ⟨b9, d9, rfl, ho9, bw9⟩
        rw [HEN.out] at ho9
        have HO : Hid _ := owns_mono ho9 (on B1.out BE.out).size
        clear ho9
        go_wp2
        go_ret2
        exact ⟨b9, d9, rfl, HO.out, on (on B1.out BE.out) bw9⟩
set_option maxRecDepth 20000 in
set_option maxHeartbeats 8000000 in
theorem encode_kids (w : World) (P P' : Nat → Prop) (a a' : Option Addr) (n c n' c' : Nat) (l : List Itm) (ks : List Int) (hL : rItms.rd w P [.slice a n c] l) (hK : rKids.rd w P' [.slice a' n' c'] ks) (hok : Lf.ok (l, ks) = true) (hlf : Lf.isLeaf (l, ks) = false) :
 Calls Tryz.prog 104 #[.agg #[.slice a n c, .slice a' n' c']] w fun e w' => ∃ b d, e = .returned (.tuple #[.slice b 64 d, .int .i64 0]) ∧ w'.ownsRow w.heap.size 5 1 (.slice b 64 d) 64 (cellsOf (Lf.enc (l, ks))) ∧ Below w.heap.size w w' := by
 have HOK : Hid _ := Lf.ok_iff.1 hok
 have HE0 : Hid (Lf.encodeE (l, ks) = 0) := if_pos hok
 have HLf : Hid _ := hlf
 have HR : Hid _ := hL
 have HK : Hid _ := hK
 have HN : Hid (l.length = n) := (rList_len hL).1
 have HN' : Hid (ks.length = n') := (rList_len hK).1
 have hn1 : 1 ≤ n := by have := HOK.out.some_; have e := HN.out; simp only at this; omega
 have hn3 : n ≤ 3 := by have := HOK.out.few; have e := HN.out; simp only at this; omega
 have hz0 : n' ≠ 0 := fun h => by have := Lf.leaf_iff.2 (show (l, ks).2.length = 0 from HN'.out.trans h); rw [hlf] at this; cases this
 have HKl : Hid (n' = n + 1) := by have := HOK.out.kids.resolve_left (by rw [hlf]; decide); have e1 := HN.out; have e2 := HN'.out; simp only at this; unfold Hid; omega
 have hn4 : n' ≤ 4 := by have := HKl.out; omega
 obtain ⟨w0, hw0, V0, b0, z0⟩ := boxedRow w 63 [.slice a n c, .slice a' n' c']
 have HV0 : Hid _ := V0
 have B0 : Hid _ := b0
 clear hL hK V0 b0 z0 hok hlf
 go_enter Tryz.func104, Tryz.ntmps104
 obtain ⟨r0, r1⟩ := HV0.out.two
 go_wp2_with fail
 refine (check_u _ P P' a a' n c n' c' l ks (Rep.below HR.out B0.out) (Rep.below HK.out B0.out)).mono ?_
 rintro e w1 ⟨rfl, b1⟩
 rw [HE0.out]
 have HV1 : Hid _ := HV0.out.below b1
 have B1 : Hid _ := on B0.out b1
 clear r0 r1 b1
 go_wp2_with (at_make; refine make_row _ rfl _ _ 53 rfl 5 (.int .u8 0) 1 Tryz.underlying53 info_u8 rfl 60 _ rfl rfl rfl (by decide) (by decide) ?_
              intro w2 HR2 b2 z2
              obtain ⟨w3, hw3, V3, b3, z3⟩ := boxedRow w2 53 [.slice (some ⟨w1.heap.size, 0, none⟩) 60 60]
              obtain ⟨w4, hw4, V4, b4, z4⟩ := boxedRow w3 3 [.int .i64 0]
              rw [z2] at V3 z3
              rw [z3] at V4
              have f4 := V4.frozen 0
              have c4 := V4.cell (j := 0) rfl
              obtain ⟨w5, hw5⟩ : ∃ w5, w4.setCell ⟨w1.heap.size + 1 + 1, 0, none⟩ (.int .i64 0) = w5 := ⟨_, rfl⟩
              have HP5 : Hid (Puts (w1.heap.size + 1 + 1) (w1.heap.size + 1) w1.heap.size w5 [] 0) := (by rw [← hw5]; exact ⟨rfl, V4.set 0 (.int .i64 0), (V3.below b4).setO (p := ⟨w1.heap.size + 1 + 1, 0, none⟩) (by show w1.heap.size + 1 + 1 ≠ _; omega) _, ((HR2.out.below b3).below b4).setO (p := ⟨w1.heap.size + 1 + 1, 0, none⟩) (by show w1.heap.size + 1 + 1 ≠ _; omega) _⟩)
              have B5 : Hid (Below w1.heap.size w1 w5) := (by rw [← hw5]; exact (on (on b2 b3) b4).setCell (p := ⟨w1.heap.size + 1 + 1, 0, none⟩) (by show w1.heap.size ≤ w1.heap.size + 1 + 1; omega) _)
              obtain ⟨r0, r1⟩ := (HV1.out.below B5.out).two
              clear V3 V4 b2 b3 b4 HR2 z4)
 refine (kindOf_u _ _ a' n' c' l ks HN'.out).mono ?_
 rintro e w6 ⟨rfl, b6⟩
 have HP6 : Hid _ := HP5.out.below b6
 have B6 : Hid _ := on B5.out b6
 clear r0 r1 b6 HP5 B5 c4 f4 hw3 hw4 hw5 z2 z3
 obtain ⟨r0, r1⟩ := (HV1.out.below B6.out).two
 go_wp2_with fail
 refine (put_c _ (w1.heap.size + 1 + 1) (w1.heap.size + 1) w1.heap.size (by omega) (by omega) (by omega) _ _ HP6.out (Lf.kind (l, ks)).toNat 1 _ _ rfl rfl (by decide) (by decide) (kind_lt _) (by omega)).mono ?_
 rintro e w7 ⟨rfl, hp7, k7⟩
 have B7 : Hid (Below w1.heap.size w1 w7) := kept_below B6.out k7 B6.out.size (by omega) (by omega)
 have HP7 : Hid _ := hp7
 clear r0 r1 hp7 k7 HP6 B6
 obtain ⟨r0, r1⟩ := (HV1.out.below B7.out).two
 go_wp2_with fail
 refine (put_c _ (w1.heap.size + 1 + 1) (w1.heap.size + 1) w1.heap.size (by omega) (by omega) (by omega) _ _ HP7.out n 1 _ _ rfl rfl (by decide) (by decide) (Nat.lt_of_le_of_lt hn3 (by decide)) (by omega)).mono ?_
 rintro e w8 ⟨rfl, hp8, k8⟩
 have B8 : Hid (Below w1.heap.size w1 w8) := kept_below B7.out k8 B7.out.size (by omega) (by omega)
 have HP8 : Hid _ := hp8
 clear r0 r1 hp8 k8 HP7 B7
 obtain ⟨r0, r1⟩ := (HV1.out.below B8.out).two
 go_wp2_with fail
 refine (put_c _ (w1.heap.size + 1 + 1) (w1.heap.size + 1) w1.heap.size (by omega) (by omega) (by omega) _ _ HP8.out 0 2 _ _ rfl rfl (by decide) (by decide) (by decide) (by omega)).mono ?_
 rintro e w9 ⟨rfl, hp9, k9⟩
 have B9 : Hid (Below w1.heap.size w1 w9) := kept_below B8.out k9 B8.out.size (by omega) (by omega)
 have HP9 : Hid (Puts (w1.heap.size + 1 + 1) (w1.heap.size + 1) w1.heap.size w9 (Lf.heads (l, ks)) 4) := by
  have h : Puts (w1.heap.size + 1 + 1) (w1.heap.size + 1) w1.heap.size w9 (Oct.octs (Lf.kind (l, ks)).toNat 1 ++ Oct.octs n 1 ++ Oct.octs 0 2) 4 := hp9
  rw [← HN.out] at h
  exact h
 clear r0 r1 hp9 k9 HP8 B8
 obtain ⟨r0, r1⟩ := (HV1.out.below B9.out).two
 go_wp2
 clear r0 r1
 go_loopw [36] (fun i wr => ∃ (k p : Nat), k ≤ n ∧ i = .int .i64 k ∧ p ≤ 28 ∧ Hid (p = 4 + 8 * k) ∧ Hid (Puts (w1.heap.size + 1 + 1) (w1.heap.size + 1) w1.heap.size wr (Lf.heads (l, ks) ++ (l.take k).flatMap Lf.key8) p) ∧ Below w1.heap.size w1 wr) (fun i _ => n - (intOf i).toNat)
 case atStart => exact ⟨0, 4, Nat.zero_le _, rfl, by omega, rfl, by rw [List.take_zero, List.flatMap_nil, List.append_nil]; exact HP9, B9.out⟩
 case round =>
  obtain ⟨k, p, hk, rfl, hp, HC, HP, bel⟩ := hrel
  by_cases hlt : k < n
  · have hkl : k < l.length := by rw [HN.out]; exact hlt
    have BW : Hid _ := on B1.out bel
    obtain ⟨g, off, rfl, -, -, hat⟩ := rItms_at (Rep.below HR.out BW.out) (by omega)
    obtain ⟨c0, c1⟩ := hat k hkl
    have hkz : (k : Int) < (n : Int) := by omega
    obtain ⟨w3, hw3, V3, b3, z3⟩ := boxedRow wr 45 [.int .u64 (l[k].1.toNat : Int), .int .u64 (l[k].2.toNat : Int)]
    obtain ⟨y0, y1⟩ := V3.two
    have HP3 : Hid _ := HP.out.below b3
    have B3 : Hid (Below w1.heap.size w1 w3) := on bel b3
    clear V3 b3 z3 HP
    clear hat bel
    go_wp2_with fail
    refine (put_c _ (w1.heap.size + 1 + 1) (w1.heap.size + 1) w1.heap.size (by omega) (by omega) (by omega) _ _ HP3.out (l[k].1.toNat) 8 _ _ rfl rfl (by decide) (by decide) (fits8 _) (by omega)).mono ?_
    rintro e w4 ⟨rfl, hp4, k4⟩
    have B4 : Hid (Below w1.heap.size w1 w4) := kept_below B3.out k4 B3.out.size (by omega) (by omega)
    have HP4 : Hid (Puts (w1.heap.size + 1 + 1) (w1.heap.size + 1) w1.heap.size w4 (Lf.heads (l, ks) ++ (l.take (k + 1)).flatMap Lf.key8) (p + 8)) := by
     rw [Lf.flat_next _ hkl, ← List.append_assoc]
     exact hp4
    have HC4 : Hid (p + 8 = 4 + 8 * (k + 1)) := by have := HC.out; unfold Hid; omega
    have hp4b : p + 8 ≤ 28 := by have := HC4.out; omega
    clear hp4 k4 HP3
    go_wp2
    go_roundw
    case rel => exact ⟨k + 1, p + 8, by omega, by go_num, hp4b, HC4, HP4, B4.out⟩
    case measure => simp [intOf]; omega
  · obtain rfl : n = k := by omega
    have HPf : Hid (Puts (w1.heap.size + 1 + 1) (w1.heap.size + 1) w1.heap.size wr (Lf.heads (l, ks) ++ l.flatMap Lf.key8) p) := by have h := HP.out; rw [List.take_of_length_le (by rw [HN.out]; exact Nat.le_refl _)] at h; exact h
    clear HP
    obtain ⟨r0, r1⟩ := (HV1.out.below bel).two
    have BL : Hid _ := bel
    clear bel
    go_wp2_with fail
    refine (isLeaf_u _ _ a' n' c' l ks HN'.out).mono ?_
    rintro e w5 ⟨rfl, b5⟩
    rw [HLf.out]
    have bel : Below w1.heap.size w1 w5 := on BL.out b5
    have HP5 : Hid _ := HPf.out.below b5
    clear b5 BL HPf r0 r1
    obtain ⟨r0, r1⟩ := (HV1.out.below bel).two
    go_wp2
    go_loopw [62] (fun i wr => ∃ (k p : Nat), k ≤ n' ∧ i = .int .i64 k ∧ p ≤ 44 ∧ Hid (p = 4 + 8 * n + 4 * k) ∧ Hid (Puts (w1.heap.size + 1 + 1) (w1.heap.size + 1) w1.heap.size wr (Lf.heads (l, ks) ++ l.flatMap Lf.key8 ++ (ks.take k).flatMap Lf.kid4) p) ∧ Below w1.heap.size w1 wr) (fun i _ => n' - (intOf i).toNat)
    case atStart => exact ⟨0, p, Nat.zero_le _, rfl, by omega, HC, by rw [List.take_zero, List.flatMap_nil, List.append_nil]; exact HP5, bel⟩
    case round =>
     obtain ⟨k, p, hk, rfl, hp, HC, HP, bel⟩ := hrel
     by_cases hlt : k < n'
     · have hkl : k < ks.length := by rw [HN'.out]; exact hlt
       have BW : Hid _ := on B1.out bel
       obtain ⟨g, off, rfl, -, -, hat⟩ := rKids_at (Rep.below HK.out BW.out) (by omega)
       obtain ⟨c0, -, -⟩ := hat k hkl
       have hpg := HOK.out.pages ks[k] (List.getElem_mem hkl)
       obtain ⟨q, hq⟩ := Int.eq_ofNat_of_zero_le (show 0 ≤ ks[k] by omega)
       have hq1 : q ≤ 2048 := by omega
       have HQ : Hid (Lf.kid4 ks[k] = Oct.octs q 4) := by unfold Hid Lf.kid4; rw [hq]; rfl
       rw [show ks[k] = (q : Int) from hq] at c0
       clear hq hpg
       have hkz : (k : Int) < (n' : Int) := by omega
       have HP3 : Hid (Puts (w1.heap.size + 1 + 1) (w1.heap.size + 1) w1.heap.size wr (Lf.heads (l, ks) ++ l.flatMap Lf.key8 ++ (ks.take k).flatMap Lf.kid4) p) := HP.out
       have B3 : Hid _ := bel
       clear HP
       clear hat bel
       go_wp2_with fail
       refine (put_c _ (w1.heap.size + 1 + 1) (w1.heap.size + 1) w1.heap.size (by omega) (by omega) (by omega) _ _ HP3.out (q) 4 _ _ rfl rfl (by decide) (by decide) (Nat.lt_of_le_of_lt hq1 (by decide)) (by omega)).mono ?_
       rintro e w4 ⟨rfl, hp4, k4⟩
       have B4 : Hid (Below w1.heap.size w1 w4) := kept_below B3.out k4 B3.out.size (by omega) (by omega)
       have HP4 : Hid (Puts (w1.heap.size + 1 + 1) (w1.heap.size + 1) w1.heap.size w4 (Lf.heads (l, ks) ++ l.flatMap Lf.key8 ++ (ks.take (k + 1)).flatMap Lf.kid4) (p + 4)) := by
        rw [Lf.flat_next _ hkl, HQ.out, ← List.append_assoc]
        exact hp4
       have HC4 : Hid (p + 4 = 4 + 8 * n + 4 * (k + 1)) := by have := HC.out; unfold Hid; omega
       have hp4b : p + 4 ≤ 44 := by have := HC4.out; have := HKl.out; omega
       clear hp4 k4 HP3
       go_wp2
       go_roundw
       case rel => exact ⟨k + 1, p + 4, by omega, by go_num, hp4b, HC4, HP4, B4.out⟩
       case measure => simp [intOf]; omega
     · obtain rfl : n' = k := by omega
       have HPz : Hid (Puts (w1.heap.size + 1 + 1) (w1.heap.size + 1) w1.heap.size wr (Lf.heads (l, ks) ++ l.flatMap Lf.key8 ++ ks.flatMap Lf.kid4) p) := by have h := HP.out; rw [List.take_of_length_le (by rw [HN'.out]; exact Nat.le_refl _)] at h; exact h
       clear HP
       obtain ⟨r2, -⟩ := (⟨HPz.out.box.cell (j := 0) rfl, trivial⟩ : _ ∧ True)
       have HS : Hid (IsB wr (some ⟨w1.heap.size, 0, none⟩) 60 ((Lf.heads (l, ks) ++ l.flatMap Lf.key8 ++ ks.flatMap Lf.kid4) ++ List.replicate (60 - p) 0)) := HPz.out.isB (by omega)
       have HEN : Hid (Crc.sealed ((Lf.heads (l, ks) ++ l.flatMap Lf.key8 ++ ks.flatMap Lf.kid4) ++ List.replicate (60 - p) 0) = Lf.enc (l, ks)) := by
        have hf : Lf.front (l, ks) = Lf.heads (l, ks) ++ l.flatMap Lf.key8 ++ ks.flatMap Lf.kid4 := (by rw [Lf.front_put (by show l.length ≤ 3; rw [HN.out]; exact hn3), HLf.out]; simp)
        unfold Hid Lf.enc Lf.body
        rw [hf, HPz.out.len]
       have BE : Hid _ := bel
       clear bel
       go_wp2_with fail
       refine (seal_said _ _ 60 _ _ (by decide) (by decide) (fun h => by cases h) HS.out).mono ?_
       rintro ey w9 ⟨b9, d9, rfl, ho9, bw9⟩
       rw [HEN.out] at ho9
       have HO : Hid _ := owns_mono ho9 (on B1.out BE.out).size
       clear ho9
       go_wp2
       go_ret2
       exact ⟨b9, d9, rfl, HO.out, on (on B1.out BE.out) bw9⟩
set_option maxHeartbeats 2000000 in
theorem encode_no (w : World) (P P' : Nat → Prop) (a a' : Option Addr) (n c n' c' : Nat) (l : List Itm) (ks : List Int) (hL : rItms.rd w P [.slice a n c] l) (hK : rKids.rd w P' [.slice a' n' c'] ks) (hok : Lf.ok (l, ks) = false) :
 Calls Tryz.prog 104 #[.agg #[.slice a n c, .slice a' n' c']] w fun e w' => e = .returned (.tuple #[.slice none 0 0, .int .i64 9]) ∧ Below w.heap.size w w' := by
 have HE0 : Hid (Lf.encodeE (l, ks) = 9) := by unfold Hid Lf.encodeE; rw [hok]; rfl
 have HR : Hid _ := hL
 have HK : Hid _ := hK
 obtain ⟨w0, hw0, V0, b0, z0⟩ := boxedRow w 63 [.slice a n c, .slice a' n' c']
 have HV0 : Hid _ := V0
 have B0 : Hid _ := b0
 clear hL hK V0 b0 z0 hok
 go_enter Tryz.func104, Tryz.ntmps104
 obtain ⟨r0, r1⟩ := HV0.out.two
 go_wp2_with fail
 refine (check_u _ P P' a a' n c n' c' l ks (Rep.below HR.out B0.out) (Rep.below HK.out B0.out)).mono ?_
 rintro e w1 ⟨rfl, b1⟩
 rw [HE0.out]
 have B1 : Hid _ := on B0.out b1
 clear r0 r1 b1
 go_wp2
 go_ret2
 exact ⟨rfl, B1.out⟩
theorem encode_u (w : World) (P P' : Nat → Prop) (a a' : Option Addr) (n c n' c' : Nat) (l : List Itm) (ks : List Int) (hL : rItms.rd w P [.slice a n c] l) (hK : rKids.rd w P' [.slice a' n' c'] ks) :
 Calls Tryz.prog 104 #[.agg #[.slice a n c, .slice a' n' c']] w fun e w' => ∃ b m d, e = .returned (.tuple #[.slice b m d, .int .i64 (Lf.encodeE (l, ks))]) ∧ w'.ownsRow w.heap.size 5 1 (.slice b m d) m (cellsOf (Lf.encodeL (l, ks))) ∧ Below w.heap.size w w' := by
 cases h : Lf.ok (l, ks)
 · refine (encode_no w P P' a a' n c n' c' l ks hL hK h).mono ?_
   rintro e w' ⟨rfl, b1⟩
   refine ⟨none, 0, 0, ?_, ?_, b1⟩
   · unfold Lf.encodeE; rw [h]; rfl
   · unfold Lf.encodeL; rw [h]; exact own_nil _ _
 · cases hl : Lf.isLeaf (l, ks)
   · refine (encode_kids w P P' a a' n c n' c' l ks hL hK h hl).mono ?_
     rintro e w' ⟨b, d, rfl, ho, b1⟩
     refine ⟨b, 64, d, ?_, ?_, b1⟩
     · unfold Lf.encodeE; rw [h]; rfl
     · unfold Lf.encodeL; rw [h]; exact ho
   · refine (encode_leaf w P P' a a' n c n' c' l ks hL hK h hl).mono ?_
     rintro e w' ⟨b, d, rfl, ho, b1⟩
     refine ⟨b, 64, d, ?_, ?_, b1⟩
     · unfold Lf.encodeE; rw [h]; rfl
     · unfold Lf.encodeL; rw [h]; exact ho
set_option maxHeartbeats 1000000 in
theorem decode_short (w : World) (a : Option Addr) (n cap : Nat) (hn : n ≤ 140737488351232) (h : n ≠ 64) :
 Calls Tryz.prog 100 #[.slice a n cap] w fun e w' => ∃ v v', e = .returned (.tuple #[.agg #[v, v'], .int .i64 8]) ∧ OwnI 45 w' w.heap.size v [] ∧ OwnK 3 w' w.heap.size v' [] ∧ Below w.heap.size w w' := by
 have hne : ((n : Int) != 64) = true := bne_iff_ne.2 (by omega)
 obtain ⟨w0, hw0, V, bw0, -⟩ := boxedRow w 63 [.slice none 0 0, .slice none 0 0]
 obtain ⟨z0, z1⟩ := V.two
 have f0 := V.frozen 0
 have f1 := V.frozen 1
 go_enter Tryz.func100, Tryz.ntmps100
 go_wp2
 exact st_ret V bw0 (Nat.le_refl _) _ _ _ rfl rfl rfl Tryz.underlying63 rfl (by kernel_rfl) (fun w' _ b' => ⟨_, _, rfl, OwnI.nil _ _ _, OwnK.nil _ _ _, b'⟩)
set_option maxHeartbeats 1000000 in
theorem decode_open (w : World) (a : Option Addr) (cap : Nat) (l : List UInt8) (hcap : 64 ≤ cap) (hnil : a = none → cap = 0) (hB : IsB w a 64 l) (hE : Crc.openE l ≠ 0) :
 Calls Tryz.prog 100 #[.slice a 64 cap] w fun e w' => ∃ v v', e = .returned (.tuple #[.agg #[v, v'], .int .i64 21]) ∧ OwnI 45 w' w.heap.size v [] ∧ OwnK 3 w' w.heap.size v' [] ∧ Below w.heap.size w w' := by
 have HB : Hid (IsB _ _ _ _) := hB
 clear hB
 obtain ⟨w0, hw0, V, bw0, -⟩ := boxedRow w 63 [.slice none 0 0, .slice none 0 0]
 go_enter Tryz.func100, Tryz.ntmps100
 go_wp2_with fail
 refine (open_said _ _ 64 _ l (by decide) hcap hnil (HB.out.below bw0)).mono ?_
 rintro ex w1 ⟨xa, xn, xc, rfl, ho, bw1⟩
 have hEb : (Crc.openE l != 0) = true := bne_iff_ne.2 hE
 have V := V.below bw1
 obtain ⟨z0, z1⟩ := V.two
 have f0 := V.frozen 0
 have f1 := V.frozen 1
 clear ho hE
 go_wp2
 exact st_ret V (on bw0 bw1) (Nat.le_refl _) _ _ _ rfl rfl rfl Tryz.underlying63 rfl (by kernel_rfl) (fun w' _ b' => ⟨_, _, rfl, OwnI.nil _ _ _, OwnK.nil _ _ _, b'⟩)
set_option maxHeartbeats 2000000 in
theorem decode_kind (w : World) (a : Option Addr) (cap : Nat) (l : List UInt8) (hcap : 64 ≤ cap) (hnil : a = none → cap = 0) (hB : IsB w a 64 l) (hE : Crc.openE l = 0) (hk : ¬ ((Crc.openL l).getD 0 0 = 1 ∨ (Crc.openL l).getD 0 0 = 2)) :
 Calls Tryz.prog 100 #[.slice a 64 cap] w fun e w' => ∃ v v', e = .returned (.tuple #[.agg #[v, v'], .int .i64 22]) ∧ OwnI 45 w' w.heap.size v [] ∧ OwnK 3 w' w.heap.size v' [] ∧ Below w.heap.size w w' := by
 have HKd : Hid _ := hk
 clear hk
 have hl64 : Hid (l.length = 64) := hB.1
 have HL : Hid ((Crc.openL l).length = 60) := openL60 hB.1 hE
 have HB : Hid (IsB _ _ _ _) := hB
 have HE : Hid _ := hE
 clear hB
 obtain ⟨w0, hw0, V, bw0, -⟩ := boxedRow w 63 [.slice none 0 0, .slice none 0 0]
 go_enter Tryz.func100, Tryz.ntmps100
 go_wp2_with fail
 refine (open_said _ _ 64 _ l (by decide) hcap hnil (HB.out.below bw0)).mono ?_
 rintro ex w1 ⟨xa, xn, xc, rfl, ho, bw1⟩
 rw [hE]
 obtain rfl : xn = 60 := (owns_len ho).trans HL.out
 obtain ⟨hX, hXc, -⟩ := owns_isB ho
 obtain ⟨xb, xo, rfl, -⟩ := hX.place (by decide)
 have HX : Hid (IsB w1 (some ⟨xb, xo, none⟩) 60 (Crc.openL l)) := hX
 have V1 : Hid (Row w1 w.heap.size 63 [.slice none 0 0, .slice none 0 0]) := V.below bw1
 have BW1 : Hid (Below w.heap.size w w1) := on bw0 bw1
 have HB1 : Hid (IsB w1 a 64 l) := (HB.out.below bw0).below bw1
 clear ho hE V bw1 bw0 hX
 go_wp2_with fail
 refine (read_no _ xb xo _ (Crc.openL l) HX.out HKd.out).mono ?_
 rintro ex w2 ⟨rfl, b2⟩
 have V := V1.out.below b2
 obtain ⟨z0, z1⟩ := V.two
 have f0 := V.frozen 0
 have f1 := V.frozen 1
 obtain ⟨w3, hw3, V3, b3, z3⟩ := boxedRow w2 63 [.slice none 0 0, .slice none 0 0]
 obtain ⟨p0, p1⟩ := V3.two
 have h0 := V3.frozen 0
 have h1 := V3.frozen 1
 obtain ⟨w4, hw4, V4x, K4⟩ := V3.whole2 (.slice none 0 0) (.slice none 0 0)
 have hlt : w.heap.size < w2.heap.size := V.lt
 have V4 := (V.below b3).keep (K4.block w.heap.size (by omega))
 obtain ⟨y0, y1⟩ := V4.two
 have g0 := V4.frozen 0
 have g1 := V4.frozen 1
 have B3 : Hid (Below w.heap.size w w4) := Kept.belowOf (on (on BW1.out b2) b3) K4 (by omega)
 obtain ⟨w5, hw5⟩ : ∃ w5, w3.setCell ⟨w2.heap.size, 0, none⟩ (.slice none 0 0) = w5 := ⟨_, rfl⟩
 have V5 : Row w5 w2.heap.size 63 [.slice none 0 0, .slice none 0 0] := by rw [← hw5]; exact V3.set 0 (.slice none 0 0)
 obtain ⟨p2, p3⟩ := V5.two
 have h2 := V5.frozen 0
 have h3 := V5.frozen 1
 rw [hw5] at hw4
 clear V3 b3 z3 V V4x K4
 go_wp2
 exact st_ret V4 B3.out (Nat.le_refl _) _ _ _ rfl rfl rfl Tryz.underlying63 rfl (by kernel_rfl) (fun w' _ b' => ⟨_, _, rfl, OwnI.nil _ _ _, OwnK.nil _ _ _, b'⟩)
set_option maxRecDepth 20000 in
set_option maxHeartbeats 4000000 in
theorem decode_in (w : World) (a : Option Addr) (cap : Nat) (l : List UInt8) (hcap : 64 ≤ cap) (hnil : a = none → cap = 0) (hB : IsB w a 64 l) (hE : Crc.openE l = 0) (hk : (Crc.openL l).getD 0 0 = 1 ∨ (Crc.openL l).getD 0 0 = 2) :
 Calls Tryz.prog 100 #[.slice a 64 cap] w fun e w' => ∃ v v', e = .returned (.tuple #[.agg #[v, v'], .int .i64 (Lf.decodeE l)]) ∧ OwnI 45 w' w.heap.size v (Lf.decodeN l).1 ∧ OwnK 3 w' w.heap.size v' (Lf.decodeN l).2 ∧ Below w.heap.size w w' := by
 have HKd : Hid _ := hk
 clear hk
 have hl64 : Hid (l.length = 64) := hB.1
 have HL : Hid ((Crc.openL l).length = 60) := openL60 hB.1 hE
 have HB : Hid (IsB _ _ _ _) := hB
 have HE : Hid _ := hE
 clear hB
 obtain ⟨w0, hw0, V, bw0, -⟩ := boxedRow w 63 [.slice none 0 0, .slice none 0 0]
 go_enter Tryz.func100, Tryz.ntmps100
 go_wp2_with fail
 refine (open_said _ _ 64 _ l (by decide) hcap hnil (HB.out.below bw0)).mono ?_
 rintro ex w1 ⟨xa, xn, xc, rfl, ho, bw1⟩
 rw [hE]
 obtain rfl : xn = 60 := (owns_len ho).trans HL.out
 obtain ⟨hX, hXc, -⟩ := owns_isB ho
 obtain ⟨xb, xo, rfl, -⟩ := hX.place (by decide)
 have HX : Hid (IsB w1 (some ⟨xb, xo, none⟩) 60 (Crc.openL l)) := hX
 have V1 : Hid (Row w1 w.heap.size 63 [.slice none 0 0, .slice none 0 0]) := V.below bw1
 have BW1 : Hid (Below w.heap.size w w1) := on bw0 bw1
 have HB1 : Hid (IsB w1 a 64 l) := (HB.out.below bw0).below bw1
 clear ho hE V bw1 bw0 hX
 have HD : Hid _ := Lf.decode_read hl64.out HE.out HL.out HKd.out
 have HLT : Hid (w.heap.size < w1.heap.size) := V1.out.lt
 go_wp2_with fail
 refine (read_yes _ xb xo _ (Crc.openL l) HX.out HKd.out).mono ?_
 rintro ex w2 ⟨v, v', rfl, hoI, hoK, b2⟩
 obtain ⟨ia, ic, rfl, -, -⟩ := hoI.slice
 obtain ⟨ka, kc, rfl, -, -⟩ := hoK.slice
 obtain ⟨il, hil⟩ : ∃ il, il = (Lf.readN (Crc.openL l)).1.length := ⟨_, rfl⟩
 obtain ⟨kl, hkl⟩ : ∃ kl, kl = (Lf.readN (Crc.openL l)).2.length := ⟨_, rfl⟩
 rw [← hil] at hoI ⊢
 rw [← hkl] at hoK ⊢
 have HOI : Hid _ := hoI
 have HOK : Hid _ := hoK
 have HLI : Hid ((Lf.readN (Crc.openL l)).1.length ≤ 255) := (by have := Lf.cnt_lt (Crc.openL l); show (Lf.readI (Crc.openL l)).length ≤ 255; rw [Lf.readI_len]; omega)
 have HLK : Hid ((Lf.readN (Crc.openL l)).2.length ≤ 256) := (by have := Lf.cnt_lt (Crc.openL l); show (Lf.readK (Crc.openL l)).length ≤ 256; unfold Lf.readK; split <;> simp; omega)
 clear hil hkl hoI hoK
 obtain ⟨w3, hw3, V3, b3, z3⟩ := boxedRow w2 63 [.slice ia il ic, .slice ka kl kc]
 have HV3 : Hid _ := V3
 have R3 : Hid _ := (V1.out.below b2).below b3
 have BW3 : Hid (Below w.heap.size w w3) := on (on BW1.out b2) b3
 have HB3 : Hid (IsB w3 a 64 l) := (HB1.out.below b2).below b3
 have HOI3 : Hid _ := HOI.out.below b3
 have HOK3 : Hid _ := HOK.out.below b3
 obtain ⟨s0, s1⟩ := HV3.out.two
 clear V3 b3 z3 b2 HOI HOK
 go_wp2_with fail
 refine (encode_u _ _ _ ia ka il ic kl kc (Lf.readN (Crc.openL l)).1 (Lf.readN (Crc.openL l)).2 (HOI3.out.rd (by have := HLI.out; omega)) (HOK3.out.rd (by have := HLK.out; omega))).mono ?_
 rintro ex w4 ⟨ya, yn, yc, rfl, hoY, b4⟩
 have HV4 : Hid _ := HV3.out.below b4
 have R4 : Hid _ := R3.out.below b4
 have BW4 : Hid _ := on BW3.out b4
 have HB4 : Hid (IsB w4 a 64 l) := HB3.out.below b4
 have HOI4 : Hid _ := HOI3.out.below b4
 have HOK4 : Hid _ := HOK3.out.below b4
 clear s0 s1 b4 HV3 R3 HB3 HOI3 HOK3 hw3
 obtain ⟨s0, s1⟩ := HV4.out.two
 obtain ⟨z0, z1⟩ := R4.out.two
 have f0 := R4.out.frozen 0
 have f1 := R4.out.frozen 1
 obtain ⟨NN, hNN⟩ : ∃ NN, NN = Lf.readN (Crc.openL l) := ⟨_, rfl⟩
 rw [show ((Lf.readN (Crc.openL l)).1, (Lf.readN (Crc.openL l)).2) = NN from hNN.symm] at hoY ⊢
 rw [← hNN] at HOI4 HOK4 HD
 cases hok : Lf.ok NN
 · have e9 : Lf.encodeE NN = 9 := by unfold Lf.encodeE; rw [hok]; rfl
   have HD2 : Hid _ := HD.out.2 (fun h => by rw [hok] at h; cases h.1)
   rw [e9]
   clear e9 hok hoY hNN
   go_wp2
   rw [HD2.out.1, HD2.out.2]
   exact st_ret R4.out BW4.out (Nat.le_refl _) _ _ _ rfl rfl rfl Tryz.underlying63 rfl (by kernel_rfl) (fun w' _ b' => ⟨_, _, rfl, OwnI.nil _ _ _, OwnK.nil _ _ _, b'⟩)
 · have e0 : Lf.encodeE NN = 0 := if_pos hok
   have eL : Lf.encodeL NN = Lf.enc NN := if_pos hok
   rw [eL] at hoY
   rw [e0]
   have HOKN : Hid _ := hok
   obtain rfl : yn = 64 := (owns_len hoY).trans (Lf.enc_len (Lf.ok_iff.1 hok))
   have HY : Hid (IsB w4 ya 64 (Lf.enc NN)) := (owns_isB hoY).1
   obtain ⟨EE, hEE⟩ : ∃ EE, EE = Lf.enc NN := ⟨_, rfl⟩
   rw [← hEE] at HY HD
   clear e0 eL hok hoY hNN hEE
   cases hc : (EE == l)
   · have HC : Hid _ := hc
     have hcp : ¬ EE = l := beq_eq_false_iff_ne.1 hc
     have HD2 : Hid _ := HD.out.2 (fun h => hcp h.2)
     clear hcp hc
     go_wp2_with (go_at_call 124; refine (equal_u _ _ _ 64 _ 64 _ _ _ HY.out HB4.out _ HC.out).mono ?_; rintro e w9 ⟨rfl, rfl⟩)
     rw [HD2.out.1, HD2.out.2]
     exact st_ret R4.out BW4.out (Nat.le_refl _) _ _ _ rfl rfl rfl Tryz.underlying63 rfl (by kernel_rfl) (fun w' _ b' => ⟨_, _, rfl, OwnI.nil _ _ _, OwnK.nil _ _ _, b'⟩)
   · have HC : Hid _ := hc
     have hcp : EE = l := beq_iff_eq.1 hc
     have HD2 : Hid _ := HD.out.1 ⟨HOKN.out, hcp⟩
     clear hcp hc
     go_wp2_with (go_at_call 124; refine (equal_u _ _ _ 64 _ 64 _ _ _ HY.out HB4.out _ HC.out).mono ?_; rintro e w9 ⟨rfl, rfl⟩)
     rw [HD2.out.1, HD2.out.2]
     exact st_ret R4.out BW4.out (Nat.le_refl _) _ _ _ rfl rfl rfl Tryz.underlying63 rfl (by kernel_rfl) (fun w' k' b' => ⟨_, _, rfl, (HOI4.out.keptL k' HLT.out).mono BW1.out.size, (HOK4.out.keptL k' HLT.out).mono BW1.out.size, b'⟩)
theorem decode_u (w : World) (a : Option Addr) (n cap : Nat) (l : List UInt8) (hn : n ≤ 140737488351232) (hcap : n ≤ cap) (hnil : a = none → cap = 0) (hB : IsB w a n l) :
 Calls Tryz.prog 100 #[.slice a n cap] w fun e w' => ∃ v v', e = .returned (.tuple #[.agg #[v, v'], .int .i64 (Lf.decodeE l)]) ∧ OwnI 45 w' w.heap.size v (Lf.decodeN l).1 ∧ OwnK 3 w' w.heap.size v' (Lf.decodeN l).2 ∧ Below w.heap.size w w' := by
 have hl := hB.1
 by_cases h : n = 64
 · subst h
   by_cases hE : Crc.openE l = 0
   · by_cases hk : (Crc.openL l).getD 0 0 = 1 ∨ (Crc.openL l).getD 0 0 = 2
     · exact decode_in w a cap l hcap hnil hB hE hk
     · rw [(Lf.decode_kind hl hE hk).1, (Lf.decode_kind hl hE hk).2]
       exact decode_kind w a cap l hcap hnil hB hE hk
   · rw [(Lf.decode_refused hl hE).1, (Lf.decode_refused hl hE).2]
     exact decode_open w a cap l hcap hnil hB hE
 · rw [(Lf.decode_length (b := l) (by omega)).1, (Lf.decode_length (b := l) (by omega)).2]
   exact decode_short w a n cap hn h
end Go.Proofs.YtkbmadoaomoojaaGreat
