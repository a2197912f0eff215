/-
  Facts that the proof rests on, part 16. Conditions: those that each of them names.
-/
import Derived.Deep.RegionWith
import Derived.Test.YtkbmadoaomoojaaGreatK00
import Derived.Test.YtkbmadoaomoojaaGreatK06
import Derived.Test.YtkbmadoaomoojaaGreatK13
import Derived.Test.YtkbmadoaomoojaaGreatK14
namespace Go.Proofs.YtkbmadoaomoojaaGreat
set_option maxRecDepth 20000
open Go.RowKit
set_option linter.unusedVariables false
theorem Lf.keyR_nat (b : List UInt8) (k : Nat) : (Lf.getN b (4 + 8 * k) 8 : Nat) = (Lf.keyR b k).toNat := by
 unfold Lf.keyR
 rw [UInt64.toNat_ofNat', Nat.mod_eq_of_lt (Lf.getN_lt b _ 8 (by decide) (by decide))]
theorem Lf.valR_nat (b : List UInt8) (k m : Nat) (hm : Lf.cnt b = m) : (Lf.getN b (4 + 8 * m + 8 * k) 8 : Nat) = (Lf.valR b k).toNat := by
 unfold Lf.valR
 rw [hm, UInt64.toNat_ofNat', Nat.mod_eq_of_lt (Lf.getN_lt b _ 8 (by decide) (by decide))]
theorem OwnI.ofRow {w : World} {g base m : Nat} {l : List Itm} (h : Row w g 45 (itmCells l)) (hl : l.length = m) (hb : base ≤ g) (hm : m ≤ 1000000) : OwnI 45 w base (.slice (some ⟨g, 0, none⟩) m m) l := by
 subst hl
 exact ⟨⟨itmCells_length l, .inr ⟨g, l.length, _, rfl, hb, h.eq, Nat.le_refl _, by unfold maxLen; omega, by simp [itmCells_length], by simp [← itmCells_length]⟩⟩⟩
set_option maxHeartbeats 2000000 in
theorem read_no (w : World) (xb xo cap : Nat) (b : List UInt8) (hB : IsB w (some ⟨xb, xo, none⟩) 60 b) (hk : ¬ (b.getD 0 0 = 1 ∨ b.getD 0 0 = 2)) :
 Calls Tryz.prog 123 #[.slice (some ⟨xb, xo, none⟩) 60 cap] w fun e w' => e = .returned (.tuple #[.agg #[.slice none 0 0, .slice none 0 0], .bool false]) ∧ Below w.heap.size w w' := by
 have HKd : Hid _ := hk
 clear hk
 have HL : Hid (b.length = 60) := hB.1
 have hxb : xb < w.heap.size := hB.lt
 obtain ⟨w0, hw0, V0, b0, z0⟩ := boxedRow w 53 [.slice (some ⟨xb, xo, none⟩) 60 cap]
 obtain ⟨w1, hw1, V1, b1, z1⟩ := boxedRow w0 63 [.slice none 0 0, .slice none 0 0]
 rw [z0] at V1 z1
 obtain ⟨w2, hw2, V2, b2, z2⟩ := boxedRow w1 3 [.int .i64 0]
 rw [z1] at V2 z2
 have f2 := V2.frozen 0
 have c2 := V2.cell (j := 0) rfl
 obtain ⟨w3, hw3⟩ : ∃ w3, w2.setCell ⟨w.heap.size + 1 + 1, 0, none⟩ (.int .i64 0) = w3 := ⟨_, rfl⟩
 have HRd : Hid (Reads (w.heap.size + 1 + 1) w.heap.size xb xo cap b w3 (0)) := by
  rw [← hw3]
  exact ⟨V2.set 0 (.int .i64 0), ((V0.below b1).below b2).setO (p := ⟨w.heap.size + 1 + 1, 0, none⟩) (by show w.heap.size + 1 + 1 ≠ _; omega) _, (((hB.below b0).below b1).below b2).keepB (Below.heap_setCell _ _ _ _ (by show xb ≠ w.heap.size + 1 + 1; omega))⟩
 have HRes : Hid (Row w3 (w.heap.size + 1) 63 [.slice none 0 0, .slice none 0 0]) := by
  rw [← hw3]
  exact (V1.below b2).setO (p := ⟨w.heap.size + 1 + 1, 0, none⟩) (by show w.heap.size + 1 + 1 ≠ _; omega) _
 have B3 : Hid (Below w.heap.size w w3) := by
  rw [← hw3]
  exact (on (on b0 b1) b2).setCell (p := ⟨w.heap.size + 1 + 1, 0, none⟩) (by show w.heap.size ≤ w.heap.size + 1 + 1; omega) _
 clear V0 V1 V2 b0 b1 b2 z2 hB
 go_enter Tryz.func123, Tryz.ntmps123
 go_wp2_with fail
 refine (next_c _ _ xb xo cap b _ 0 (by omega) (by omega) HRd.out 1 _ rfl (by decide) (by decide)).mono ?_
 rintro e w4 ⟨rfl, rd4, k4⟩
 rw [Lf.getN_one (p := 0) (by rw [HL.out]; decide)]
 have RD4 : Hid _ := rd4
 have R4 : Hid (Row w4 (w.heap.size + 1) 63 [.slice none 0 0, .slice none 0 0]) := HRes.out.kept1 k4 (by omega)
 have B4 : Hid (Below w.heap.size w w4) := kept_below1 B3.out k4 B3.out.size (by omega)
 clear rd4 k4 f2 c2 hw0 hw1 hw2 hw3 z0 z1 HRd HRes B3
 obtain ⟨X, hX⟩ : ∃ X, X = b.getD 0 0 := ⟨_, rfl⟩
 rw [← hX] at HKd ⊢
 have k1 : ((X.toNat : Int) != 1) = true := u8_no (q := 1) (by decide) (fun e => HKd.out (.inl e))
 have k2 : ((X.toNat : Int) != 2) = true := u8_no (q := 2) (by decide) (fun e => HKd.out (.inr e))
 clear hX
 obtain ⟨z0, z1⟩ := R4.out.two
 have f0 := R4.out.frozen 0
 have f1 := R4.out.frozen 1
 go_wp2
 exact st_retv R4.out B4.out (by omega) _ _ _ rfl rfl rfl Tryz.underlying63 rfl (by kernel_rfl) (fun w' _ b' => ⟨rfl, b'⟩)
set_option maxRecDepth 20000 in
set_option maxHeartbeats 8000000 in
theorem read_leaf (w : World) (xb xo cap : Nat) (b : List UInt8) (hB : IsB w (some ⟨xb, xo, none⟩) 60 b) (hk : b.getD 0 0 = 1) :
 Calls Tryz.prog 123 #[.slice (some ⟨xb, xo, none⟩) 60 cap] w fun e w' => ∃ v v', e = .returned (.tuple #[.agg #[v, v'], .bool true]) ∧ OwnI 45 w' w.heap.size v (Lf.readN b).1 ∧ OwnK 3 w' w.heap.size v' (Lf.readN b).2 ∧ Below w.heap.size w w' := by
 have HKd : Hid (b.getD 0 0 = 1) := hk
 clear hk
 have HL : Hid (b.length = 60) := hB.1
 have hxb : xb < w.heap.size := hB.lt
 obtain ⟨w0, hw0, V0, b0, z0⟩ := boxedRow w 53 [.slice (some ⟨xb, xo, none⟩) 60 cap]
 obtain ⟨w1, hw1, V1, b1, z1⟩ := boxedRow w0 63 [.slice none 0 0, .slice none 0 0]
 rw [z0] at V1 z1
 obtain ⟨w2, hw2, V2, b2, z2⟩ := boxedRow w1 3 [.int .i64 0]
 rw [z1] at V2 z2
 have f2 := V2.frozen 0
 have c2 := V2.cell (j := 0) rfl
 obtain ⟨w3, hw3⟩ : ∃ w3, w2.setCell ⟨w.heap.size + 1 + 1, 0, none⟩ (.int .i64 0) = w3 := ⟨_, rfl⟩
 have HRd : Hid (Reads (w.heap.size + 1 + 1) w.heap.size xb xo cap b w3 (0)) := by
  rw [← hw3]
  exact ⟨V2.set 0 (.int .i64 0), ((V0.below b1).below b2).setO (p := ⟨w.heap.size + 1 + 1, 0, none⟩) (by show w.heap.size + 1 + 1 ≠ _; omega) _, (((hB.below b0).below b1).below b2).keepB (Below.heap_setCell _ _ _ _ (by show xb ≠ w.heap.size + 1 + 1; omega))⟩
 have HRes : Hid (Row w3 (w.heap.size + 1) 63 [.slice none 0 0, .slice none 0 0]) := by
  rw [← hw3]
  exact (V1.below b2).setO (p := ⟨w.heap.size + 1 + 1, 0, none⟩) (by show w.heap.size + 1 + 1 ≠ _; omega) _
 have B3 : Hid (Below w.heap.size w w3) := by
  rw [← hw3]
  exact (on (on b0 b1) b2).setCell (p := ⟨w.heap.size + 1 + 1, 0, none⟩) (by show w.heap.size ≤ w.heap.size + 1 + 1; omega) _
 clear V0 V1 V2 b0 b1 b2 z2 hB
 go_enter Tryz.func123, Tryz.ntmps123
 go_wp2_with fail
 refine (next_c _ _ xb xo cap b _ 0 (by omega) (by omega) HRd.out 1 _ rfl (by decide) (by decide)).mono ?_
 rintro e w4 ⟨rfl, rd4, k4⟩
 rw [Lf.getN_one (p := 0) (by rw [HL.out]; decide)]
 have RD4 : Hid _ := rd4
 have R4 : Hid (Row w4 (w.heap.size + 1) 63 [.slice none 0 0, .slice none 0 0]) := HRes.out.kept1 k4 (by omega)
 have B4 : Hid (Below w.heap.size w w4) := kept_below1 B3.out k4 B3.out.size (by omega)
 clear rd4 k4 f2 c2 hw0 hw1 hw2 hw3 z0 z1 HRd HRes B3
 rw [show ((b.getD 0 0).toNat : Int) = 1 by rw [HKd.out]; rfl]
 go_wp2_with fail
 refine (next_c _ _ xb xo cap b _ 1 (by omega) (by omega) RD4.out 1 _ rfl (by decide) (by decide)).mono ?_
 rintro e w5 ⟨rfl, rd5, k5⟩
 rw [Lf.getN_one (p := 1) (by rw [HL.out]; decide)]
 obtain ⟨m, hm⟩ : ∃ m, m = Lf.cnt b := ⟨_, rfl⟩
 rw [show (b.getD 1 0).toNat = m from hm.symm]
 have HM : Hid (Lf.cnt b = m) := hm.symm
 have hm1 : m ≤ 255 := by have := Lf.cnt_lt b; omega
 have RD5 : Hid _ := rd5
 have R5 : Hid (Row w5 (w.heap.size + 1) 63 [.slice none 0 0, .slice none 0 0]) := R4.out.kept1 k5 (by omega)
 have B5 : Hid (Below w.heap.size w w5) := kept_below1 B4.out k5 B4.out.size (by omega)
 clear rd5 k5 hm RD4 R4 B4
 go_wp2_with fail
 refine (next_c _ _ xb xo cap b _ 2 (by omega) (by omega) RD5.out 2 _ rfl (by decide) (by decide)).mono ?_
 rintro e w6 ⟨rfl, rd6, k6⟩
 have RD6 : Hid _ := rd6
 have R6 : Hid (Row w6 (w.heap.size + 1) 63 [.slice none 0 0, .slice none 0 0]) := R5.out.kept1 k6 (by omega)
 have B6 : Hid (Below w.heap.size w w6) := kept_below1 B5.out k6 B5.out.size (by omega)
 have hg6 : w.heap.size + 1 + 1 < w6.heap.size := RD6.out.spot.lt
 clear rd6 k6 RD5 R5 B5
 obtain ⟨GN2, hGN2⟩ : ∃ GN2, GN2 = Lf.getN b 2 2 := ⟨_, rfl⟩
 rw [← hGN2]
 clear hGN2
 go_wp2_with (at_make; refine make_itms _ rfl _ _ rfl m _ rfl rfl rfl (by omega) ?_
              intro w7 HI7 b7 z7
              obtain ⟨w8, hw8, V8, b8, z8⟩ := boxedRow w7 63 [.slice (some ⟨w6.heap.size, 0, none⟩) m m, .slice none 0 0]
              rw [z7] at V8 z8
              have f8 := V8.frozen 1
              have c8 := V8.cell (j := 1) rfl
              obtain ⟨w9, hw9⟩ : ∃ w9, w8.setCell ⟨w6.heap.size + 1, 1, none⟩ (.slice none 0 0) = w9 := ⟨_, rfl⟩
              have N9 : Hid (Row w9 (w6.heap.size + 1) 63 [.slice (some ⟨w6.heap.size, 0, none⟩) m m, .slice none 0 0]) := (by rw [← hw9]; exact V8.set 1 (.slice none 0 0))
              have I9 : Hid (Row w9 w6.heap.size 45 (itmCells (Lf.itemsK b 0))) := (by rw [← hw9, Lf.itemsK_zero, HM.out]; exact (HI7.out.below b8).setO (p := ⟨w6.heap.size + 1, 1, none⟩) (by show w6.heap.size + 1 ≠ _; omega) _)
              have R9 : Hid (Row w9 (w.heap.size + 1) 63 [.slice none 0 0, .slice none 0 0]) := (by rw [← hw9]; exact ((R6.out.below b7).below b8).setO (p := ⟨w6.heap.size + 1, 1, none⟩) (by show w6.heap.size + 1 ≠ _; omega) _)
              have RD9 : Hid (Reads (w.heap.size + 1 + 1) w.heap.size xb xo cap b w9 (4 + 8 * 0)) := (by rw [← hw9]; exact ((RD6.out.below b7).below b8).keep (fun x hx => Below.heap_setCell _ _ _ _ (by show x ≠ w6.heap.size + 1; omega)))
              have B9 : Hid (Below w.heap.size w w9) := (by rw [← hw9]; exact (on (on B6.out b7) b8).setCell (p := ⟨w6.heap.size + 1, 1, none⟩) (by show w.heap.size ≤ w6.heap.size + 1; omega) _)
              obtain ⟨t0, t1⟩ := N9.out.two
              clear HI7 b7 V8 b8 z8)
 clear t0 t1 f8 c8 hw8 hw9 z7
 go_loopw [32] (fun i wr => ∃ k : Nat, k ≤ m ∧ i = .int .i64 k ∧ Hid (Reads (w.heap.size + 1 + 1) w.heap.size xb xo cap b wr (4 + 8 * k)) ∧ Hid (Row wr w6.heap.size 45 (itmCells (Lf.itemsK b k))) ∧ Hid (Row wr (w6.heap.size + 1) 63 [.slice (some ⟨w6.heap.size, 0, none⟩) m m, .slice none 0 0]) ∧ Hid (Row wr (w.heap.size + 1) 63 [.slice none 0 0, .slice none 0 0]) ∧ Below w.heap.size w wr) (fun i _ => m - (intOf i).toNat)
 case atStart => exact ⟨0, Nat.zero_le _, rfl, RD9, I9, N9, R9, B9.out⟩
 case round =>
  obtain ⟨k, hk, rfl, HRd, HI, HN, HR, bel⟩ := hrel
  by_cases hlt : k < m
  · have HKl : Hid (k < Lf.cnt b) := by unfold Hid; rw [HM.out]; exact hlt
    have hkz : (k : Int) < (m : Int) := by omega
    have BR : Hid _ := bel
    clear bel
    go_wp2_with fail
    refine wp_region_held_drew (S := (fun w' : World => w'.cell? ⟨w6.heap.size + 1, 0, none⟩ = some (.slice (some ⟨w6.heap.size, 0, none⟩) m m))) (by kernel_rfl) ((HN.out.keep rfl : Row wr.drew _ _ _).two.1) (fun hH => ?_)
    refine tkM 0 _ rfl rfl ?_; simp only [sz, ss]
    refine tkM 1 _ rfl rfl ?_; simp only [sz, ss]
    refine tkM 2 _ rfl rfl ?_; simp only [sz, ss]
    refine tkM 3 _ rfl rfl ?_; simp only [sz, ss]
    refine r1L 4 rfl fun K hK => ?_
    · go_simp
      go_at_call 138
      refine Calls.mono (next_c _ _ xb xo cap b wr.drew (4 + 8 * k) (by omega) (by omega) (HRd.out.keep (fun _ _ => rfl)) 8 _ rfl (by decide) (by omega)) ?_
      rintro e w3 ⟨rfl, rd3, k3⟩
      rw [Lf.keyR_nat]
      have RD3 : Hid (Reads (w.heap.size + 1 + 1) w.heap.size xb xo cap b w3 (4 + 8 * (k + 1))) := by
       rw [show 4 + 8 * (k + 1) = 4 + 8 * k + 8 by omega]
       exact rd3
      have N3 : Hid (Row w3 (w6.heap.size + 1) 63 [.slice (some ⟨w6.heap.size, 0, none⟩) m m, .slice none 0 0]) := (HN.out.keep rfl : Row wr.drew _ _ _).kept1 k3 (by omega)
      have I3 : Hid (Row w3 w6.heap.size 45 (itmCells (Lf.itemsK b k))) := (HI.out.keep rfl : Row wr.drew _ _ _).kept1 k3 (by omega)
      have R3 : Hid (Row w3 (w.heap.size + 1) 63 [.slice none 0 0, .slice none 0 0]) := (HR.out.keep rfl : Row wr.drew _ _ _).kept1 k3 (by omega)
      have B3 : Hid (Below w.heap.size w w3) := kept_below1 (w := wr.drew) (BR.out.drew) k3 BR.out.size (by omega)
      have i0 := I3.out.cell (j := k * 2) (itmCells_get (by rw [Lf.itemsK_len]; exact HKl.out)).1
      have i1 := I3.out.frozen (k * 2)
      clear rd3 k3
      go_simp
      refine hK.out _ _ ?_ (fun hH => ?_)
      · try dsimp only
        exact N3.out.two.1
      clear hK K
      refine tkM 5 _ rfl rfl ?_; simp only [sz, ss]
      refine tkM 6 _ rfl rfl ?_; simp only [sz, ss]
      refine r1L 7 rfl fun K hK => ?_
      · go_simp
        refine hK.out _ _ ?_ (fun hH => ?_)
        · try dsimp only
          exact (N3.out.setO (p := ⟨w6.heap.size, k * 2, none⟩) (by show w6.heap.size ≠ _; omega) _).two.1
        clear hK K
        refine wpAnyH_done (by kernel_rfl) ?_ _
        clear hH
        have I5 : Hid (Row (w3.setCell ⟨w6.heap.size, k * 2, none⟩ (.int .u64 ((Lf.keyR b k).toNat : Int))) w6.heap.size 45 (itmCells (Lf.itemsK b (k + 1)))) := by
         have h := I3.out.set (k * 2) (.int .u64 ((Lf.keyR b k).toNat : Int))
         rw [itmCells_set1 _ _ (by rw [Lf.itemsK_len]; exact HKl.out), Lf.itemsK_next HKl.out] at h
         exact h
        have N5 : Hid (Row (w3.setCell ⟨w6.heap.size, k * 2, none⟩ (.int .u64 ((Lf.keyR b k).toNat : Int))) (w6.heap.size + 1) 63 [.slice (some ⟨w6.heap.size, 0, none⟩) m m, .slice none 0 0]) := N3.out.setO (p := ⟨w6.heap.size, k * 2, none⟩) (by show w6.heap.size ≠ _; omega) _
        have R5 : Hid (Row (w3.setCell ⟨w6.heap.size, k * 2, none⟩ (.int .u64 ((Lf.keyR b k).toNat : Int))) (w.heap.size + 1) 63 [.slice none 0 0, .slice none 0 0]) := R3.out.setO (p := ⟨w6.heap.size, k * 2, none⟩) (by show w6.heap.size ≠ _; omega) _
        have RD5 : Hid (Reads (w.heap.size + 1 + 1) w.heap.size xb xo cap b (w3.setCell ⟨w6.heap.size, k * 2, none⟩ (.int .u64 ((Lf.keyR b k).toNat : Int))) (4 + 8 * (k + 1))) := RD3.out.keep (fun x hx => Below.heap_setCell _ _ _ _ (by show x ≠ w6.heap.size; omega))
        have B5 : Hid (Below w.heap.size w (w3.setCell ⟨w6.heap.size, k * 2, none⟩ (.int .u64 ((Lf.keyR b k).toNat : Int)))) := B3.out.setCell (p := ⟨w6.heap.size, k * 2, none⟩) (by show w.heap.size ≤ w6.heap.size; omega) _
        go_wp2
        go_roundw
        case rel => exact ⟨k + 1, by omega, by go_num, RD5, I5, N5, R5, B5.out⟩
        case measure => simp [intOf]; omega
  · obtain rfl : m = k := by omega
    obtain ⟨t0, t1⟩ := HN.out.two
    go_wp2
    clear t0 t1
    go_loopw [48] (fun i wr => ∃ k : Nat, k ≤ m ∧ i = .int .i64 k ∧ Hid (Reads (w.heap.size + 1 + 1) w.heap.size xb xo cap b wr (4 + 8 * m + 8 * k)) ∧ Hid (Row wr w6.heap.size 45 (itmCells (Lf.itemsV b k))) ∧ Hid (Row wr (w6.heap.size + 1) 63 [.slice (some ⟨w6.heap.size, 0, none⟩) m m, .slice none 0 0]) ∧ Hid (Row wr (w.heap.size + 1) 63 [.slice none 0 0, .slice none 0 0]) ∧ Below w.heap.size w wr) (fun i _ => m - (intOf i).toNat)
    case atStart => exact ⟨0, Nat.zero_le _, rfl, HRd, by rw [Lf.itemsV_zero, HM.out]; exact HI, HN, HR, bel⟩
    case round =>
     clear HRd HI HN HR bel
     obtain ⟨k, hk, rfl, HRd, HI, HN, HR, bel⟩ := hrel
     by_cases hlt : k < m
     · have HKl : Hid (k < Lf.cnt b) := by unfold Hid; rw [HM.out]; exact hlt
       have hkz : (k : Int) < (m : Int) := by omega
       have BR : Hid _ := bel
       clear bel
       go_wp2_with fail
       refine wp_region_held_drew (S := (fun w' : World => w'.cell? ⟨w6.heap.size + 1, 0, none⟩ = some (.slice (some ⟨w6.heap.size, 0, none⟩) m m))) (by kernel_rfl) ((HN.out.keep rfl : Row wr.drew _ _ _).two.1) (fun hH => ?_)
       refine tkM 0 _ rfl rfl ?_; simp only [sz, ss]
       refine tkM 1 _ rfl rfl ?_; simp only [sz, ss]
       refine tkM 2 _ rfl rfl ?_; simp only [sz, ss]
       refine tkM 3 _ rfl rfl ?_; simp only [sz, ss]
       refine r1L 4 rfl fun K hK => ?_
       · go_simp
         go_at_call 138
         refine Calls.mono (next_c _ _ xb xo cap b wr.drew (4 + 8 * m + 8 * k) (by omega) (by omega) (HRd.out.keep (fun _ _ => rfl)) 8 _ rfl (by decide) (by omega)) ?_
         rintro e w3 ⟨rfl, rd3, k3⟩
         rw [Lf.valR_nat b k m HM.out]
         have RD3 : Hid (Reads (w.heap.size + 1 + 1) w.heap.size xb xo cap b w3 (4 + 8 * m + 8 * (k + 1))) := by
          rw [show 4 + 8 * m + 8 * (k + 1) = 4 + 8 * m + 8 * k + 8 by omega]
          exact rd3
         have N3 : Hid (Row w3 (w6.heap.size + 1) 63 [.slice (some ⟨w6.heap.size, 0, none⟩) m m, .slice none 0 0]) := (HN.out.keep rfl : Row wr.drew _ _ _).kept1 k3 (by omega)
         have I3 : Hid (Row w3 w6.heap.size 45 (itmCells (Lf.itemsV b k))) := (HI.out.keep rfl : Row wr.drew _ _ _).kept1 k3 (by omega)
         have R3 : Hid (Row w3 (w.heap.size + 1) 63 [.slice none 0 0, .slice none 0 0]) := (HR.out.keep rfl : Row wr.drew _ _ _).kept1 k3 (by omega)
         have B3 : Hid (Below w.heap.size w w3) := kept_below1 (w := wr.drew) (BR.out.drew) k3 BR.out.size (by omega)
         have i0 := I3.out.cell (j := k * 2 + 1) (itmCells_get (by rw [Lf.itemsV_len]; exact HKl.out)).2
         have i1 := I3.out.frozen (k * 2 + 1)
         clear rd3 k3
         go_simp
         refine hK.out _ _ ?_ (fun hH => ?_)
         · try dsimp only
           exact N3.out.two.1
         clear hK K
         refine tkM 5 _ rfl rfl ?_; simp only [sz, ss]
         refine tkM 6 _ rfl rfl ?_; simp only [sz, ss]
         refine r1L 7 rfl fun K hK => ?_
         · go_simp
           refine hK.out _ _ ?_ (fun hH => ?_)
           · try dsimp only
             exact (N3.out.setO (p := ⟨w6.heap.size, k * 2 + 1, none⟩) (by show w6.heap.size ≠ _; omega) _).two.1
           clear hK K
           refine wpAnyH_done (by kernel_rfl) ?_ _
           clear hH
           have I5 : Hid (Row (w3.setCell ⟨w6.heap.size, k * 2 + 1, none⟩ (.int .u64 ((Lf.valR b k).toNat : Int))) w6.heap.size 45 (itmCells (Lf.itemsV b (k + 1)))) := by
            have h := I3.out.set (k * 2 + 1) (.int .u64 ((Lf.valR b k).toNat : Int))
            rw [itmCells_set2 _ _ (by rw [Lf.itemsV_len]; exact HKl.out), Lf.itemsV_next HKl.out] at h
            exact h
           have N5 : Hid (Row (w3.setCell ⟨w6.heap.size, k * 2 + 1, none⟩ (.int .u64 ((Lf.valR b k).toNat : Int))) (w6.heap.size + 1) 63 [.slice (some ⟨w6.heap.size, 0, none⟩) m m, .slice none 0 0]) := N3.out.setO (p := ⟨w6.heap.size, k * 2 + 1, none⟩) (by show w6.heap.size ≠ _; omega) _
           have R5 : Hid (Row (w3.setCell ⟨w6.heap.size, k * 2 + 1, none⟩ (.int .u64 ((Lf.valR b k).toNat : Int))) (w.heap.size + 1) 63 [.slice none 0 0, .slice none 0 0]) := R3.out.setO (p := ⟨w6.heap.size, k * 2 + 1, none⟩) (by show w6.heap.size ≠ _; omega) _
           have RD5 : Hid (Reads (w.heap.size + 1 + 1) w.heap.size xb xo cap b (w3.setCell ⟨w6.heap.size, k * 2 + 1, none⟩ (.int .u64 ((Lf.valR b k).toNat : Int))) (4 + 8 * m + 8 * (k + 1))) := RD3.out.keep (fun x hx => Below.heap_setCell _ _ _ _ (by show x ≠ w6.heap.size; omega))
           have B5 : Hid (Below w.heap.size w (w3.setCell ⟨w6.heap.size, k * 2 + 1, none⟩ (.int .u64 ((Lf.valR b k).toNat : Int)))) := B3.out.setCell (p := ⟨w6.heap.size, k * 2 + 1, none⟩) (by show w.heap.size ≤ w6.heap.size; omega) _
           go_wp2
           go_roundw
           case rel => exact ⟨k + 1, by omega, by go_num, RD5, I5, N5, R5, B5.out⟩
           case measure => simp [intOf]; omega
     · obtain rfl : m = k := by omega
       have HIf : Hid (Row wr w6.heap.size 45 (itmCells (Lf.readI b))) := by have h := HI.out; rw [← HM.out, Lf.itemsV_all HKd.out] at h; exact h
       obtain ⟨t0, t1⟩ := HN.out.two
       obtain ⟨s0, s1⟩ := HR.out.two
       have g0 := HR.out.frozen 0
       have g1 := HR.out.frozen 1
       go_wp2
       refine st_retv HR.out bel (by omega) _ _ _ rfl rfl rfl Tryz.underlying63 rfl (by kernel_rfl) ?_
       intro w' K' B'
       exact ⟨_, _, rfl, OwnI.ofRow (HIf.out.keep (K'.block _ (by omega))) (by show (Lf.readI b).length = m; rw [Lf.readI_len, HM.out]) (by omega) (by omega), (by show OwnK _ _ _ _ (Lf.readK b); rw [Lf.readK_leaf HKd.out]; exact OwnK.nil _ _ _), B'⟩
set_option maxRecDepth 20000 in
set_option maxHeartbeats 8000000 in
theorem read_kids (w : World) (xb xo cap : Nat) (b : List UInt8) (hB : IsB w (some ⟨xb, xo, none⟩) 60 b) (hk : b.getD 0 0 = 2) :
 Calls Tryz.prog 123 #[.slice (some ⟨xb, xo, none⟩) 60 cap] w fun e w' => ∃ v v', e = .returned (.tuple #[.agg #[v, v'], .bool true]) ∧ OwnI 45 w' w.heap.size v (Lf.readN b).1 ∧ OwnK 3 w' w.heap.size v' (Lf.readN b).2 ∧ Below w.heap.size w w' := by
 have HKd : Hid (b.getD 0 0 = 2) := hk
 clear hk
 have HL : Hid (b.length = 60) := hB.1
 have hxb : xb < w.heap.size := hB.lt
 obtain ⟨w0, hw0, V0, b0, z0⟩ := boxedRow w 53 [.slice (some ⟨xb, xo, none⟩) 60 cap]
 obtain ⟨w1, hw1, V1, b1, z1⟩ := boxedRow w0 63 [.slice none 0 0, .slice none 0 0]
 rw [z0] at V1 z1
 obtain ⟨w2, hw2, V2, b2, z2⟩ := boxedRow w1 3 [.int .i64 0]
 rw [z1] at V2 z2
 have f2 := V2.frozen 0
 have c2 := V2.cell (j := 0) rfl
 obtain ⟨w3, hw3⟩ : ∃ w3, w2.setCell ⟨w.heap.size + 1 + 1, 0, none⟩ (.int .i64 0) = w3 := ⟨_, rfl⟩
 have HRd : Hid (Reads (w.heap.size + 1 + 1) w.heap.size xb xo cap b w3 (0)) := by
  rw [← hw3]
  exact ⟨V2.set 0 (.int .i64 0), ((V0.below b1).below b2).setO (p := ⟨w.heap.size + 1 + 1, 0, none⟩) (by show w.heap.size + 1 + 1 ≠ _; omega) _, (((hB.below b0).below b1).below b2).keepB (Below.heap_setCell _ _ _ _ (by show xb ≠ w.heap.size + 1 + 1; omega))⟩
 have HRes : Hid (Row w3 (w.heap.size + 1) 63 [.slice none 0 0, .slice none 0 0]) := by
  rw [← hw3]
  exact (V1.below b2).setO (p := ⟨w.heap.size + 1 + 1, 0, none⟩) (by show w.heap.size + 1 + 1 ≠ _; omega) _
 have B3 : Hid (Below w.heap.size w w3) := by
  rw [← hw3]
  exact (on (on b0 b1) b2).setCell (p := ⟨w.heap.size + 1 + 1, 0, none⟩) (by show w.heap.size ≤ w.heap.size + 1 + 1; omega) _
 clear V0 V1 V2 b0 b1 b2 z2 hB
 go_enter Tryz.func123, Tryz.ntmps123
 go_wp2_with fail
 refine (next_c _ _ xb xo cap b _ 0 (by omega) (by omega) HRd.out 1 _ rfl (by decide) (by decide)).mono ?_
 rintro e w4 ⟨rfl, rd4, k4⟩
 rw [Lf.getN_one (p := 0) (by rw [HL.out]; decide)]
 have RD4 : Hid _ := rd4
 have R4 : Hid (Row w4 (w.heap.size + 1) 63 [.slice none 0 0, .slice none 0 0]) := HRes.out.kept1 k4 (by omega)
 have B4 : Hid (Below w.heap.size w w4) := kept_below1 B3.out k4 B3.out.size (by omega)
 clear rd4 k4 f2 c2 hw0 hw1 hw2 hw3 z0 z1 HRd HRes B3
 rw [show ((b.getD 0 0).toNat : Int) = 2 by rw [HKd.out]; rfl]
 go_wp2_with fail
 refine (next_c _ _ xb xo cap b _ 1 (by omega) (by omega) RD4.out 1 _ rfl (by decide) (by decide)).mono ?_
 rintro e w5 ⟨rfl, rd5, k5⟩
 rw [Lf.getN_one (p := 1) (by rw [HL.out]; decide)]
 obtain ⟨m, hm⟩ : ∃ m, m = Lf.cnt b := ⟨_, rfl⟩
 rw [show (b.getD 1 0).toNat = m from hm.symm]
 have HM : Hid (Lf.cnt b = m) := hm.symm
 have hm1 : m ≤ 255 := by have := Lf.cnt_lt b; omega
 have RD5 : Hid _ := rd5
 have R5 : Hid (Row w5 (w.heap.size + 1) 63 [.slice none 0 0, .slice none 0 0]) := R4.out.kept1 k5 (by omega)
 have B5 : Hid (Below w.heap.size w w5) := kept_below1 B4.out k5 B4.out.size (by omega)
 clear rd5 k5 hm RD4 R4 B4
 go_wp2_with fail
 refine (next_c _ _ xb xo cap b _ 2 (by omega) (by omega) RD5.out 2 _ rfl (by decide) (by decide)).mono ?_
 rintro e w6 ⟨rfl, rd6, k6⟩
 have RD6 : Hid _ := rd6
 have R6 : Hid (Row w6 (w.heap.size + 1) 63 [.slice none 0 0, .slice none 0 0]) := R5.out.kept1 k6 (by omega)
 have B6 : Hid (Below w.heap.size w w6) := kept_below1 B5.out k6 B5.out.size (by omega)
 have hg6 : w.heap.size + 1 + 1 < w6.heap.size := RD6.out.spot.lt
 clear rd6 k6 RD5 R5 B5
 obtain ⟨GN2, hGN2⟩ : ∃ GN2, GN2 = Lf.getN b 2 2 := ⟨_, rfl⟩
 rw [← hGN2]
 clear hGN2
 go_wp2_with (at_make; refine make_itms _ rfl _ _ rfl m _ rfl rfl rfl (by omega) ?_
              intro w7 HI7 b7 z7
              obtain ⟨w8, hw8, V8, b8, z8⟩ := boxedRow w7 63 [.slice (some ⟨w6.heap.size, 0, none⟩) m m, .slice none 0 0]
              rw [z7] at V8 z8
              have f8 := V8.frozen 1
              have c8 := V8.cell (j := 1) rfl
              obtain ⟨w9, hw9⟩ : ∃ w9, w8.setCell ⟨w6.heap.size + 1, 1, none⟩ (.slice none 0 0) = w9 := ⟨_, rfl⟩
              have N9 : Hid (Row w9 (w6.heap.size + 1) 63 [.slice (some ⟨w6.heap.size, 0, none⟩) m m, .slice none 0 0]) := (by rw [← hw9]; exact V8.set 1 (.slice none 0 0))
              have I9 : Hid (Row w9 w6.heap.size 45 (itmCells (Lf.itemsK b 0))) := (by rw [← hw9, Lf.itemsK_zero, HM.out]; exact (HI7.out.below b8).setO (p := ⟨w6.heap.size + 1, 1, none⟩) (by show w6.heap.size + 1 ≠ _; omega) _)
              have R9 : Hid (Row w9 (w.heap.size + 1) 63 [.slice none 0 0, .slice none 0 0]) := (by rw [← hw9]; exact ((R6.out.below b7).below b8).setO (p := ⟨w6.heap.size + 1, 1, none⟩) (by show w6.heap.size + 1 ≠ _; omega) _)
              have RD9 : Hid (Reads (w.heap.size + 1 + 1) w.heap.size xb xo cap b w9 (4 + 8 * 0)) := (by rw [← hw9]; exact ((RD6.out.below b7).below b8).keep (fun x hx => Below.heap_setCell _ _ _ _ (by show x ≠ w6.heap.size + 1; omega)))
              have B9 : Hid (Below w.heap.size w w9) := (by rw [← hw9]; exact (on (on B6.out b7) b8).setCell (p := ⟨w6.heap.size + 1, 1, none⟩) (by show w.heap.size ≤ w6.heap.size + 1; omega) _)
              obtain ⟨t0, t1⟩ := N9.out.two
              clear HI7 b7 V8 b8 z8)
 clear t0 t1 f8 c8 hw8 hw9 z7
 go_loopw [32] (fun i wr => ∃ k : Nat, k ≤ m ∧ i = .int .i64 k ∧ Hid (Reads (w.heap.size + 1 + 1) w.heap.size xb xo cap b wr (4 + 8 * k)) ∧ Hid (Row wr w6.heap.size 45 (itmCells (Lf.itemsK b k))) ∧ Hid (Row wr (w6.heap.size + 1) 63 [.slice (some ⟨w6.heap.size, 0, none⟩) m m, .slice none 0 0]) ∧ Hid (Row wr (w.heap.size + 1) 63 [.slice none 0 0, .slice none 0 0]) ∧ Below w.heap.size w wr) (fun i _ => m - (intOf i).toNat)
 case atStart => exact ⟨0, Nat.zero_le _, rfl, RD9, I9, N9, R9, B9.out⟩
 case round =>
  obtain ⟨k, hk, rfl, HRd, HI, HN, HR, bel⟩ := hrel
  by_cases hlt : k < m
  · have HKl : Hid (k < Lf.cnt b) := by unfold Hid; rw [HM.out]; exact hlt
    have hkz : (k : Int) < (m : Int) := by omega
    have BR : Hid _ := bel
    clear bel
    go_wp2_with fail
    refine wp_region_held_drew (S := (fun w' : World => w'.cell? ⟨w6.heap.size + 1, 0, none⟩ = some (.slice (some ⟨w6.heap.size, 0, none⟩) m m))) (by kernel_rfl) ((HN.out.keep rfl : Row wr.drew _ _ _).two.1) (fun hH => ?_)
    refine tkM 0 _ rfl rfl ?_; simp only [sz, ss]
    refine tkM 1 _ rfl rfl ?_; simp only [sz, ss]
    refine tkM 2 _ rfl rfl ?_; simp only [sz, ss]
    refine tkM 3 _ rfl rfl ?_; simp only [sz, ss]
    refine r1L 4 rfl fun K hK => ?_
    · go_simp
      go_at_call 138
      refine Calls.mono (next_c _ _ xb xo cap b wr.drew (4 + 8 * k) (by omega) (by omega) (HRd.out.keep (fun _ _ => rfl)) 8 _ rfl (by decide) (by omega)) ?_
      rintro e w3 ⟨rfl, rd3, k3⟩
      rw [Lf.keyR_nat]
      have RD3 : Hid (Reads (w.heap.size + 1 + 1) w.heap.size xb xo cap b w3 (4 + 8 * (k + 1))) := by
       rw [show 4 + 8 * (k + 1) = 4 + 8 * k + 8 by omega]
       exact rd3
      have N3 : Hid (Row w3 (w6.heap.size + 1) 63 [.slice (some ⟨w6.heap.size, 0, none⟩) m m, .slice none 0 0]) := (HN.out.keep rfl : Row wr.drew _ _ _).kept1 k3 (by omega)
      have I3 : Hid (Row w3 w6.heap.size 45 (itmCells (Lf.itemsK b k))) := (HI.out.keep rfl : Row wr.drew _ _ _).kept1 k3 (by omega)
      have R3 : Hid (Row w3 (w.heap.size + 1) 63 [.slice none 0 0, .slice none 0 0]) := (HR.out.keep rfl : Row wr.drew _ _ _).kept1 k3 (by omega)
      have B3 : Hid (Below w.heap.size w w3) := kept_below1 (w := wr.drew) (BR.out.drew) k3 BR.out.size (by omega)
      have i0 := I3.out.cell (j := k * 2) (itmCells_get (by rw [Lf.itemsK_len]; exact HKl.out)).1
      have i1 := I3.out.frozen (k * 2)
      clear rd3 k3
      go_simp
      refine hK.out _ _ ?_ (fun hH => ?_)
      · try dsimp only
        exact N3.out.two.1
      clear hK K
      refine tkM 5 _ rfl rfl ?_; simp only [sz, ss]
      refine tkM 6 _ rfl rfl ?_; simp only [sz, ss]
      refine r1L 7 rfl fun K hK => ?_
      · go_simp
        refine hK.out _ _ ?_ (fun hH => ?_)
        · try dsimp only
          exact (N3.out.setO (p := ⟨w6.heap.size, k * 2, none⟩) (by show w6.heap.size ≠ _; omega) _).two.1
        clear hK K
        refine wpAnyH_done (by kernel_rfl) ?_ _
        clear hH
        have I5 : Hid (Row (w3.setCell ⟨w6.heap.size, k * 2, none⟩ (.int .u64 ((Lf.keyR b k).toNat : Int))) w6.heap.size 45 (itmCells (Lf.itemsK b (k + 1)))) := by
         have h := I3.out.set (k * 2) (.int .u64 ((Lf.keyR b k).toNat : Int))
         rw [itmCells_set1 _ _ (by rw [Lf.itemsK_len]; exact HKl.out), Lf.itemsK_next HKl.out] at h
         exact h
        have N5 : Hid (Row (w3.setCell ⟨w6.heap.size, k * 2, none⟩ (.int .u64 ((Lf.keyR b k).toNat : Int))) (w6.heap.size + 1) 63 [.slice (some ⟨w6.heap.size, 0, none⟩) m m, .slice none 0 0]) := N3.out.setO (p := ⟨w6.heap.size, k * 2, none⟩) (by show w6.heap.size ≠ _; omega) _
        have R5 : Hid (Row (w3.setCell ⟨w6.heap.size, k * 2, none⟩ (.int .u64 ((Lf.keyR b k).toNat : Int))) (w.heap.size + 1) 63 [.slice none 0 0, .slice none 0 0]) := R3.out.setO (p := ⟨w6.heap.size, k * 2, none⟩) (by show w6.heap.size ≠ _; omega) _
        have RD5 : Hid (Reads (w.heap.size + 1 + 1) w.heap.size xb xo cap b (w3.setCell ⟨w6.heap.size, k * 2, none⟩ (.int .u64 ((Lf.keyR b k).toNat : Int))) (4 + 8 * (k + 1))) := RD3.out.keep (fun x hx => Below.heap_setCell _ _ _ _ (by show x ≠ w6.heap.size; omega))
        have B5 : Hid (Below w.heap.size w (w3.setCell ⟨w6.heap.size, k * 2, none⟩ (.int .u64 ((Lf.keyR b k).toNat : Int)))) := B3.out.setCell (p := ⟨w6.heap.size, k * 2, none⟩) (by show w.heap.size ≤ w6.heap.size; omega) _
        go_wp2
        go_roundw
        case rel => exact ⟨k + 1, by omega, by go_num, RD5, I5, N5, R5, B5.out⟩
        case measure => simp [intOf]; omega
  · obtain rfl : m = k := by omega
    have HIf : Hid (Row wr w6.heap.size 45 (itmCells (Lf.readI b))) := by have h := HI.out; rw [← HM.out, Lf.itemsK_all HKd.out] at h; exact h
    obtain ⟨t0, t1⟩ := HN.out.two
    go_wp2
    clear t0 t1
    go_loopw [62] (fun i wr => ∃ (k : Nat) (ua : Option Addr) (un uc : Nat), k ≤ m + 1 ∧ i = .int .i64 k ∧ Hid (Reads (w.heap.size + 1 + 1) w.heap.size xb xo cap b wr (4 + 8 * m + 4 * k)) ∧ Hid (Row wr w6.heap.size 45 (itmCells (Lf.readI b))) ∧ Hid (Row wr (w6.heap.size + 1) 63 [.slice (some ⟨w6.heap.size, 0, none⟩) m m, .slice ua un uc]) ∧ Hid (Row wr (w.heap.size + 1) 63 [.slice none 0 0, .slice none 0 0]) ∧ Hid (OwnK 3 wr (w6.heap.size + 2) (.slice ua un uc) (Lf.kidsR b k)) ∧ Hid (w6.heap.size + 2 ≤ wr.heap.size) ∧ Below w.heap.size w wr) (fun i _ => m + 1 - (intOf i).toNat)
    case atStart => exact ⟨0, none, 0, 0, Nat.zero_le _, rfl, HRd, HIf, HN, HR, OwnK.nil _ _ _, HN.out.lt, bel⟩
    case round =>
     clear HRd HI HIf HN HR bel
     obtain ⟨k, ua, un, uc, hk, rfl, HRd, HI, HN, HR, HO, HZ, bel⟩ := hrel
     by_cases hlt : k < m + 1
     · have BR : Hid _ := bel
       have HNx : Hid _ := Lf.kidsR_next b k
       obtain ⟨q, hq⟩ : ∃ q, q = Lf.getN b (4 + 8 * m + 4 * k) 4 := ⟨_, rfl⟩
       have hq1 : q < 4294967296 := by rw [hq]; exact Lf.getN_lt b _ 4 (by decide) (by decide)
       have HQ : Hid (Lf.getN b (4 + 8 * m + 4 * k) 4 = q) := hq.symm
       rw [show Lf.kidR b k = (q : Int) by unfold Lf.kidR; rw [HM.out, hq]] at HNx
       clear bel hq
       have q1 := HN.out.cell (j := 1) rfl
       have hkz : (k : Int) < (m : Int) + 1 := by omega
       have hwr : IntKind.i64.wrap (q : Int) = (q : Int) := by rw [IntKind.wrap_i64]; omega
       go_wp2_with fail
       refine wp_region_held_drew (S := (fun _ : World => True)) (by kernel_rfl) (trivial) (fun hH => ?_)
       refine tkM 0 _ rfl rfl ?_; simp only [sz, ss]
       refine tkM 2 _ rfl rfl ?_; simp only [sz, ss]
       refine rdL [1, 3] ?_
       refine rcL (fun K hK => ?_) ?_
       · go_simp
         refine hK.out _ _ ?_ (fun hH => ?_)
         · try dsimp only
           all_goals trivial
         clear hK K
         refine r1L 3 rfl fun K hK => ?_
         · go_simp
           go_at_call 138
           refine Calls.mono (next_c _ _ xb xo cap b wr.drew (4 + 8 * m + 4 * k) (by omega) (by omega) (HRd.out.keep (fun _ _ => rfl)) 4 _ rfl (by decide) (by omega)) ?_
           rintro e w3 ⟨rfl, rd3, k3⟩
           rw [HQ.out]
           have RD3 : Hid (Reads (w.heap.size + 1 + 1) w.heap.size xb xo cap b w3 (4 + 8 * m + 4 * (k + 1))) := (by rw [show 4 + 8 * m + 4 * (k + 1) = 4 + 8 * m + 4 * k + 4 by omega]; exact rd3)
           have N3 : Hid (Row w3 (w6.heap.size + 1) 63 [.slice (some ⟨w6.heap.size, 0, none⟩) m m, .slice ua un uc]) := (HN.out.keep rfl : Row wr.drew _ _ _).kept1 k3 (by omega)
           have I3 : Hid (Row w3 w6.heap.size 45 (itmCells (Lf.readI b))) := (HI.out.keep rfl : Row wr.drew _ _ _).kept1 k3 (by omega)
           have R3 : Hid (Row w3 (w.heap.size + 1) 63 [.slice none 0 0, .slice none 0 0]) := (HR.out.keep rfl : Row wr.drew _ _ _).kept1 k3 (by omega)
           have B3 : Hid (Below w.heap.size w w3) := kept_below1 (w := wr.drew) (BR.out.drew) k3 BR.out.size (by omega)
           have O3 : Hid (OwnK 3 w3 (w6.heap.size + 2) (.slice ua un uc) (Lf.kidsR b k)) := HO.out.keep1 (fun x ex => k3.block x ⟨(HO.out.row.lt x ex).2, by have := (HO.out.row.lt x ex).1; omega⟩)
           have Z3 : Hid (w6.heap.size + 2 ≤ w3.heap.size) := Nat.le_trans HZ.out k3.size
           obtain ⟨v', w4, hr4, ho4, gr4⟩ := run_append_kid O3.out (q : Int) (by omega) (by simp [Lf.kidsR]; omega) Z3.out 25
           obtain ⟨a4, n4, c4, rfl⟩ : ∃ a n c, v' = .slice a n c := (by obtain ⟨a, c, e, -⟩ := ho4.slice; exact ⟨a, _, c, e⟩)
           have hne : ∀ x, x < w6.heap.size + 2 → (Value.slice ua un uc).ownBlock ≠ some x := fun x hx e => (by have := (O3.out.row.lt _ e).1; omega)
           have AL : Below w3.heap.size w3 (w3.alloc (.cells #[.int .i64 (q : Int)] 3)) := (Below.refl _ _).alloc (Nat.le_refl _) _
           have N4 : Hid (Row w4 (w6.heap.size + 1) 63 [.slice (some ⟨w6.heap.size, 0, none⟩) m m, .slice ua un uc]) := (N3.out.below AL).grew gr4 (hne _ (by omega))
           have I4 : Hid (Row w4 w6.heap.size 45 (itmCells (Lf.readI b))) := (I3.out.below AL).grew gr4 (hne _ (by omega))
           have R4 : Hid (Row w4 (w.heap.size + 1) 63 [.slice none 0 0, .slice none 0 0]) := (R3.out.below AL).grew gr4 (hne _ (by omega))
           have RD4 : Hid (Reads (w.heap.size + 1 + 1) w.heap.size xb xo cap b w4 (4 + 8 * m + 4 * (k + 1))) := ⟨(RD3.out.spot.below AL).grew gr4 (hne _ (by omega)), (RD3.out.box.below AL).grew gr4 (hne _ (by omega)), (RD3.out.oct.below AL).keepB (gr4.grown.block xb (RD3.out.oct.below AL).lt (fun e => hne xb (by omega) e.symm))⟩
           have B4 : Hid (Below w.heap.size w w4) := (below_alloc0 B3.out _).grown gr4.grown (below_alloc0 B3.out _).size (fun kk hkk => (by have := (O3.out.row.lt kk hkk).1; omega))
           have Z4 : Hid (w6.heap.size + 2 ≤ w4.heap.size) := Nat.le_trans Z3.out (Nat.le_trans AL.size gr4.grown.size)
           have O4 : Hid (OwnK 3 w4 (w6.heap.size + 2) (.slice a4 n4 c4) (Lf.kidsR b (k + 1))) := (by unfold Hid; rw [HNx.out]; exact ho4)
           have q3 := N3.out.cell (j := 1) rfl
           have q4 := (N3.out.below AL).cell (j := 1) rfl
           have q5 := N4.out.cell (j := 1) rfl
           have q6 := N4.out.frozen 1
           have HR4 : Hid _ := hr4
           clear rd3 k3 ho4 gr4 AL hne hr4
           go_simp
           refine hK.out _ _ ?_ (fun hH => ?_)
           · try dsimp only
             all_goals trivial
           clear hK K
           refine tkM 4 _ rfl rfl ?_; simp only [sz, ss]
           refine r1L 5 rfl fun K hK => ?_
           · go_simp
             refine hK.out _ _ ?_ (fun hH => ?_)
             · try dsimp only
               all_goals trivial
             clear hK K
             refine r1L 6 rfl fun K hK => ?_
             · refine held_append rfl (by rfl) _ _ _ rfl _ _ _ rfl rfl HR4.out ?_
               simp only [sz, ss]
               refine hK.out _ _ ?_ (fun hH => ?_)
               · try dsimp only
                 all_goals trivial
               clear hK K
               refine tkM 7 _ rfl rfl ?_; simp only [sz, ss]
               refine r1L 8 rfl fun K hK => ?_
               · go_simp
                 refine hK.out _ _ ?_ (fun hH => ?_)
                 · try dsimp only
                   all_goals trivial
                 clear hK K
                 refine wpAnyH_done (by kernel_rfl) ?_ _
                 clear hH
                 have N5 : Hid (Row (w4.setCell ⟨w6.heap.size + 1, 1, none⟩ (.slice a4 n4 c4)) (w6.heap.size + 1) 63 [.slice (some ⟨w6.heap.size, 0, none⟩) m m, .slice a4 n4 c4]) := N4.out.set 1 _
                 have I5 : Hid (Row (w4.setCell ⟨w6.heap.size + 1, 1, none⟩ (.slice a4 n4 c4)) w6.heap.size 45 (itmCells (Lf.readI b))) := I4.out.setO (p := ⟨w6.heap.size + 1, 1, none⟩) (by show w6.heap.size + 1 ≠ _; omega) _
                 have R5 : Hid (Row (w4.setCell ⟨w6.heap.size + 1, 1, none⟩ (.slice a4 n4 c4)) (w.heap.size + 1) 63 [.slice none 0 0, .slice none 0 0]) := R4.out.setO (p := ⟨w6.heap.size + 1, 1, none⟩) (by show w6.heap.size + 1 ≠ _; omega) _
                 have RD5 : Hid (Reads (w.heap.size + 1 + 1) w.heap.size xb xo cap b (w4.setCell ⟨w6.heap.size + 1, 1, none⟩ (.slice a4 n4 c4)) (4 + 8 * m + 4 * (k + 1))) := RD4.out.keep (fun x hx => Below.heap_setCell _ _ _ _ (by show x ≠ w6.heap.size + 1; omega))
                 have O5 : Hid (OwnK 3 (w4.setCell ⟨w6.heap.size + 1, 1, none⟩ (.slice a4 n4 c4)) (w6.heap.size + 2) (.slice a4 n4 c4) (Lf.kidsR b (k + 1))) := O4.out.setB (p := ⟨w6.heap.size + 1, 1, none⟩) (by show w6.heap.size + 1 < _; omega) _
                 have B5 : Hid (Below w.heap.size w (w4.setCell ⟨w6.heap.size + 1, 1, none⟩ (.slice a4 n4 c4))) := B4.out.setCell (p := ⟨w6.heap.size + 1, 1, none⟩) (by show w.heap.size ≤ w6.heap.size + 1; omega) _
                 have Z5 : Hid (w6.heap.size + 2 ≤ (w4.setCell ⟨w6.heap.size + 1, 1, none⟩ (.slice a4 n4 c4)).heap.size) := by have := Z4.out; unfold Hid; simpa [World.setCell] using this
                 go_wp2
                 go_roundw
                 case rel => exact ⟨k + 1, a4, n4, c4, by omega, by go_num, RD5, I5, N5, R5, O5, Z5, B5.out⟩
                 case measure => simp [intOf]; omega
       refine rcL (fun K hK => ?_) ?_
       · go_simp
         go_at_call 138
         refine Calls.mono (next_c _ _ xb xo cap b wr.drew (4 + 8 * m + 4 * k) (by omega) (by omega) (HRd.out.keep (fun _ _ => rfl)) 4 _ rfl (by decide) (by omega)) ?_
         rintro e w3 ⟨rfl, rd3, k3⟩
         rw [HQ.out]
         have RD3 : Hid (Reads (w.heap.size + 1 + 1) w.heap.size xb xo cap b w3 (4 + 8 * m + 4 * (k + 1))) := (by rw [show 4 + 8 * m + 4 * (k + 1) = 4 + 8 * m + 4 * k + 4 by omega]; exact rd3)
         have N3 : Hid (Row w3 (w6.heap.size + 1) 63 [.slice (some ⟨w6.heap.size, 0, none⟩) m m, .slice ua un uc]) := (HN.out.keep rfl : Row wr.drew _ _ _).kept1 k3 (by omega)
         have I3 : Hid (Row w3 w6.heap.size 45 (itmCells (Lf.readI b))) := (HI.out.keep rfl : Row wr.drew _ _ _).kept1 k3 (by omega)
         have R3 : Hid (Row w3 (w.heap.size + 1) 63 [.slice none 0 0, .slice none 0 0]) := (HR.out.keep rfl : Row wr.drew _ _ _).kept1 k3 (by omega)
         have B3 : Hid (Below w.heap.size w w3) := kept_below1 (w := wr.drew) (BR.out.drew) k3 BR.out.size (by omega)
         have O3 : Hid (OwnK 3 w3 (w6.heap.size + 2) (.slice ua un uc) (Lf.kidsR b k)) := HO.out.keep1 (fun x ex => k3.block x ⟨(HO.out.row.lt x ex).2, by have := (HO.out.row.lt x ex).1; omega⟩)
         have Z3 : Hid (w6.heap.size + 2 ≤ w3.heap.size) := Nat.le_trans HZ.out k3.size
         obtain ⟨v', w4, hr4, ho4, gr4⟩ := run_append_kid O3.out (q : Int) (by omega) (by simp [Lf.kidsR]; omega) Z3.out 25
         obtain ⟨a4, n4, c4, rfl⟩ : ∃ a n c, v' = .slice a n c := (by obtain ⟨a, c, e, -⟩ := ho4.slice; exact ⟨a, _, c, e⟩)
         have hne : ∀ x, x < w6.heap.size + 2 → (Value.slice ua un uc).ownBlock ≠ some x := fun x hx e => (by have := (O3.out.row.lt _ e).1; omega)
         have AL : Below w3.heap.size w3 (w3.alloc (.cells #[.int .i64 (q : Int)] 3)) := (Below.refl _ _).alloc (Nat.le_refl _) _
         have N4 : Hid (Row w4 (w6.heap.size + 1) 63 [.slice (some ⟨w6.heap.size, 0, none⟩) m m, .slice ua un uc]) := (N3.out.below AL).grew gr4 (hne _ (by omega))
         have I4 : Hid (Row w4 w6.heap.size 45 (itmCells (Lf.readI b))) := (I3.out.below AL).grew gr4 (hne _ (by omega))
         have R4 : Hid (Row w4 (w.heap.size + 1) 63 [.slice none 0 0, .slice none 0 0]) := (R3.out.below AL).grew gr4 (hne _ (by omega))
         have RD4 : Hid (Reads (w.heap.size + 1 + 1) w.heap.size xb xo cap b w4 (4 + 8 * m + 4 * (k + 1))) := ⟨(RD3.out.spot.below AL).grew gr4 (hne _ (by omega)), (RD3.out.box.below AL).grew gr4 (hne _ (by omega)), (RD3.out.oct.below AL).keepB (gr4.grown.block xb (RD3.out.oct.below AL).lt (fun e => hne xb (by omega) e.symm))⟩
         have B4 : Hid (Below w.heap.size w w4) := (below_alloc0 B3.out _).grown gr4.grown (below_alloc0 B3.out _).size (fun kk hkk => (by have := (O3.out.row.lt kk hkk).1; omega))
         have Z4 : Hid (w6.heap.size + 2 ≤ w4.heap.size) := Nat.le_trans Z3.out (Nat.le_trans AL.size gr4.grown.size)
         have O4 : Hid (OwnK 3 w4 (w6.heap.size + 2) (.slice a4 n4 c4) (Lf.kidsR b (k + 1))) := (by unfold Hid; rw [HNx.out]; exact ho4)
         have q3 := N3.out.cell (j := 1) rfl
         have q4 := (N3.out.below AL).cell (j := 1) rfl
         have q5 := N4.out.cell (j := 1) rfl
         have q6 := N4.out.frozen 1
         have HR4 : Hid _ := hr4
         clear rd3 k3 ho4 gr4 AL hne hr4
         go_simp
         refine hK.out _ _ ?_ (fun hH => ?_)
         · try dsimp only
           all_goals trivial
         clear hK K
         refine tkM 4 _ rfl rfl ?_; simp only [sz, ss]
         refine rdL [1, 5] ?_
         refine rcL (fun K hK => ?_) ?_
         · go_simp
           refine hK.out _ _ ?_ (fun hH => ?_)
           · try dsimp only
             all_goals trivial
           clear hK K
           refine r1L 5 rfl fun K hK => ?_
           · go_simp
             refine hK.out _ _ ?_ (fun hH => ?_)
             · try dsimp only
               all_goals trivial
             clear hK K
             refine r1L 6 rfl fun K hK => ?_
             · refine held_append rfl (by rfl) _ _ _ rfl _ _ _ rfl rfl HR4.out ?_
               simp only [sz, ss]
               refine hK.out _ _ ?_ (fun hH => ?_)
               · try dsimp only
                 all_goals trivial
               clear hK K
               refine tkM 7 _ rfl rfl ?_; simp only [sz, ss]
               refine r1L 8 rfl fun K hK => ?_
               · go_simp
                 refine hK.out _ _ ?_ (fun hH => ?_)
                 · try dsimp only
                   all_goals trivial
                 clear hK K
                 refine wpAnyH_done (by kernel_rfl) ?_ _
                 clear hH
                 have N5 : Hid (Row (w4.setCell ⟨w6.heap.size + 1, 1, none⟩ (.slice a4 n4 c4)) (w6.heap.size + 1) 63 [.slice (some ⟨w6.heap.size, 0, none⟩) m m, .slice a4 n4 c4]) := N4.out.set 1 _
                 have I5 : Hid (Row (w4.setCell ⟨w6.heap.size + 1, 1, none⟩ (.slice a4 n4 c4)) w6.heap.size 45 (itmCells (Lf.readI b))) := I4.out.setO (p := ⟨w6.heap.size + 1, 1, none⟩) (by show w6.heap.size + 1 ≠ _; omega) _
                 have R5 : Hid (Row (w4.setCell ⟨w6.heap.size + 1, 1, none⟩ (.slice a4 n4 c4)) (w.heap.size + 1) 63 [.slice none 0 0, .slice none 0 0]) := R4.out.setO (p := ⟨w6.heap.size + 1, 1, none⟩) (by show w6.heap.size + 1 ≠ _; omega) _
                 have RD5 : Hid (Reads (w.heap.size + 1 + 1) w.heap.size xb xo cap b (w4.setCell ⟨w6.heap.size + 1, 1, none⟩ (.slice a4 n4 c4)) (4 + 8 * m + 4 * (k + 1))) := RD4.out.keep (fun x hx => Below.heap_setCell _ _ _ _ (by show x ≠ w6.heap.size + 1; omega))
                 have O5 : Hid (OwnK 3 (w4.setCell ⟨w6.heap.size + 1, 1, none⟩ (.slice a4 n4 c4)) (w6.heap.size + 2) (.slice a4 n4 c4) (Lf.kidsR b (k + 1))) := O4.out.setB (p := ⟨w6.heap.size + 1, 1, none⟩) (by show w6.heap.size + 1 < _; omega) _
                 have B5 : Hid (Below w.heap.size w (w4.setCell ⟨w6.heap.size + 1, 1, none⟩ (.slice a4 n4 c4))) := B4.out.setCell (p := ⟨w6.heap.size + 1, 1, none⟩) (by show w.heap.size ≤ w6.heap.size + 1; omega) _
                 have Z5 : Hid (w6.heap.size + 2 ≤ (w4.setCell ⟨w6.heap.size + 1, 1, none⟩ (.slice a4 n4 c4)).heap.size) := by have := Z4.out; unfold Hid; simpa [World.setCell] using this
                 go_wp2
                 go_roundw
                 case rel => exact ⟨k + 1, a4, n4, c4, by omega, by go_num, RD5, I5, N5, R5, O5, Z5, B5.out⟩
                 case measure => simp [intOf]; omega
         refine rcL (fun K hK => ?_) ?_
         · go_simp
           refine hK.out _ _ ?_ (fun hH => ?_)
           · try dsimp only
             all_goals trivial
           clear hK K
           refine r1L 1 rfl fun K hK => ?_
           · go_simp
             refine hK.out _ _ ?_ (fun hH => ?_)
             · try dsimp only
               all_goals trivial
             clear hK K
             refine r1L 6 rfl fun K hK => ?_
             · refine held_append rfl (by rfl) _ _ _ rfl _ _ _ rfl rfl HR4.out ?_
               simp only [sz, ss]
               refine hK.out _ _ ?_ (fun hH => ?_)
               · try dsimp only
                 all_goals trivial
               clear hK K
               refine tkM 7 _ rfl rfl ?_; simp only [sz, ss]
               refine r1L 8 rfl fun K hK => ?_
               · go_simp
                 refine hK.out _ _ ?_ (fun hH => ?_)
                 · try dsimp only
                   all_goals trivial
                 clear hK K
                 refine wpAnyH_done (by kernel_rfl) ?_ _
                 clear hH
                 have N5 : Hid (Row (w4.setCell ⟨w6.heap.size + 1, 1, none⟩ (.slice a4 n4 c4)) (w6.heap.size + 1) 63 [.slice (some ⟨w6.heap.size, 0, none⟩) m m, .slice a4 n4 c4]) := N4.out.set 1 _
                 have I5 : Hid (Row (w4.setCell ⟨w6.heap.size + 1, 1, none⟩ (.slice a4 n4 c4)) w6.heap.size 45 (itmCells (Lf.readI b))) := I4.out.setO (p := ⟨w6.heap.size + 1, 1, none⟩) (by show w6.heap.size + 1 ≠ _; omega) _
                 have R5 : Hid (Row (w4.setCell ⟨w6.heap.size + 1, 1, none⟩ (.slice a4 n4 c4)) (w.heap.size + 1) 63 [.slice none 0 0, .slice none 0 0]) := R4.out.setO (p := ⟨w6.heap.size + 1, 1, none⟩) (by show w6.heap.size + 1 ≠ _; omega) _
                 have RD5 : Hid (Reads (w.heap.size + 1 + 1) w.heap.size xb xo cap b (w4.setCell ⟨w6.heap.size + 1, 1, none⟩ (.slice a4 n4 c4)) (4 + 8 * m + 4 * (k + 1))) := RD4.out.keep (fun x hx => Below.heap_setCell _ _ _ _ (by show x ≠ w6.heap.size + 1; omega))
                 have O5 : Hid (OwnK 3 (w4.setCell ⟨w6.heap.size + 1, 1, none⟩ (.slice a4 n4 c4)) (w6.heap.size + 2) (.slice a4 n4 c4) (Lf.kidsR b (k + 1))) := O4.out.setB (p := ⟨w6.heap.size + 1, 1, none⟩) (by show w6.heap.size + 1 < _; omega) _
                 have B5 : Hid (Below w.heap.size w (w4.setCell ⟨w6.heap.size + 1, 1, none⟩ (.slice a4 n4 c4))) := B4.out.setCell (p := ⟨w6.heap.size + 1, 1, none⟩) (by show w.heap.size ≤ w6.heap.size + 1; omega) _
                 have Z5 : Hid (w6.heap.size + 2 ≤ (w4.setCell ⟨w6.heap.size + 1, 1, none⟩ (.slice a4 n4 c4)).heap.size) := by have := Z4.out; unfold Hid; simpa [World.setCell] using this
                 go_wp2
                 go_roundw
                 case rel => exact ⟨k + 1, a4, n4, c4, by omega, by go_num, RD5, I5, N5, R5, O5, Z5, B5.out⟩
                 case measure => simp [intOf]; omega
         exact rnL
       exact rnL
     · obtain rfl : k = m + 1 := by omega
       have hzz : ¬ ((m + 1 : Nat) : Int) < (m : Int) + 1 := by omega
       obtain ⟨t0, t1⟩ := HN.out.two
       obtain ⟨s0, s1⟩ := HR.out.two
       have g0 := HR.out.frozen 0
       have g1 := HR.out.frozen 1
       go_wp2
       refine st_retv HR.out bel (by omega) _ _ _ rfl rfl rfl Tryz.underlying63 rfl (by kernel_rfl) ?_
       intro w' K' B'
       exact ⟨_, _, rfl, OwnI.ofRow (HI.out.keep (K'.block _ (by omega))) (by show (Lf.readI b).length = m; rw [Lf.readI_len, HM.out]) (by omega) (by omega), (by show OwnK _ _ _ _ (Lf.readK b); rw [Lf.readK_kids HKd.out, HM.out]; exact (HO.out.keptL K' (by omega)).mono (by omega)), B'⟩
theorem read_yes (w : World) (xb xo cap : Nat) (b : List UInt8) (hB : IsB w (some ⟨xb, xo, none⟩) 60 b) (hk : b.getD 0 0 = 1 ∨ b.getD 0 0 = 2) :
 Calls Tryz.prog 123 #[.slice (some ⟨xb, xo, none⟩) 60 cap] w fun e w' => ∃ v v', e = .returned (.tuple #[.agg #[v, v'], .bool true]) ∧ OwnI 45 w' w.heap.size v (Lf.readN b).1 ∧ OwnK 3 w' w.heap.size v' (Lf.readN b).2 ∧ Below w.heap.size w w' := by
 rcases hk with h | h
 · exact read_leaf w xb xo cap b hB h
 · exact read_kids w xb xo cap b hB h
end Go.Proofs.YtkbmadoaomoojaaGreat
