/-
  The landed free: a list's clone, what Without asks and lays. Conditions: those that each contract names.
-/
import Derived.Test.YtbbjbajdoekheaaYU
import Derived.Test.YtbbjbajdoekheaaYM
namespace Go.Proofs.Ytbbjbajdoekheaa
open Go.RowKit
set_option linter.unusedVariables false

theorem run_clone {w : World} {P : Nat → Prop} {ad : Addr} {n c : Nat} {l : List Spn} (h0 : rSpns.rd w P [.slice (some ad) n c] l) (ty : TypeId) :
    ∃ v' w', (Builtin.append_ #[22, 22] ty #[.slice (some ⟨w.heap.size, 0, none⟩) 0 0, .slice (some ad) n c]).run Try.prog (w.alloc (.cells #[] 26)) = .ok v' w' ∧ OwnS 26 w' w.heap.size v' l ∧ Below w.heap.size w w' := by
  obtain ⟨ht, i, z, hi, hz, hsize, hby, hzs, hpos⟩ := elem_spn
  obtain ⟨hl, hnc, hnil, hb⟩ := rList_len h0
  have hn : n ≤ 8796093022000 := by have : n * 16 ≤ 140737488351232 := hb; omega
  have hba : Below w.heap.size w (w.alloc (.cells #[] 26)) := (Below.refl _ _).alloc (Nat.le_refl _) _
  have h := Rep.below h0 hba
  have hrow : (w.alloc (.cells #[] 26)).ownsRow w.heap.size 26 2 (.slice (some ⟨w.heap.size, 0, none⟩) 0 0) 0 [] := ⟨rfl, .inr ⟨w.heap.size, 0, #[], rfl, Nat.le_refl _, heap_alloc_new w _, Nat.le_refl 0, by decide, rfl, rfl⟩⟩
  obtain ⟨v', w', hr, k1, k2, -, -⟩ := run_append_own_at (P := Try.prog) (w.alloc (.cells #[] 26)) w.heap.size 22 ty 26 i z 2 16 ht hi hz hsize hby hzs (by decide) (.slice (some ⟨w.heap.size, 0, none⟩) 0 0) 0 [] hrow ad n c (spnCells l) (by rw [spnCells_length, hl])
    (fun j u hj => by
      by_cases h0 : 0 < n
      · exact rSpns_cells h h0 j u hj
      · obtain rfl : n = 0 := by omega
        obtain rfl : l = [] := List.length_eq_zero_iff.1 hl
        simp [spnCells] at hj)
    (fun u hu => by
      obtain ⟨x, hx, hux⟩ := List.mem_flatMap.1 hu
      exact rSpn.one (rSpn_rd.2 ⟨rfl, rSpns_in h x hx⟩ : rSpn.rd w (fun _ => True) _ x) u hux) (by unfold maxLen; omega) (by omega) (by simp)
  refine ⟨v', w', hr, ⟨by rw [hl]; simpa using k1, rSpns_in h⟩, ?_⟩
  exact hba.grown k2 (by simp) (fun k hk => by
    have hk : w.heap.size = k := Option.some.inj hk
    omega)

set_option maxRecDepth 20000 in
set_option maxHeartbeats 800000 in
theorem clone_u (w : World) (P : Nat → Prop) (a : Option Addr) (n c : Nat) (l : List Spn) (hL : rSpns.rd w P [.slice a n c] l) :
    Calls Try.prog 55 #[.slice a n c] w fun e w' => ∃ b, e = .returned b ∧ OwnS 26 w' w.heap.size b l ∧ Below w.heap.size w w' := by
  cases a with
  | none =>
    obtain ⟨hl, hnc, hnil, hb⟩ := rList_len hL
    have hc0 := hnil rfl
    obtain rfl : n = 0 := by omega
    obtain rfl : l = [] := List.length_eq_zero_iff.1 hl
    have heq : ∀ w, (binOp .eql 22 (.slice none 0 c) (.slice none 0 0)).run Try.prog w = .ok (.bool true) w := fun w => Lib.run_eql_slice_nil w 22 26 none 0 c 0 0 Try.underlying22
    rw [hc0] at heq ⊢
    go_enter Try.func55, Try.ntmps55
    go_wp2
    go_ret
    exact ⟨_, rfl, OwnS.nil _ _ _, Below.refl _ _⟩
  | some ad =>
    obtain ⟨v', w', hr, ho, bw⟩ := run_clone hL 22
    have HR : Hid _ := hr
    have HO : Hid (OwnS _ _ _ _ _) := ho
    have BW : Hid (Below _ _ _) := bw
    have heq : ∀ w, (binOp .eql 22 (.slice (some ad) n c) (.slice none 0 0)).run Try.prog w = .ok (.bool false) w := fun w => Lib.run_eql_slice_nil w 22 26 (some ad) n c 0 0 Try.underlying22
    clear hr ho bw hL
    go_enter Try.func55, Try.ntmps55
    go_wp2_with (at_builtin; refine Lib.wpList_append_run _ rfl _ _ _ _ rfl _ _ rfl rfl _ _ HR.out ?_)
    go_ret
    exact ⟨_, rfl, HO.out, BW.out⟩

set_option maxHeartbeats 2000000 in
theorem withoutAsk_u (w : World) (B : Nat) (z : Int) (y : Spn) (hy : In2 y) (hz0 : 0 ≤ z) (hz1 : z ≤ 65536) (V : Row w B 3 [.int .i64 z]) :
    Calls Try.prog 54 (#[.agg #[.int .i64 y.1, .int .i64 y.2]] ++ #[.pointer (some ⟨B, 0, none⟩)]) w fun e w' => e = .returned (.bool (!Fr.inB z y)) ∧ Below w.heap.size w w' := by
  have HY : Hid _ := hy
  obtain ⟨w0, hw0, V0, b0, z0⟩ := boxedRow w 26 [.int .i64 y.1, .int .i64 y.2]
  have B0 : Hid (Below w.heap.size w w0) := b0
  obtain ⟨d0, d1⟩ := V0.two
  have d2 := (V.below b0).cell (j := 0) rfl
  obtain ⟨r, hr⟩ : ∃ r, Fr.inB z y = r := ⟨_, rfl⟩
  have HR : Hid _ := hr
  rw [hr]
  clear V V0 b0 z0 hy hr
  go_enter Try.func54, Try.ntmps54
  go_wp2_with fail
  refine (isWithin_u _ y z HY.out hz0 hz1 _ HR.out).mono ?_
  rintro e w1 ⟨rfl, b1⟩
  cases r
  · go_wp2
    go_ret
    exact ⟨rfl, on B0.out b1⟩
  · go_wp2
    go_ret
    exact ⟨rfl, on B0.out b1⟩

theorem Fr.gap_next {z t : Int} {D : List Spn} {k : Nat} (hk : k < D.length) : Fr.gapPs z t (D.drop k) = (t, D[k].1) :: Fr.gapPs z (max t (D[k].1 + D[k].2)) (D.drop (k + 1)) := by
  rw [List.drop_eq_getElem_cons hk]
  rfl

set_option maxRecDepth 20000 in
set_option maxHeartbeats 4000000 in
theorem without3_writes (w : World) (P : Nat → Prop) (a : Option Addr) (n c : Nat) (D : List Spn) (hL : rSpns.rd w P [.slice a n c] D) (z : Int) (hz0 : 0 ≤ z) (hz1 : z ≤ 65536) (hI : ∀ x ∈ D, Fr.Inside x z) (hn : n ≤ 1024) (A B : Nat) (VA : Row w A 22 [.slice a n c]) (VB : Row w B 3 [.int .i64 z]) :
    Writes 59 #[.pointer (some ⟨A, 0, none⟩), .pointer (some ⟨B, 0, none⟩)] w (Fr.gapPs z 0 D) := by
  intro g cs J S w1 L hJ b1 hS
  have HY : Hid (Lays g cs J) := L
  have eg := L.enters
  have HJ : Hid (J [] S w1) := hJ
  have B1 : Hid (Below w.heap.size w w1) := b1
  have HS : Hid _ := hS
  have HR : Hid _ := hL
  have HI : Hid _ := hI
  have HN : Hid (D.length = n) := (rList_len hL).1
  have HVB : Hid (Row w B 3 [.int .i64 z]) := VB
  have hmx := max_fact 3
  have e0 := (VA.below b1).cell (j := 0) rfl
  clear hL hI b1 hS L hJ VA VB
  go_enter Try.func59, Try.ntmps59
  go_wp2
  clear e0
  go_loopw [4, 9] (fun o i wr => ∃ (k : Nat) (t : Int), k ≤ n ∧ i = .int .i64 k ∧ o = .int .i64 t ∧ 0 ≤ t ∧ t ≤ z ∧ Hid (∃ ps S', ps.length = k ∧ Fr.gapPs z 0 D = ps ++ Fr.gapPs z t (D.drop k) ∧ J ps S' wr ∧ Turns S S' w1 wr)) (fun _ i _ => n - (intOf i).toNat)
  case atStart => exact ⟨0, 0, Nat.zero_le _, rfl, rfl, Int.le_refl _, hz0, [], S, rfl, rfl, HJ.out, Turns.of (Below.refl _ _)⟩
  case round =>
    obtain ⟨k, t, hk, rfl, rfl, ht0, ht1, HC⟩ := hrel
    obtain ⟨ps, S1, hpl, hpe, hJ1, hT1⟩ := HC.out
    have HJ1 : Hid (J ps S1 wr) := hJ1
    have HT1 : Hid (Turns S S1 w1 wr) := hT1
    have HPL : Hid (ps.length = k) := hpl
    have HPE : Hid _ := hpe
    have Bw : Hid (Below w.heap.size w wr) := B1.out.trans (hT1.below B1.out.size HS.out)
    clear hJ1 hT1 HC hpl hpe
    by_cases hlt : k < n
    · have hkl : k < D.length := by rw [HN.out]; exact hlt
      obtain ⟨g2, off, rfl, -, hgl, hat⟩ := rSpns_at (Rep.below HR.out Bw.out) (by omega)
      obtain ⟨c0, c1, -⟩ := hat k hkl
      have hin := HI.out D[k] (List.getElem_mem hkl)
      have HNx : Hid _ := Fr.gap_next (z := z) (t := t) hkl
      obtain ⟨y, hX⟩ : ∃ y, y = D[k] := ⟨_, rfl⟩
      rw [← hX] at c0 c1 hin HNx
      obtain ⟨m1, m2, m3, m4⟩ := hin
      have HXE : Hid (In64 (y.1 + y.2)) := by unfold Hid In64; omega
      have HSec : Hid (Fr.Sec (t, y.1)) := by unfold Hid Fr.Sec; simp only; omega
      have hkz : (k : Int) < (n : Int) := by omega
      obtain ⟨w4, hw4, V4, b4, z4⟩ := boxedRow wr 26 [.int .i64 y.1, .int .i64 y.2]
      have HV4 : Hid (Row w4 wr.heap.size 26 [.int .i64 y.1, .int .i64 y.2]) := V4
      have HN1 : Hid (¬ S1 wr.heap.size) := fun h => by have := HY.out.low HJ1.out _ h; omega
      have HT4 : Hid (Turns S S1 w1 w4) := HT1.out.trans (Turns.of b4)
      have HC4 : Hid _ := HY.out.call (x := (t, y.1)) (HY.out.below HJ1.out b4) (by rw [HPL.out]; omega) HSec.out
      obtain ⟨x0, x1⟩ := V4.two
      obtain ⟨mx, hmxe⟩ : ∃ mx, max t (y.1 + y.2) = mx := ⟨_, rfl⟩
      have hmx0 : 0 ≤ mx := by omega
      have hmx1 : mx ≤ z := by omega
      rw [hmxe] at HNx
      clear hX hat b4 z4 V4 hgl
      go_wp2_with (go_at_fn g; refine Calls.mono HC4.out ?_; rintro e w5 ⟨rfl, S2, hj5, ht5⟩; have HJ5 : Hid (J (ps ++ [(t, y.1)]) S2 w5) := hj5; have HT5 : Hid (Turns S S2 w1 w5) := HT4.out.trans ht5; have HV5 : Hid (Row w5 wr.heap.size 26 [.int .i64 y.1, .int .i64 y.2]) := ht5.row HV4.out HN1.out; obtain ⟨v0, v1⟩ := HV5.out.two; clear hj5 ht5)
      refine (spanEnd_u _ y HXE.out).mono ?_
      rintro e w6 ⟨rfl, b6⟩
      have HJ6 : Hid (J (ps ++ [(t, y.1)]) S2 w6) := HY.out.below HJ5.out b6
      have HT6 : Hid (Turns S S2 w1 w6) := HT5.out.trans (Turns.of b6)
      clear b6
      go_wp2
      go_roundw
      case rel => exact ⟨k + 1, mx, by omega, by go_num, rfl, hmx0, hmx1, ps ++ [(t, y.1)], S2, by rw [List.length_append, HPL.out]; rfl, by rw [HPE.out, HNx.out, List.append_assoc]; rfl, HJ6.out, HT6.out⟩
      case measure => simp [intOf]; omega
    · obtain rfl : k = n := by omega
      have hdr : D.drop k = [] := List.drop_eq_nil_of_le (by rw [HN.out]; exact Nat.le_refl _)
      have HPF : Hid (Fr.gapPs z 0 D = ps ++ [(t, z)]) := by unfold Hid; rw [HPE.out, hdr]; rfl
      have HSec : Hid (Fr.Sec (t, z)) := by unfold Hid Fr.Sec; simp only; omega
      have HCf : Hid _ := HY.out.call (x := (t, z)) HJ1.out (by rw [HPL.out]; omega) HSec.out
      have f0 := (HVB.out.below Bw.out).cell (j := 0) rfl
      clear hdr
      go_wp2_with (go_at_fn g; refine Calls.mono HCf.out ?_; rintro e w5 ⟨rfl, S2, hj5, ht5⟩)
      go_end0
      exact ⟨rfl, S2, by rw [HPF.out]; exact hj5, HT1.out.trans ht5⟩

end Go.Proofs.Ytbbjbajdoekheaa
