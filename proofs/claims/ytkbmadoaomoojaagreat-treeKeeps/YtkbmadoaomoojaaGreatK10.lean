/-
  Facts that the proof rests on, part 11. Conditions: those that each of them names.
-/
import Derived.Test.YtkbmadoaomoojaaGreatK05
import Derived.Test.YtkbmadoaomoojaaGreatK06
import Derived.Test.YtkbmadoaomoojaaGreatK09
namespace Go.Proofs.YtkbmadoaomoojaaGreat
set_option maxRecDepth 20000
open Go.RowKit
set_option linter.unusedVariables false
theorem add_step (l : List UInt8) (p s k : Nat) (hk : k ≤ s) (h1 : 1 ≤ k) (hs : s ≤ 8) (h : p + s ≤ l.length) :
 256 * (Oct.num (Oct.cut l (p + k) (s - k)) : Nat) + ((l[p + (k - 1)]'(by omega)).toNat : Int) = ((Oct.num (Oct.cut l (p + (k - 1)) (s - (k - 1))) : Nat) : Int) ∧ Oct.num (Oct.cut l (p + k) (s - k)) < 72057594037927936 ∧ (l[p + (k - 1)]'(by omega)).toNat < 256 := by
 have hb : (l[p + (k - 1)]'(by omega)).toNat < 256 := by have := (l[p + (k - 1)]'(by omega)).toNat_lt; simpa using this
 have hN := Oct.num_cut_lt l (p + k) (s - k) (by omega)
 have hp : 256 ^ (s - k) ≤ 256 ^ 7 := Nat.pow_le_pow_right (by decide) (by omega)
 have e := Oct.num_cut_step l (p + (k - 1)) (s - k) (by omega)
 refine ⟨?_, by omega, hb⟩
 rw [show s - (k - 1) = s - k + 1 from by omega, e, show p + (k - 1) + 1 = p + k from by omega]
 omega
set_option maxRecDepth 20000 in
set_option maxHeartbeats 400000 in
theorem refGet_ok (w : World) (a : Option Addr) (n c : Nat) (l : List UInt8) (p s : Nat) (P S : Int) (hP : P = (p : Int)) (hS : S = (s : Int)) (h1 : 1 ≤ s) (h2 : s ≤ 8) (hn : n ≤ maxLen) (hB : IsB w a n l) (h : p + s ≤ n) :
 Calls Tryz.prog 119 #[.slice a n c, .int .i64 P, .int .i64 S] w fun e w' => e = .returned (.tuple #[.int .u64 (Oct.num (Oct.cut l p s) : Nat), .int .i64 0]) ∧ w = w' := by
 subst hP
 subst hS
 unfold maxLen at hn
 obtain ⟨b, off, rfl, hcell⟩ := hB.place (by omega)
 have hlen : l.length = n := hB.1
 clear hB
 go_enter Tryz.func119, Tryz.ntmps119
 go_wp2
 go_loop [8, 9] (fun v i => ∃ k : Nat, k ≤ s ∧ i = .int .i64 ((k : Int) - 1) ∧ v = .int .u64 (Oct.num (Oct.cut l (p + k) (s - k)) : Nat))
  (fun _ i => (intOf i + 1).toNat)
 case atStart => exact ⟨s, Nat.le_refl _, rfl, by simp [Oct.cut, Oct.num]⟩
 case round =>
  obtain ⟨k, hk, rfl, rfl⟩ := hrel
  by_cases hlt : 1 ≤ k
  · have hc := hcell (p + (k - 1)) (by omega)
    obtain ⟨hr1, hr2, hr3⟩ := add_step l p s k hk hlt h2 (by omega)
    have HR : Hid _ := hr1
    clear hcell hr1
    generalize hx : (l[p + (k - 1)]'(by omega)).toNat = x at *
    generalize hy : Oct.num (Oct.cut l (p + k) (s - k)) = y at *
    clear hx hy
    go_wp2
    go_round
    case rel => exact ⟨k - 1, by omega, by go_num, by rw [← HR.out]⟩
    case measure => simp [intOf]; omega
  · have e : k = 0 := by omega
    subst e
    clear hcell
    go_wp2
    go_ret2
    exact ⟨rfl, rfl⟩
set_option maxRecDepth 20000 in
set_option maxHeartbeats 400000 in
theorem refPut_in (n : Nat) (s : Nat) (w : World) (h1 : 1 ≤ s) (h2 : s ≤ 8) (hn : n < 18446744073709551616) :
 Calls Tryz.prog 121 #[.int .u64 n, .int .i64 s] w fun e w' => ∃ a len c, e = .returned (.tuple #[.slice a len c, .int .i64 (Oct.putE n s)]) ∧
  w'.ownsRow w.heap.size 5 1 (.slice a len c) len (cellsOf (Oct.putL n s)) ∧ Below w.heap.size w w' := by
 obtain ⟨i0, hi, hz0, hz1, hz2⟩ := info_parts info_u8
 have H1 : n < 256 ^ s → Oct.putE n s = 0 ∧ Oct.putL n s = Oct.octs n s := fun h => ⟨Oct.putE_ok h1 h2 h, Oct.putL_ok h1 h2 h⟩
 have H2 : ¬ n < 256 ^ s → Oct.putE n s = 4 ∧ Oct.putL n s = [] := fun h => ⟨Oct.putE_range h1 h2 (by omega), by simp [Oct.putL, Oct.putE_range h1 h2 (show 256 ^ s ≤ n by omega)]⟩
 have K1 : Hid _ := H1
 have K2 : Hid _ := H2
 clear H1 H2
 go_enter Tryz.func121, Tryz.ntmps121
 go_wp2
 go_loopw [0, 6, 7] (fun m out i wr => ∃ (k : Nat) (q : Nat), k ≤ s ∧ i = .int .i64 k ∧ m = .int .u64 q ∧ q = n / 256 ^ k ∧ wr.ownsRow w.heap.size 5 1 out k (cellsOf (Oct.octs n k)) ∧ Below w.heap.size w wr)
  (fun _ _ i _ => s - (intOf i).toNat)
 case atStart => exact ⟨0, n, Nat.zero_le _, rfl, rfl, by simp, own_nil _ _, Below.refl _ _⟩
 case round =>
  obtain ⟨k, q, hk, rfl, rfl, hq, hown, hbel⟩ := hrel
  have hql : q ≤ n := by rw [hq]; exact Nat.div_le_self _ _
  have HQ : Hid _ := hq
  clear hq
  have hz := hbel.size
  by_cases hlt : k < s
  · go_wp2_with (at_builtin; refine wpList_append_own _ rfl _ _ 53 rfl w.heap.size 5 i0 (.int .u8 0) 1 1 Tryz.underlying53 hi hz0 hz1 hz2 rfl (by decide) _ k _ rfl (hown.alloc _) ⟨wr.heap.size, 0, none⟩ 1 1 [.int .u8 ((q : Int) % 256)] rfl rfl (cell_one_new _ _ _) (by intro u hu; simp at hu; subst hu; rfl) (by unfold maxLen; omega) (by omega) (by simp; omega) ?_)
    intro v' w1 hown' hgrow _
    have hst : w1.ownsRow w.heap.size 5 1 v' (k + 1) (cellsOf (Oct.octs n (k + 1))) := by
     rw [Oct.octs_snoc, cellsOf_append, ← HQ.out]
     have e : cellsOf [UInt8.ofNat q] = [.int .u8 ((q : Int) % 256)] := by simp [cellsOf]
     rw [e]
     exact hown'
    have hb1 : Below w.heap.size w w1 := (hbel.alloc hz _).grown hgrow (by simp; omega) (own_base hown)
    have hq2 : (q : Int) / 256 = ((q / 256 : Nat) : Int) := by simp
    have HQ2 : Hid _ := hq2
    clear hown' hgrow hown hbel hq2
    go_wp2
    go_roundw
    case rel => exact ⟨k + 1, q / 256, by omega, by go_num, by go_num, by rw [HQ.out]; exact Oct.div_step n k, hst, hb1⟩
    case measure => simp [intOf]; omega
  · have e : k = s := by omega
    subst e
    obtain ⟨b, d, rfl, -⟩ := owns_slice hown
    by_cases hq0 : 0 < q
    · go_wp2
      go_ret2
      have hx : ¬ n < 256 ^ k := by
       intro hx
       have := HQ.out
       rw [Nat.div_eq_of_lt hx] at this
       omega
      have hy := K2.out hx
      exact ⟨none, 0, 0, by rw [hy.1]; rfl, by rw [hy.2]; exact own_nil _ _, hbel⟩
    · go_wp2
      go_ret2
      have hx : n < 256 ^ k := by
       have h0 : n / 256 ^ k = 0 := by have := HQ.out; omega
       rcases Nat.div_eq_zero_iff.1 h0 with h | h
       · exact absurd h (Nat.pos_iff_ne_zero.1 (Nat.pow_pos (by decide)))
       · exact h
      have hy := K1.out hx
      exact ⟨b, k, d, by rw [hy.1]; rfl, by rw [hy.2]; exact hown, hbel⟩
theorem refGet8 (w : World) (a : Option Addr) (c : Nat) (b : List UInt8) (p : Nat) (Q S : Int) (hQ : Q = (p : Int)) (hS : S = 8) (hB : IsB w a 60 b) (h : p + 8 ≤ 60) :
 Calls Tryz.prog 119 #[.slice a 60 c, .int .i64 Q, .int .i64 S] w fun e w' => e = .returned (.tuple #[.int .u64 ((UInt64.ofNat (Oct.num (Oct.cut b p 8))).toNat : Int), .int .i64 0]) ∧ w = w' := by
 have hl := hB.1
 refine (refGet_ok w a 60 c b p 8 Q S hQ hS (by decide) (by decide) (by decide) hB h).mono ?_
 rintro e w' ⟨rfl, rfl⟩
 have := Oct.num_cut_lt b p 8 (by omega)
 rw [UInt64.toNat_ofNat', Nat.mod_eq_of_lt this]
 exact ⟨rfl, rfl⟩
theorem refGet4 (w : World) (a : Option Addr) (c : Nat) (b : List UInt8) (p : Nat) (Q S : Int) (hQ : Q = (p : Int)) (hS : S = 4) (hB : IsB w a 60 b) (h : p + 4 ≤ 60) :
 Calls Tryz.prog 119 #[.slice a 60 c, .int .i64 Q, .int .i64 S] w fun e w' => ∃ q : Nat, e = .returned (.tuple #[.int .u64 (q : Int), .int .i64 0]) ∧ q < 4294967296 ∧ q = Oct.num (Oct.cut b p 4) ∧ w = w' := by
 have hl := hB.1
 refine (refGet_ok w a 60 c b p 4 Q S hQ hS (by decide) (by decide) (by decide) hB h).mono ?_
 rintro e w' ⟨rfl, rfl⟩
 exact ⟨_, rfl, Oct.num_cut_lt b p 4 (by omega), rfl, rfl⟩
namespace Lf
theorem told_next {b : List UInt8} {k : Nat} (h : k < many b) : (told b).1.take (k + 1) = (told b).1.take k ++ [(keyAt b k, valAt b k)] := by
 unfold told
 simp only
 rw [List.take_succ_eq_append_getElem (by simpa using h)]
 simp
theorem told_all (b : List UInt8) : (told b).1.take (many b) = (told b).1 := List.take_of_length_le (by simp [told])
theorem told_len (b : List UInt8) : (told b).1.length = many b := by simp [told]
theorem many_le (b : List UInt8) : many b ≤ 3 := by unfold many; omega
def kidL (b : List UInt8) (k : Nat) : List Int := (List.range k).map (kidAt b)
theorem kid_next (b : List UInt8) (k : Nat) : kidL b (k + 1) = kidL b k ++ [kidAt b k] := by simp [kidL, List.range_succ]
end Lf
set_option maxRecDepth 20000 in
set_option maxHeartbeats 4000000 in
theorem told_u (w : World) (a : Option Addr) (cap : Nat) (b : List UInt8) (hcap : 60 ≤ cap) (hB : IsB w a 60 b) (hk : b.getD 0 0 = 1 ∨ b.getD 0 0 = 2) :
 Calls Tryz.prog 98 #[.slice a 60 cap] w fun e w' => ∃ v v', e = .returned (.agg #[v, v']) ∧ OwnI 45 w' w.heap.size v (Lf.told b).1 ∧ OwnK 3 w' w.heap.size v' (Lf.told b).2 ∧ Below w.heap.size w w' := by
 have HL : Hid (b.length = 60) := hB.1
 have hm3 := Lf.many_le b
 obtain ⟨ab, off, rfl, hat⟩ := hB.place (by decide)
 have hb0 := hat 0 (by rw [HL.out]; decide)
 have hb1 := hat 1 (by rw [HL.out]; decide)
 rw [Nat.add_zero] at hb0
 have e0 : b[0]'(by rw [HL.out]; decide) = b.getD 0 0 := by simp [List.getD, List.getElem?_eq_getElem (show 0 < b.length by rw [HL.out]; decide)]
 have e1 : b[1]'(by rw [HL.out]; decide) = b.getD 1 0 := by simp [List.getD, List.getElem?_eq_getElem (show 1 < b.length by rw [HL.out]; decide)]
 rw [e0] at hb0
 rw [e1] at hb1
 have HBB : Hid (IsB w (some ⟨ab, off, none⟩) 60 b) := hB
 obtain ⟨m, hm⟩ : ∃ m, m = Lf.many b := ⟨_, rfl⟩
 have HM : Hid (Lf.many b = m) := hm.symm
 obtain ⟨w0, hw0, V0, b0, z0⟩ := boxedRow w 139 [.slice none 0 0, .slice none 0 0]
 obtain ⟨w1, hw1, V1, b1, z1⟩ := boxedRow w0 139 [.slice none 0 0, .slice none 0 0]
 rw [z0] at V1
 have hmn : (Builtin.min_ #[5, 5] 5 #[.int .u8 ((b.getD 1 0).toNat : Int), .int .u8 3]).run Tryz.prog w1 = .ok (.int .u8 (m : Int)) w1 := by
  rw [run_min_int2, hm]
  congr 2
  unfold Lf.many
  split <;> omega
 rw [← hm] at hm3
 obtain ⟨x1, hx1⟩ : ∃ x1, x1 = b.getD 1 0 := ⟨_, rfl⟩
 rw [← hx1] at hmn hb1
 obtain ⟨x0, hx0⟩ : ∃ x0, x0 = b.getD 0 0 := ⟨_, rfl⟩
 have HX0 : Hid (b.getD 0 0 = x0) := hx0.symm
 rw [← hx0] at hk hb0
 clear hm hat e0 e1 hB hx1 hx0
 have HV0 : Hid (Row w1 w.heap.size 139 [.slice none 0 0, .slice none 0 0]) := V0.below b1
 have HV1 : Hid _ := V1
 have B1 : Hid (Below w.heap.size w w1) := on b0 b1
 have HZ1 : Hid (w1.heap.size = w.heap.size + 2) := by unfold Hid; rw [z1, z0]
 have HQ0 : Hid (∀ {wx : World}, Below w.heap.size w wx → wx.cell? ⟨ab, off, none⟩ = some (.int .u8 (x0.toNat : Int))) := fun k => (k.cell (p := ⟨ab, off, none⟩) (World.block_lt_of_cell? _ _ hb0)).trans hb0
 have q1 : w1.cell? ⟨ab, off + 1, none⟩ = some (.int .u8 (x1.toNat : Int)) := (B1.out.cell (p := ⟨ab, off + 1, none⟩) (World.block_lt_of_cell? _ _ hb1)).trans hb1
 clear V0 V1 b0 b1 z1 hb0 hb1
 rcases hk with rfl | rfl
 · go_enter Tryz.func98, Tryz.ntmps98
   go_wp2
   go_loopw [5] (fun i wr => ∃ (k : Nat) (va : Option Addr) (vn vc : Nat), k ≤ m ∧ i = .int .i64 k ∧ Hid (Row wr (w.heap.size + 1) 139 [.slice va vn vc, .slice none 0 0]) ∧ Hid (Row wr w.heap.size 139 [.slice none 0 0, .slice none 0 0]) ∧ Hid (OwnI 45 wr (w.heap.size + 2) (.slice va vn vc) ((Lf.told b).1.take k)) ∧ Hid (w.heap.size + 2 ≤ wr.heap.size) ∧ Below w.heap.size w wr) (fun i _ => m - (intOf i).toNat)
   case atStart => exact ⟨0, none, 0, 0, Nat.zero_le _, rfl, HV1, HV0, OwnI.nil _ _ _, (Nat.le_of_eq HZ1.out.symm), B1.out⟩
   case round =>
    obtain ⟨k, va, vn, vc, hk, rfl, HR, HS, HO, HSz, bel⟩ := hrel
    by_cases hlt : k < m
    · have HBr : Hid (IsB wr (some ⟨ab, off, none⟩) 60 b) := HBB.out.below bel
      have BR : Hid _ := bel
      have HNx : Hid _ := Lf.told_next (b := b) (k := k) (by rw [HM.out]; exact hlt)
      obtain ⟨Y, hY⟩ : ∃ Y, Y = Lf.keyAt b k := ⟨_, rfl⟩
      obtain ⟨Z, hZ⟩ : ∃ Z, Z = Lf.valAt b k := ⟨_, rfl⟩
      rw [← hY, ← hZ] at HNx
      have HY : Hid (UInt64.ofNat (Oct.num (Oct.cut b (4 + 8 * k) 8)) = Y) := hY.symm
      have HZ : Hid _ := hZ
      clear hY hZ bel
      have hkz : (k : Int) < (m : Int) := by omega
      go_wp2_with fail
      refine (refGet8 _ _ _ b (4 + 8 * k) _ _ (by omega) rfl HBr.out (by omega)).mono ?_
      rintro e wy ⟨rfl, rfl⟩
      rw [HY.out]
      obtain ⟨wa, hwa, Va, ba, za⟩ := boxedRow wr 45 [.int .u64 (Y.toNat : Int), .int .u64 0]
      have fa1 := Va.frozen 1
      obtain ⟨sa0, sa1⟩ := Va.two
      obtain ⟨w2, hw2⟩ : ∃ w2, wa.setCell ⟨wr.heap.size, 1, none⟩ (.int .u64 0) = w2 := ⟨_, rfl⟩
      have V2 : Row w2 wr.heap.size 45 [.int .u64 (Y.toNat : Int), .int .u64 0] := by rw [← hw2]; exact Va.set 1 (.int .u64 0)
      have b2 : Below wr.heap.size wr w2 := by rw [← hw2]; exact ba.setCell (p := ⟨wr.heap.size, 1, none⟩) (Nat.le_refl _) _
      have B2 : Hid _ := b2
      have HV2 : Hid _ := V2
      have q0 : w2.cell? ⟨ab, off, none⟩ = some (.int .u8 1) := HQ0.out (on BR.out b2)
      clear V2 b2 Va ba za
      go_wp2_with fail
      refine (refGet8 _ _ _ b (4 + 8 * m + 8 * k) _ _ (by omega) rfl (HBr.out.below B2.out) (by omega)).mono ?_
      rintro e wy ⟨rfl, rfl⟩
      rw [show UInt64.ofNat (Oct.num (Oct.cut b (4 + 8 * m + 8 * k) 8)) = Z by rw [HZ.out]; unfold Lf.valAt; rw [HX0.out, HM.out, if_pos rfl]]
      obtain ⟨w3, hw3⟩ : ∃ w3, w2.setCell ⟨wr.heap.size, 1, none⟩ (.int .u64 (Z.toNat : Int)) = w3 := ⟨_, rfl⟩
      have HV3 : Hid (Row w3 wr.heap.size 45 [.int .u64 (Y.toNat : Int), .int .u64 (Z.toNat : Int)]) := by rw [← hw3]; exact HV2.out.set 1 _
      have B3 : Hid (Below wr.heap.size wr w3) := by rw [← hw3]; exact B2.out.setCell (p := ⟨wr.heap.size, 1, none⟩) (Nat.le_refl _) _
      have f1 := HV2.out.frozen 1
      obtain ⟨s0, s1⟩ := HV2.out.two
      have HR3 : Hid _ := HR.out.below B3.out
      have HO3 : Hid _ := HO.out.below B3.out
      obtain ⟨t0, t1⟩ := HR3.out.two
      have g0 := HR3.out.frozen 0
      obtain ⟨c0, c1⟩ := HV3.out.two
      obtain ⟨v', w4, hr4, ho4, gr4⟩ := run_append_itm HO3.out (Y, Z) (by rw [List.length_take]; omega) (Nat.le_trans HSz.out B3.out.size) 36
      obtain ⟨a4, n4, c4, rfl⟩ : ∃ a n c, v' = .slice a n c := by obtain ⟨a, c, e, -⟩ := ho4.slice; exact ⟨a, _, c, e⟩
      have HRun : Hid _ := hr4
      have hne : (Value.slice va vn vc).ownBlock ≠ some (w.heap.size + 1) := fun e => by have := (HO3.out.row.lt _ e).1; omega
      have hne0 : (Value.slice va vn vc).ownBlock ≠ some w.heap.size := fun e => by have := (HO3.out.row.lt _ e).1; omega
      have BA : Hid (Below w.heap.size w w4) := (below_alloc0 (on BR.out B3.out) _).grown gr4.grown (below_alloc0 (on BR.out B3.out) _).size (fun kk hkk => by have := (HO3.out.row.lt kk hkk).1; omega)
      have HR4 : Hid (Row w4 (w.heap.size + 1) 139 [.slice va vn vc, .slice none 0 0]) := (HR3.out.below ((Below.refl _ _).alloc (Nat.le_refl _) _)).grew gr4 hne
      have HS4 : Hid (Row w4 w.heap.size 139 [.slice none 0 0, .slice none 0 0]) := ((HS.out.below B3.out).below ((Below.refl _ _).alloc (Nat.le_refl _) _)).grew gr4 hne0
      have HSz4 : Hid (w.heap.size + 2 ≤ w4.heap.size) := Nat.le_trans (Nat.le_trans HSz.out B3.out.size) (Nat.le_trans (by simp) gr4.grown.size)
      have HO4 : Hid (OwnI 45 w4 (w.heap.size + 2) (.slice a4 n4 c4) ((Lf.told b).1.take (k + 1))) := by unfold Hid; rw [HNx.out]; exact ho4
      have h4 := HR4.out.frozen 0
      obtain ⟨u0, u1⟩ := HR4.out.two
      clear hr4 gr4 ho4
      go_wp2_with (at_builtin; refine Lib.wpList_append_run _ rfl _ _ _ _ rfl _ _ rfl rfl _ _ HRun.out ?_)
      have HR5 : Hid (Row (w4.setCell ⟨w.heap.size + 1, 0, none⟩ (.slice a4 n4 c4)) (w.heap.size + 1) 139 [.slice a4 n4 c4, .slice none 0 0]) := HR4.out.set 0 (.slice a4 n4 c4)
      have HS5 : Hid (Row (w4.setCell ⟨w.heap.size + 1, 0, none⟩ (.slice a4 n4 c4)) w.heap.size 139 [.slice none 0 0, .slice none 0 0]) := HS4.out.setO (p := ⟨w.heap.size + 1, 0, none⟩) (by simp) (.slice a4 n4 c4)
      have HO5 : Hid (OwnI 45 (w4.setCell ⟨w.heap.size + 1, 0, none⟩ (.slice a4 n4 c4)) (w.heap.size + 2) (.slice a4 n4 c4) ((Lf.told b).1.take (k + 1))) := HO4.out.setB (p := ⟨w.heap.size + 1, 0, none⟩) (by simp) (.slice a4 n4 c4)
      have B5 : Hid (Below w.heap.size w (w4.setCell ⟨w.heap.size + 1, 0, none⟩ (.slice a4 n4 c4))) := BA.out.setCell (p := ⟨w.heap.size + 1, 0, none⟩) (by simp) (.slice a4 n4 c4)
      have HSz5 : Hid (w.heap.size + 2 ≤ (w4.setCell ⟨w.heap.size + 1, 0, none⟩ (.slice a4 n4 c4)).heap.size) := by have := HSz4.out; unfold Hid; simpa [World.setCell] using this
      go_wp2
      go_roundw
      case rel => exact ⟨k + 1, a4, n4, c4, by omega, by go_num, HR5, HS5, HO5, HSz5, B5.out⟩
      case measure => simp [intOf]; omega
    · obtain rfl : m = k := by omega
      have HO0 : Hid (OwnI 45 wr (w.heap.size + 2) (.slice va vn vc) (Lf.told b).1) := by have h := HO.out; rw [← HM.out, Lf.told_all] at h; exact h
      clear HO
      have HK2 : Hid ((Lf.told b).2 = []) := by unfold Hid Lf.told; rw [HX0.out]; rfl
      go_wp2
      have q0 : wr.cell? ⟨ab, off, none⟩ = some (.int .u8 1) := HQ0.out bel
      obtain ⟨wq, hwq⟩ : ∃ wq, wq = wr := ⟨_, rfl⟩
      subst hwq
      go_loopw [9] (fun i wr => i = .int .i64 0 ∧ wr = wq) (fun i _ => 0)
      case atStart => exact ⟨rfl, rfl⟩
      case round =>
       obtain ⟨rfl, rfl⟩ := hrel
       obtain ⟨t0, t1⟩ := HR.out.two
       obtain ⟨s0, s1⟩ := HS.out.two
       have g0 := HS.out.frozen 0
       have g1 := HS.out.frozen 1
       go_wp2
       refine st_ret1 HS.out bel (Nat.le_refl _) _ _ rfl rfl Tryz.underlying139 rfl (by kernel_rfl) ?_
       intro w' K' B'
       exact ⟨_, _, rfl, (HO0.out.keptL K' (by omega)).mono (by omega), by rw [HK2.out]; exact OwnK.nil _ _ _, B'⟩
 · go_enter Tryz.func98, Tryz.ntmps98
   go_wp2
   go_loopw [5] (fun i wr => ∃ (k : Nat) (va : Option Addr) (vn vc : Nat), k ≤ m ∧ i = .int .i64 k ∧ Hid (Row wr (w.heap.size + 1) 139 [.slice va vn vc, .slice none 0 0]) ∧ Hid (Row wr w.heap.size 139 [.slice none 0 0, .slice none 0 0]) ∧ Hid (OwnI 45 wr (w.heap.size + 2) (.slice va vn vc) ((Lf.told b).1.take k)) ∧ Hid (w.heap.size + 2 ≤ wr.heap.size) ∧ Below w.heap.size w wr) (fun i _ => m - (intOf i).toNat)
   case atStart => exact ⟨0, none, 0, 0, Nat.zero_le _, rfl, HV1, HV0, OwnI.nil _ _ _, (Nat.le_of_eq HZ1.out.symm), B1.out⟩
   case round =>
    obtain ⟨k, va, vn, vc, hk, rfl, HR, HS, HO, HSz, bel⟩ := hrel
    by_cases hlt : k < m
    · have HBr : Hid (IsB wr (some ⟨ab, off, none⟩) 60 b) := HBB.out.below bel
      have BR : Hid _ := bel
      have HNx : Hid _ := Lf.told_next (b := b) (k := k) (by rw [HM.out]; exact hlt)
      obtain ⟨Y, hY⟩ : ∃ Y, Y = Lf.keyAt b k := ⟨_, rfl⟩
      obtain ⟨Z, hZ⟩ : ∃ Z, Z = Lf.valAt b k := ⟨_, rfl⟩
      rw [← hY, ← hZ] at HNx
      have HY : Hid (UInt64.ofNat (Oct.num (Oct.cut b (4 + 8 * k) 8)) = Y) := hY.symm
      have HZ : Hid _ := hZ
      clear hY hZ bel
      have hkz : (k : Int) < (m : Int) := by omega
      go_wp2_with fail
      refine (refGet8 _ _ _ b (4 + 8 * k) _ _ (by omega) rfl HBr.out (by omega)).mono ?_
      rintro e wy ⟨rfl, rfl⟩
      rw [HY.out]
      obtain ⟨wa, hwa, Va, ba, za⟩ := boxedRow wr 45 [.int .u64 (Y.toNat : Int), .int .u64 0]
      have fa1 := Va.frozen 1
      obtain ⟨sa0, sa1⟩ := Va.two
      obtain ⟨w2, hw2⟩ : ∃ w2, wa.setCell ⟨wr.heap.size, 1, none⟩ (.int .u64 0) = w2 := ⟨_, rfl⟩
      have V2 : Row w2 wr.heap.size 45 [.int .u64 (Y.toNat : Int), .int .u64 0] := by rw [← hw2]; exact Va.set 1 (.int .u64 0)
      have b2 : Below wr.heap.size wr w2 := by rw [← hw2]; exact ba.setCell (p := ⟨wr.heap.size, 1, none⟩) (Nat.le_refl _) _
      have B2 : Hid _ := b2
      have HV2 : Hid _ := V2
      have q0 : w2.cell? ⟨ab, off, none⟩ = some (.int .u8 2) := HQ0.out (on BR.out b2)
      clear V2 b2 Va ba za
      have HZ0 : Hid (Z = 0) := by unfold Hid; rw [HZ.out]; unfold Lf.valAt; rw [HX0.out]; rfl
      obtain ⟨w3, rfl⟩ : ∃ w3, w3 = w2 := ⟨_, rfl⟩
      have HV3 : Hid (Row w3 wr.heap.size 45 [.int .u64 (Y.toNat : Int), .int .u64 (Z.toNat : Int)]) := by rw [HZ0.out]; exact HV2.out
      have B3 : Hid (Below wr.heap.size wr w3) := B2.out
      have e3 : (Z.toNat : Int) = 0 := by rw [HZ0.out]; rfl
      have HR3 : Hid _ := HR.out.below B3.out
      have HO3 : Hid _ := HO.out.below B3.out
      obtain ⟨t0, t1⟩ := HR3.out.two
      have g0 := HR3.out.frozen 0
      obtain ⟨c0, c1⟩ := HV3.out.two
      obtain ⟨v', w4, hr4, ho4, gr4⟩ := run_append_itm HO3.out (Y, Z) (by rw [List.length_take]; omega) (Nat.le_trans HSz.out B3.out.size) 36
      rw [e3] at hr4 gr4 HV3 c1
      clear e3
      obtain ⟨a4, n4, c4, rfl⟩ : ∃ a n c, v' = .slice a n c := by obtain ⟨a, c, e, -⟩ := ho4.slice; exact ⟨a, _, c, e⟩
      have HRun : Hid _ := hr4
      have hne : (Value.slice va vn vc).ownBlock ≠ some (w.heap.size + 1) := fun e => by have := (HO3.out.row.lt _ e).1; omega
      have hne0 : (Value.slice va vn vc).ownBlock ≠ some w.heap.size := fun e => by have := (HO3.out.row.lt _ e).1; omega
      have BA : Hid (Below w.heap.size w w4) := (below_alloc0 (on BR.out B3.out) _).grown gr4.grown (below_alloc0 (on BR.out B3.out) _).size (fun kk hkk => by have := (HO3.out.row.lt kk hkk).1; omega)
      have HR4 : Hid (Row w4 (w.heap.size + 1) 139 [.slice va vn vc, .slice none 0 0]) := (HR3.out.below ((Below.refl _ _).alloc (Nat.le_refl _) _)).grew gr4 hne
      have HS4 : Hid (Row w4 w.heap.size 139 [.slice none 0 0, .slice none 0 0]) := ((HS.out.below B3.out).below ((Below.refl _ _).alloc (Nat.le_refl _) _)).grew gr4 hne0
      have HSz4 : Hid (w.heap.size + 2 ≤ w4.heap.size) := Nat.le_trans (Nat.le_trans HSz.out B3.out.size) (Nat.le_trans (by simp) gr4.grown.size)
      have HO4 : Hid (OwnI 45 w4 (w.heap.size + 2) (.slice a4 n4 c4) ((Lf.told b).1.take (k + 1))) := by unfold Hid; rw [HNx.out]; exact ho4
      have h4 := HR4.out.frozen 0
      obtain ⟨u0, u1⟩ := HR4.out.two
      clear hr4 gr4 ho4
      go_wp2_with (at_builtin; refine Lib.wpList_append_run _ rfl _ _ _ _ rfl _ _ rfl rfl _ _ HRun.out ?_)
      have HR5 : Hid (Row (w4.setCell ⟨w.heap.size + 1, 0, none⟩ (.slice a4 n4 c4)) (w.heap.size + 1) 139 [.slice a4 n4 c4, .slice none 0 0]) := HR4.out.set 0 (.slice a4 n4 c4)
      have HS5 : Hid (Row (w4.setCell ⟨w.heap.size + 1, 0, none⟩ (.slice a4 n4 c4)) w.heap.size 139 [.slice none 0 0, .slice none 0 0]) := HS4.out.setO (p := ⟨w.heap.size + 1, 0, none⟩) (by simp) (.slice a4 n4 c4)
      have HO5 : Hid (OwnI 45 (w4.setCell ⟨w.heap.size + 1, 0, none⟩ (.slice a4 n4 c4)) (w.heap.size + 2) (.slice a4 n4 c4) ((Lf.told b).1.take (k + 1))) := HO4.out.setB (p := ⟨w.heap.size + 1, 0, none⟩) (by simp) (.slice a4 n4 c4)
      have B5 : Hid (Below w.heap.size w (w4.setCell ⟨w.heap.size + 1, 0, none⟩ (.slice a4 n4 c4))) := BA.out.setCell (p := ⟨w.heap.size + 1, 0, none⟩) (by simp) (.slice a4 n4 c4)
      have HSz5 : Hid (w.heap.size + 2 ≤ (w4.setCell ⟨w.heap.size + 1, 0, none⟩ (.slice a4 n4 c4)).heap.size) := by have := HSz4.out; unfold Hid; simpa [World.setCell] using this
      go_wp2
      go_roundw
      case rel => exact ⟨k + 1, a4, n4, c4, by omega, by go_num, HR5, HS5, HO5, HSz5, B5.out⟩
      case measure => simp [intOf]; omega
    · obtain rfl : m = k := by omega
      have HO0 : Hid (OwnI 45 wr (w.heap.size + 2) (.slice va vn vc) (Lf.told b).1) := by have h := HO.out; rw [← HM.out, Lf.told_all] at h; exact h
      clear HO
      have HK2 : Hid ((Lf.told b).2 = Lf.kidL b (m + 1)) := by unfold Hid Lf.told Lf.kidL; rw [HX0.out, HM.out]; rfl
      go_wp2
      go_loopw [9] (fun i wr => ∃ (k : Nat) (ua : Option Addr) (un uc : Nat), k ≤ m + 1 ∧ i = .int .i64 k ∧ Hid (Row wr (w.heap.size + 1) 139 [.slice va vn vc, .slice ua un uc]) ∧ Hid (Row wr w.heap.size 139 [.slice none 0 0, .slice none 0 0]) ∧ Hid (OwnI 45 wr (w.heap.size + 2) (.slice va vn vc) (Lf.told b).1) ∧ Hid (OwnK 3 wr (w.heap.size + 2) (.slice ua un uc) (Lf.kidL b k)) ∧ Hid (∀ g, (Value.slice va vn vc).ownBlock = some g → (Value.slice ua un uc).ownBlock ≠ some g) ∧ Hid (w.heap.size + 2 ≤ wr.heap.size) ∧ Below w.heap.size w wr) (fun i _ => m + 1 - (intOf i).toNat)
      case atStart => exact ⟨0, none, 0, 0, Nat.zero_le _, rfl, HR, HS, HO0, OwnK.nil _ _ _, (fun g _ e => by cases e), HSz, bel⟩
      case round =>
       clear HR HS HO0 HSz bel
       obtain ⟨k, ua, un, uc, hk, rfl, HR, HS, HO, HOK, HAp, HSz, bel⟩ := hrel
       by_cases hlt : k < m + 1
       · have HBr : Hid (IsB wr (some ⟨ab, off, none⟩) 60 b) := HBB.out.below bel
         have BR : Hid _ := bel
         have q0 : wr.cell? ⟨ab, off, none⟩ = some (.int .u8 2) := HQ0.out bel
         have HNx : Hid _ := Lf.kid_next b k
         have hkz : (k : Int) ≤ (m : Int) := by omega
         clear bel
         go_wp2_with fail
         refine (refGet4 _ _ _ b (4 + 8 * m + 4 * k) _ _ (by omega) rfl HBr.out (by omega)).mono ?_
         rintro e wy ⟨q, rfl, hq, hqe, rfl⟩
         have HQE : Hid (Lf.kidAt b k = (q : Int)) := by unfold Hid Lf.kidAt; rw [HM.out, hqe]
         rw [HQE.out] at HNx
         clear hqe
         obtain ⟨t0, t1⟩ := HR.out.two
         have g0 := HR.out.frozen 1
         obtain ⟨v', w4, hr4, ho4, gr4⟩ := run_append_kid HOK.out (q : Int) (by omega) (by simp [Lf.kidL]; omega) HSz.out 25
         obtain ⟨a4, n4, c4, rfl⟩ : ∃ a n c, v' = .slice a n c := by obtain ⟨a, c, e, -⟩ := ho4.slice; exact ⟨a, _, c, e⟩
         have HRun : Hid _ := hr4
         have hne : (Value.slice ua un uc).ownBlock ≠ some (w.heap.size + 1) := fun e => by have := (HOK.out.row.lt _ e).1; omega
         have hne0 : (Value.slice ua un uc).ownBlock ≠ some w.heap.size := fun e => by have := (HOK.out.row.lt _ e).1; omega
         have BA : Hid (Below w.heap.size w w4) := (below_alloc0 BR.out _).grown gr4.grown (below_alloc0 BR.out _).size (fun kk hkk => by have := (HOK.out.row.lt kk hkk).1; omega)
         have HR4 : Hid (Row w4 (w.heap.size + 1) 139 [.slice va vn vc, .slice ua un uc]) := (HR.out.below ((Below.refl _ _).alloc (Nat.le_refl _) _)).grew gr4 hne
         have HS4 : Hid (Row w4 w.heap.size 139 [.slice none 0 0, .slice none 0 0]) := (HS.out.below ((Below.refl _ _).alloc (Nat.le_refl _) _)).grew gr4 hne0
         have HSz4 : Hid (w.heap.size + 2 ≤ w4.heap.size) := Nat.le_trans HSz.out (Nat.le_trans (by simp) gr4.grown.size)
         have HOI4 : Hid (OwnI 45 w4 (w.heap.size + 2) (.slice va vn vc) (Lf.told b).1) := (HO.out.below ((Below.refl _ _).alloc (Nat.le_refl _) _)).grewO gr4 HAp.out
         have HOK4 : Hid (OwnK 3 w4 (w.heap.size + 2) (.slice a4 n4 c4) (Lf.kidL b (k + 1))) := by unfold Hid; rw [HNx.out]; exact ho4
         have HAp4 : Hid (∀ g, (Value.slice va vn vc).ownBlock = some g → (Value.slice a4 n4 c4).ownBlock ≠ some g) := fun g eg eg2 => by
          rcases gr4.place g eg2 with h | h
          · exact HAp.out g eg h
          · have := (HO.out.row.lt g eg).2; simp at h; omega
         have h4 := HR4.out.frozen 1
         obtain ⟨u0, u1⟩ := HR4.out.two
         clear hr4 gr4 ho4
         go_wp2_with (at_builtin; refine Lib.wpList_append_run _ rfl _ _ _ _ rfl _ _ rfl rfl _ _ HRun.out ?_)
         have HR5 : Hid (Row (w4.setCell ⟨w.heap.size + 1, 1, none⟩ (.slice a4 n4 c4)) (w.heap.size + 1) 139 [.slice va vn vc, .slice a4 n4 c4]) := HR4.out.set 1 (.slice a4 n4 c4)
         have HS5 : Hid (Row (w4.setCell ⟨w.heap.size + 1, 1, none⟩ (.slice a4 n4 c4)) w.heap.size 139 [.slice none 0 0, .slice none 0 0]) := HS4.out.setO (p := ⟨w.heap.size + 1, 1, none⟩) (by simp) (.slice a4 n4 c4)
         have HO5 : Hid (OwnI 45 (w4.setCell ⟨w.heap.size + 1, 1, none⟩ (.slice a4 n4 c4)) (w.heap.size + 2) (.slice va vn vc) (Lf.told b).1) := HOI4.out.setB (p := ⟨w.heap.size + 1, 1, none⟩) (by simp) (.slice a4 n4 c4)
         have HK5 : Hid (OwnK 3 (w4.setCell ⟨w.heap.size + 1, 1, none⟩ (.slice a4 n4 c4)) (w.heap.size + 2) (.slice a4 n4 c4) (Lf.kidL b (k + 1))) := HOK4.out.setB (p := ⟨w.heap.size + 1, 1, none⟩) (by simp) (.slice a4 n4 c4)
         have B5 : Hid (Below w.heap.size w (w4.setCell ⟨w.heap.size + 1, 1, none⟩ (.slice a4 n4 c4))) := BA.out.setCell (p := ⟨w.heap.size + 1, 1, none⟩) (by simp) (.slice a4 n4 c4)
         have HSz5 : Hid (w.heap.size + 2 ≤ (w4.setCell ⟨w.heap.size + 1, 1, none⟩ (.slice a4 n4 c4)).heap.size) := by have := HSz4.out; unfold Hid; simpa [World.setCell] using this
         go_wp2
         go_roundw
         case rel => exact ⟨k + 1, a4, n4, c4, by omega, by go_num, HR5, HS5, HO5, HK5, HAp4, HSz5, B5.out⟩
         case measure => simp [intOf]; omega
       · obtain rfl : k = m + 1 := by omega
         have hzz : ¬ ((m + 1 : Nat) : Int) ≤ (m : Int) := by omega
         obtain ⟨t0, t1⟩ := HR.out.two
         obtain ⟨s0, s1⟩ := HS.out.two
         have g0 := HS.out.frozen 0
         have g1 := HS.out.frozen 1
         go_wp2
         refine st_ret1 HS.out bel (Nat.le_refl _) _ _ rfl rfl Tryz.underlying139 rfl (by kernel_rfl) ?_
         intro w' K' B'
         exact ⟨_, _, rfl, (HO.out.keptL K' (by omega)).mono (by omega), by rw [HK2.out]; exact (HOK.out.keptL K' (by omega)).mono (by omega), B'⟩
set_option maxHeartbeats 2000000 in
theorem sameItms_u (w : World) (P P' : Nat → Prop) (a a' : Option Addr) (n c n' c' : Nat) (l m : List Itm) (hL : rItms.rd w P [.slice a n c] l) (hM : rItms.rd w P' [.slice a' n' c'] m) :
 Calls Tryz.prog 13 #[.slice a n c, .slice a' n' c'] w fun e w' => e = .returned (.bool (decide (l = m))) ∧ Below w.heap.size w w' := by
 obtain ⟨hl, hnc, hnil, hb⟩ := rList_len hL
 obtain ⟨hl', hnc', hnil', hb'⟩ := rList_len hM
 have hn : n ≤ 8796093022000 := by have : n * 16 ≤ 140737488351232 := hb; omega
 have hn' : n' ≤ 8796093022000 := by have : n' * 16 ≤ 140737488351232 := hb'; omega
 have HL : Hid _ := hl
 have HL' : Hid _ := hl'
 have HR : Hid _ := hL
 have HM : Hid _ := hM
 clear hl hl' hnc hnc' hnil hnil' hb hb' hL hM
 obtain ⟨r, hr⟩ : ∃ r, r = decide (l = m) := ⟨_, rfl⟩
 rw [← hr]
 have HD : Hid _ := hr
 clear hr
 have heq := equal_itm
 go_enter Tryz.func13, Tryz.ntmps13
 by_cases hnn : n = n'
 · subst hnn
   go_wp2
   go_loopw [5] (fun i wr => ∃ j : Nat, j ≤ n ∧ i = .int .i64 j ∧ Hid (l.take j = m.take j) ∧ Below w.heap.size w wr) (fun i _ => n - (intOf i).toNat)
   case atStart => exact ⟨0, Nat.zero_le _, rfl, rfl, Below.refl _ _⟩
   case round =>
    obtain ⟨j, hj, rfl, HT, bel⟩ := hrel
    by_cases hlt : j < n
    · have hkl : j < l.length := by rw [HL.out]; exact hlt
      have hkm : j < m.length := by rw [HL'.out]; exact hlt
      obtain ⟨g, off, rfl, -, hgl, hat⟩ := rItms_at (Rep.below HR.out bel) (by omega)
      obtain ⟨c0, c1⟩ := hat j hkl
      obtain ⟨g', off', rfl, -, hgl', hat'⟩ := rItms_at (Rep.below HM.out bel) (by omega)
      obtain ⟨c0', c1'⟩ := hat' j hkm
      have HN : Hid (l[j] = m[j] → l.take (j + 1) = m.take (j + 1)) := fun e => take_next HT.out hkl hkm e
      have HX : Hid (l[j] ≠ m[j] → l ≠ m) := fun e e2 => e (by subst e2; rfl)
      obtain ⟨X, hX⟩ : ∃ X, X = l[j] := ⟨_, rfl⟩
      obtain ⟨Y, hY⟩ : ∃ Y, Y = m[j] := ⟨_, rfl⟩
      rw [← hX] at c0 c1 HN HX
      rw [← hY] at c0' c1' HN HX
      clear hX hY hat hat'
      have hkn : (j : Int) < (n : Int) := by omega
      by_cases he : X = Y
      · have HN2 : Hid _ := HN.out he
        clear HN HX
        go_wp2_with fail
        go_quiet (fail)
        go_wp2
        go_roundw
        case rel => exact ⟨j + 1, by omega, by go_num, HN2, same_drewN bel nq⟩
        case measure => simp [intOf]; omega
      · have HN2 : Hid (r = false) := HD.out.trans (decide_eq_false (HX.out he))
        clear HN HX
        go_wp2_with fail
        go_quiet (fail)
        go_wp2
        go_ret
        exact ⟨by rw [HN2.out]; rfl, same_drewN bel nq⟩
    · obtain rfl : j = n := by omega
      have HN2 : Hid (r = true) := HD.out.trans (decide_eq_true (by have h := HT.out; rw [List.take_of_length_le (by rw [HL.out]; exact Nat.le_refl _), List.take_of_length_le (by rw [HL'.out]; exact Nat.le_refl _)] at h; exact h))
      go_wp2
      go_ret
      exact ⟨by rw [HN2.out]; rfl, bel⟩
 · have HN2 : Hid (r = false) := HD.out.trans (decide_eq_false (fun e => hnn (by rw [← HL.out, ← HL'.out, e])))
   have hni : (n : Int) ≠ (n' : Int) := by omega
   go_wp2
   go_ret
   exact ⟨by rw [HN2.out]; rfl, Below.refl _ _⟩
theorem Lf.way_next {l : List Itm} {k : Nat} (hk : k < l.length) (key : UInt64) : ((l.take (k + 1)).filter fun x => decide (x.1.toNat ≤ key.toNat)).length = ((l.take k).filter fun x => decide (x.1.toNat ≤ key.toNat)).length + (if l[k].1.toNat ≤ key.toNat then 1 else 0) := by
 rw [List.take_succ_eq_append_getElem hk, List.filter_append, List.length_append]
 congr 1
 by_cases c : l[k].1.toNat ≤ key.toNat
 · rw [if_pos c]; simp [c]
 · rw [if_neg c]; simp [c]
end Go.Proofs.YtkbmadoaomoojaaGreat
