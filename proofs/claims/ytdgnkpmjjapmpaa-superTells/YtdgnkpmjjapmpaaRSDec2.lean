/-
  The contract of the document's own Decode of a superblock, where the sum stands. Conditions: those that each contract names.
-/
import Derived.Test.YtdgnkpmjjapmpaaRSDec
namespace Go.Proofs.Ytdgnkpmjjapmpaa
open Go.RowKit
set_option linter.unusedVariables false

theorem lo_in (n : Nat) : -9223372036854775808 ≤ Sup.lo n ∧ Sup.lo n ≤ 9223372036854775807 := by unfold Sup.lo; omega

theorem rSuper_lo (w : World) (P : Nat → Prop) (n0 n1 n2 n3 n4 n5 n6 : Nat) : rSuper.rd w P [.int .i64 (Sup.lo n0), .int .i64 (Sup.lo n1), .int .i64 (Sup.lo n2), .int .i64 (Sup.lo n3), .int .i64 (Sup.lo n4), .int .i64 (Sup.lo n5), .int .i64 (Sup.lo n6)] (Sup.ofNums [n0, n1, n2, n3, n4, n5, n6]) :=
  ⟨[_], _, rfl, ⟨rfl, lo_in _⟩, [_], _, rfl, ⟨rfl, lo_in _⟩, [_], _, rfl, ⟨rfl, lo_in _⟩, [_], _, rfl, ⟨rfl, lo_in _⟩, [_], _, rfl, ⟨rfl, lo_in _⟩, [_], _, rfl, ⟨rfl, lo_in _⟩, rfl, lo_in _⟩

namespace Sup
theorem decode_lo {b : List UInt8} (h64 : b.length = 64) (h1 : Crc.openE b = 0) (h2 : isHead b = true) (h3 : isBare b = true) :
    decodeE b = checkE (ofNums (Oct.unpackL widths (inner b))) ∧ decodeS b = if ok (ofNums (Oct.unpackL widths (inner b))) then ofNums (Oct.unpackL widths (inner b)) else zero := by
  have hE : decodeE b = if ok (read b) then 0 else 4 := by unfold decodeE; rw [if_pos h64, if_pos ⟨h1, h2, h3⟩]
  have hr : read b = ofNums (Oct.unpackL widths (inner b)) := by unfold read; rfl
  rw [hr] at hE
  generalize Oct.unpackL widths (inner b) = l at *
  have hS1 : decodeE b = 0 → decodeS b = ofNums l := fun h => by unfold decodeS; rw [if_pos h, hr]
  have hS2 : decodeE b ≠ 0 → decodeS b = zero := fun h => by unfold decodeS; rw [if_neg h]
  unfold checkE
  generalize decodeE b = E at *
  generalize decodeS b = S at *
  cases h : ok (ofNums l)
  · rw [h, if_neg (by decide)] at hE
    rw [if_neg (by decide), if_neg (by decide)]
    exact ⟨hE, hS2 (by rw [hE]; decide)⟩
  · rw [h, if_pos rfl] at hE
    rw [if_pos rfl, if_pos rfl]
    exact ⟨hE, hS1 hE⟩
end Sup

set_option maxHeartbeats 20000000 in
theorem refDecode_in (w : World) (a : Option Addr) (cap : Nat) (l : List UInt8) (hcap : 64 ≤ cap) (hB : IsB w a 64 l) (hE : Crc.openE l = 0) :
    Calls Try.prog 13 #[.slice a 64 cap] w fun e w' => e = .returned (.tuple #[.agg (cells7 (Sup.decodeS l)).toArray, .int .i64 (Sup.decodeE l)]) ∧ Below w.heap.size w w' := by
  have hl60 : (Crc.openL l).length = 60 := openL_length hB.1 hE
  have hl64 : Hid (l.length = 64) := hB.1
  have HL : Hid _ := hl60
  have HB : Hid (IsB _ _ _ _) := hB
  clear hB hl60
  obtain ⟨w0, hw0, V, bw0, -⟩ := boxedRow w 23 [.int .i64 0, .int .i64 0, .int .i64 0, .int .i64 0, .int .i64 0, .int .i64 0, .int .i64 0]
  go_enter Try.func13, Try.ntmps13
  go_wp2_with fail
  refine (refOpen_u _ _ 64 _ l (by decide) hcap (HB.out.below bw0)).mono ?_
  rintro ex w1 ⟨xa, xn, xc, rfl, ho, bw1⟩
  rw [hE]
  obtain rfl : xn = 60 := (owns_len ho).trans HL.out
  obtain ⟨hX, hXc, -⟩ := owns_isB ho
  obtain ⟨xb, xo, rfl, hXcell⟩ := hX.place (by decide)
  have HX : Hid (IsB _ _ _ _) := hX
  have HC : Hid _ := hXcell
  clear hX hXcell
  have V := V.below bw1
  have c0 := V.cell (j := 0) rfl
  have c1 := V.cell (j := 1) rfl
  have c2 := V.cell (j := 2) rfl
  have c3 := V.cell (j := 3) rfl
  have c4 := V.cell (j := 4) rfl
  have c5 := V.cell (j := 5) rfl
  have c6 := V.cell (j := 6) rfl
  have f0 := V.frozen 0
  have f1 := V.frozen 1
  have f2 := V.frozen 2
  have f3 := V.frozen 3
  have f4 := V.frozen 4
  have f5 := V.frozen 5
  have f6 := V.frozen 6
  have HE : Hid _ := hE
  clear ho hE
  have hs := conv_bytes w1 (some ⟨xb, xo, none⟩) 4 xc _ (HX.out.head 4 (by decide) (by decide))
  cases hh : Sup.isHead l
  · have hh' : (List.take 4 (Crc.openL l) == [102, 115, 116, 49]) = false := hh
    have E9 : Hid _ := Sup.decode_no hl64.out (fun h => by rw [hh] at h; exact Bool.noConfusion h.2.1)
    clear hh
    go_wp2
    exact sup_ret V (on bw0 bw1) (Nat.le_refl _) _ _ _ _ _ _ _ _ rfl rfl rfl Try.underlying23 rfl (by kernel_rfl) (fun w' _ b' => ⟨by rw [E9.out.1, E9.out.2]; rfl, b'⟩)
  · have hh' : (List.take 4 (Crc.openL l) == [102, 115, 116, 49]) = true := hh
    have HH : Hid _ := hh
    clear hh
    go_wp2
    clear hs hw0
    go_loop [6] (fun i => ∃ k : Nat, 40 ≤ k ∧ k ≤ 60 ∧ i = .int .i64 k ∧ Hid (∀ j (h : j < (Crc.openL l).length), 40 ≤ j → j < k → (Crc.openL l)[j] = 0)) (fun i => 60 - (intOf i).toNat)
    case atStart => exact ⟨40, Nat.le_refl _, by decide, rfl, fun j _ h1 h2 => by omega⟩
    case round =>
      obtain ⟨k, hk0, hk, rfl, HK⟩ := hrel
      by_cases hlt : k < 60
      · have hkl : k < (Crc.openL l).length := by rw [HL.out]; exact hlt
        have hc := HC.out k hkl
        by_cases hz : (Crc.openL l)[k] = 0
        · rw [hz] at hc
          go_wp2
          go_round
          case rel => exact ⟨k + 1, by omega, by omega, by go_num, fun j hj h1 h2 => by
              by_cases ejk : j = k
              · subst ejk; exact hz
              · exact HK.out j hj h1 (by omega)⟩
          case measure => simp [intOf]; omega
        · have hne : (((Crc.openL l)[k].toNat : Int) != 0) = true := bne_iff_ne.2 (fun h => hz (UInt8.toNat_inj.1 (by simpa using h)))
          have E9 : Hid _ := Sup.decode_no hl64.out (fun h => hz (Sup.bare_at h.2.2 hk0 hkl))
          clear hz
          go_wp2
          exact sup_ret V (on bw0 bw1) (Nat.le_refl _) _ _ _ _ _ _ _ _ rfl rfl rfl Try.underlying23 rfl (by kernel_rfl) (fun w' _ b' => ⟨by rw [E9.out.1, E9.out.2]; rfl, b'⟩)
      · obtain rfl : k = 60 := by omega
        have HBARE : Hid (Sup.isBare l = true) := Sup.bare_all (fun j hj h1 => HK.out j hj h1 (by rw [HL.out] at hj; exact hj))
        have HOK : Hid _ := Sup.inner_ok HL.out
        have HI : Hid (IsB w1 (some ⟨xb, xo + 4, none⟩) 36 (Sup.inner l)) := HX.out.mid 4 36 (by decide)
        have BW : Hid (Below w.heap.size w w1) := on bw0 bw1
        have V1 : Hid (Row _ _ _ _) := V
        have q40 : (40 : Int) ≤ (xc : Int) := by omega
        have q4 : ¬ xc = 4 := by omega
        clear c0 c1 c2 c3 c4 c5 c6 f0 f1 f2 f3 f4 f5 f6 V HC HK bw0 bw1 hh'
        go_wp2_with fail
        go_region_held_law (fun w' : World => True) (trivial)
          (first
          | (go_simp; go_at_call 28; refine (widths_u _).mono ?_; rintro ey w2 ⟨rfl, hW, bw2⟩; have HW : Hid (IsN _ _ _ _ _) := hW; clear hW; have BW2 : Hid (Below w1.heap.size w1 w2) := below_of_drew bw2; clear bw2; go_simp)
          | (go_simp; go_at_call 37; refine (refUnpack_in _ _ _ 7 7 36 _ Sup.widths (Sup.inner l) (by decide) (by decide) HW.out (HI.out.below BW2.out)).mono ?_
             rintro ez w3 ⟨ua, un, uc, rfl, hU, bw3⟩
             rw [HOK.out.1]
             obtain ⟨ua', uc', eu, -, eun, -, hUN⟩ := owns_nums hU
             rw [HOK.out.2.1] at eun
             subst eun
             have HU : Hid (IsN .u64 w3 ua 7 _) := (by cases eu; exact hUN)
             have BW3 : Hid (Below w1.heap.size w1 w3) := on BW2.out bw3
             clear hU bw3 eu hUN; go_simp))
        obtain ⟨n0, n1, n2, n3, n4, n5, n6, hU7⟩ := seven_of HOK.out.2.1
        have HU7 : Hid _ := hU7
        rw [hU7] at HU
        clear hU7
        obtain ⟨ub, uo, rfl, -, hcu⟩ := HU.out.place (by decide)
        have U : Hid (∀ w', Below w3.heap.size w3 w' → w'.cell? ⟨ub, uo, none⟩ = some (.int .u64 n0) ∧ w'.cell? ⟨ub, uo + 1, none⟩ = some (.int .u64 n1) ∧ w'.cell? ⟨ub, uo + 2, none⟩ = some (.int .u64 n2) ∧ w'.cell? ⟨ub, uo + 3, none⟩ = some (.int .u64 n3) ∧ w'.cell? ⟨ub, uo + 4, none⟩ = some (.int .u64 n4) ∧ w'.cell? ⟨ub, uo + 5, none⟩ = some (.int .u64 n5) ∧ w'.cell? ⟨ub, uo + 6, none⟩ = some (.int .u64 n6)) := fun w' b' => by
          have h' := HU.out.below b'
          obtain ⟨-, -, hc⟩ := h'
          have g := fun (j : Nat) (hj : j < 7) => hc _ rfl j hj
          refine ⟨g 0 (by decide), ?_, ?_, ?_, ?_, ?_, ?_⟩
          · have := g 1 (by decide); rw [Addr.add_lit] at this; exact this
          · have := g 2 (by decide); rw [Addr.add_lit] at this; exact this
          · have := g 3 (by decide); rw [Addr.add_lit] at this; exact this
          · have := g 4 (by decide); rw [Addr.add_lit] at this; exact this
          · have := g 5 (by decide); rw [Addr.add_lit] at this; exact this
          · have := g 6 (by decide); rw [Addr.add_lit] at this; exact this
        have HD : Hid _ := Sup.decode_lo hl64.out HE.out HH.out HBARE.out
        rw [HU7.out] at HD
        have HV3 : Hid (Row _ _ _ _) := V1.out.below BW3.out
        have HB3 : Hid (Below w.heap.size w w3) := on BW.out BW3.out
        clear hcu HX HE HH HBARE HI HW q40 q4 HL HB hl64 HOK HU7 V1 BW BW2 BW3
        go_wp2_with fail
        go_region_held_law (fun w' : World => w'.cell? ⟨ub, uo, none⟩ = some (.int .u64 n0) ∧ w'.cell? ⟨ub, uo + 1, none⟩ = some (.int .u64 n1) ∧ w'.cell? ⟨ub, uo + 2, none⟩ = some (.int .u64 n2) ∧ w'.cell? ⟨ub, uo + 3, none⟩ = some (.int .u64 n3) ∧ w'.cell? ⟨ub, uo + 4, none⟩ = some (.int .u64 n4) ∧ w'.cell? ⟨ub, uo + 5, none⟩ = some (.int .u64 n5) ∧ w'.cell? ⟨ub, uo + 6, none⟩ = some (.int .u64 n6))
          (first | exact U.out _ (Below.refl _ w3).drew | exact U.out _ ((Below.refl _ w3).alloc (Nat.le_refl _) _) | exact U.out _ ((Below.refl _ w3).drew.alloc (Nat.le_refl _) _) | exact U.out _ ((Below.refl _ w3).alloc (Nat.le_refl _) _).drew)
          (first
          | (go_simp; go_at_call 38; refine (number_u _ _).mono ?_; rintro ey wy ⟨rfl, rfl⟩; go_simp))
        all_goals go_wp2_with fail
        all_goals refine (refCheck4_u _ (fun _ => True) _ _ (rSuper_lo _ _ n0 n1 n2 n3 n4 n5 n6)).mono ?_
        all_goals rintro ey w7 ⟨rfl, bw7⟩
        all_goals have HB7 : Hid (Below w.heap.size w w7) := by first | exact on (alloc_on HB3.out _).drew bw7 | exact on (alloc_on HB3.out.drew _) bw7
        all_goals have V7 : Row w7 w.heap.size 23 [.int .i64 0, .int .i64 0, .int .i64 0, .int .i64 0, .int .i64 0, .int .i64 0, .int .i64 0] := by first | exact (HV3.out.alloc _).drew.below bw7 | exact (HV3.out.drew.alloc _).below bw7
        all_goals have S7 : Row w7 w3.heap.size 23 [.int .i64 (Sup.lo n0), .int .i64 (Sup.lo n1), .int .i64 (Sup.lo n2), .int .i64 (Sup.lo n3), .int .i64 (Sup.lo n4), .int .i64 (Sup.lo n5), .int .i64 (Sup.lo n6)] := by first | exact (row_new w3 _ _).drew.below bw7 | exact (row_new w3.drew _ _).below bw7
        all_goals clear bw7 HB3 HV3 U
        all_goals have c0 := V7.cell (j := 0) rfl
        all_goals have c1 := V7.cell (j := 1) rfl
        all_goals have c2 := V7.cell (j := 2) rfl
        all_goals have c3 := V7.cell (j := 3) rfl
        all_goals have c4 := V7.cell (j := 4) rfl
        all_goals have c5 := V7.cell (j := 5) rfl
        all_goals have c6 := V7.cell (j := 6) rfl
        all_goals have f0 := V7.frozen 0
        all_goals have f1 := V7.frozen 1
        all_goals have f2 := V7.frozen 2
        all_goals have f3 := V7.frozen 3
        all_goals have f4 := V7.frozen 4
        all_goals have f5 := V7.frozen 5
        all_goals have f6 := V7.frozen 6
        all_goals have cs0 := S7.cell (j := 0) rfl
        all_goals have cs1 := S7.cell (j := 1) rfl
        all_goals have cs2 := S7.cell (j := 2) rfl
        all_goals have cs3 := S7.cell (j := 3) rfl
        all_goals have cs4 := S7.cell (j := 4) rfl
        all_goals have cs5 := S7.cell (j := 5) rfl
        all_goals have cs6 := S7.cell (j := 6) rfl
        all_goals have HV7 : Hid (Row _ _ _ _) := V7
        all_goals clear V7 S7
        all_goals cases hok : Sup.ok (Sup.ofNums [n0, n1, n2, n3, n4, n5, n6])
        all_goals first
          | (have e1 : Sup.checkE (Sup.ofNums [n0, n1, n2, n3, n4, n5, n6]) = 4 := by unfold Sup.checkE; rw [hok]; rfl
             have HD2 : Hid (Sup.decodeE l = 4 ∧ Sup.decodeS l = Sup.zero) := by
               have h := HD.out
               rw [hok, e1, if_neg (by decide)] at h
               exact h
             rw [e1]
             clear HD e1 hok
             go_wp2
             exact sup_ret HV7.out HB7.out (Nat.le_refl _) _ _ _ _ _ _ _ _ rfl rfl rfl Try.underlying23 rfl (by kernel_rfl) (fun w' _ b' => ⟨by rw [HD2.out.1, HD2.out.2]; rfl, b'⟩))
          | (have e1 : Sup.checkE (Sup.ofNums [n0, n1, n2, n3, n4, n5, n6]) = 0 := by unfold Sup.checkE; rw [hok]; rfl
             have HD2 : Hid (Sup.decodeE l = 0 ∧ Sup.decodeS l = Sup.ofNums [n0, n1, n2, n3, n4, n5, n6]) := by
               have h := HD.out
               rw [hok, e1, if_pos rfl] at h
               exact h
             rw [e1]
             clear HD e1 hok
             go_wp2
             exact sup_ret HV7.out HB7.out (Nat.le_refl _) _ _ _ _ _ _ _ _ rfl rfl rfl Try.underlying23 rfl (by kernel_rfl) (fun w' _ b' => ⟨by rw [HD2.out.1, HD2.out.2]; rfl, b'⟩))

theorem refDecode_u (w : World) (a : Option Addr) (n cap : Nat) (l : List UInt8) (hn : n ≤ 140737488351232) (hcap : n ≤ cap) (hB : IsB w a n l) :
    Calls Try.prog 13 #[.slice a n cap] w fun e w' => e = .returned (.tuple #[.agg (cells7 (Sup.decodeS l)).toArray, .int .i64 (Sup.decodeE l)]) ∧ Below w.heap.size w w' := by
  have hl := hB.1
  by_cases h : n = 64
  · subst h
    by_cases hE : Crc.openE l = 0
    · exact refDecode_in w a cap l hcap hB hE
    · rw [(Sup.decode_refused hl hE).1, (Sup.decode_refused hl hE).2]
      exact refDecode_open w a cap l hcap hB hE
  · rw [(Sup.decode_length (b := l) (by omega)).1, (Sup.decode_length (b := l) (by omega)).2]
    exact refDecode_short w a n cap hn h

end Go.Proofs.Ytdgnkpmjjapmpaa
