/-
  The contract of the document's own Put. Conditions: those that each contract names.
-/
import Derived.Test.YtlpmfbinemmikaaREN
import Derived.Deep.RegionHeldLaw
namespace Go.Proofs.Ytlpmfbinemmikaa
open Go.RowKit
set_option linter.unusedVariables false

/-- A list of one extent, new. -/
theorem OwnE.lit (e : TypeId) (w : World) (base : Nat) (hb : base ≤ w.heap.size) (x : Ext) (hx : In3 x) :
    OwnE e (w.alloc (.cells #[.int .i64 x.1, .int .i64 x.2.1, .int .i64 x.2.2] e)) base (.slice (some ⟨w.heap.size, 0, none⟩) 1 1) [x] :=
  ⟨⟨rfl, .inr ⟨w.heap.size, 1, _, rfl, hb, heap_alloc_new w _, Nat.le_refl 1, by decide, rfl, rfl⟩⟩, fun y hy => by rw [List.mem_singleton.1 hy]; exact hx⟩

theorem row_alloc {w : World} {g : Nat} {t : TypeId} {xs : List Value} (h : Row w g t xs) (o : Obj) : Row (w.alloc o) g t xs := h.below ((Below.refl _ _).alloc (Nat.le_refl _) _)
theorem below_alloc {w w1 : World} (h : Below w.heap.size w w1) (o : Obj) : Below w.heap.size w (w1.alloc o) := h.alloc h.size o
theorem Row.trio {w : World} {g : Nat} {t : TypeId} {a b c : Value} (h : Row w g t [a, b, c]) : w.cell? ⟨g, 0, none⟩ = some a ∧ w.cell? ⟨g, 1, none⟩ = some b ∧ w.cell? ⟨g, 2, none⟩ = some c := ⟨h.cell (j := 0) rfl, h.cell (j := 1) rfl, h.cell (j := 2) rfl⟩

set_option maxHeartbeats 4000000 in
theorem refPut_ok (w : World) (P : Nat → Prop) (a : Option Addr) (n c : Nat) (l : List Ext) (hL : rExts.rd w P [.slice a n c] l) (hO : Ex.Ok l) (x : Ext) (hx : Ex.One x) :
    Calls Try.prog 17 #[.slice a n c, .agg #[.int .i64 x.1, .int .i64 x.2.1, .int .i64 x.2.2]] w fun e w' => ∃ b, e = .returned (.tuple #[b, .int .i64 (Ex.putE l x)]) ∧ OwnE 24 w' w.heap.size b (Ex.putL l x) ∧ Below w.heap.size w w' := by
  have HOk : Hid (Ex.Ok l) := hO
  have HP : Hid (Ex.Pieces (Ex.ins x (Ex.without l x.1 x.2.2))) := Ex.put_pieces hO hx
  have HC : Hid _ := Ex.checkE_ok hO
  have HFt : Hid (Ex.Fits x.1 x.2.2) := hx.2.1
  have HF1 : Hid (decide (Ex.Fits x.1 x.2.2) = true) := decide_eq_true hx.2.1
  have HF2 : Hid (decide (Ex.Fits x.2.1 x.2.2) = true) := decide_eq_true hx.2.2
  have HWL : Hid ((Ex.without l x.1 x.2.2).length ≤ 5864062014634) := by
    have h1 := Ex.without_len l x.1 x.2.2
    have h2 := hO.1
    unfold Hid
    omega
  obtain ⟨m, hm⟩ : ∃ m, m = (Ex.put l x).length := ⟨_, rfl⟩
  have hmc : m ≤ 100000 := by rw [hm]; exact HP.out.count
  have HM : Hid _ := hm
  have HE : Hid (Ex.putE l x = if m ≤ 1024 then 0 else 51) := by unfold Hid Ex.putE; rw [if_pos hO, if_pos hx, hm]
  have HX3 : Hid (In3 x) := by
    have h := hx
    unfold Ex.One Ex.Fits at h
    unfold Hid In3 In64
    omega
  obtain ⟨w0, hw0, V0, b0, -⟩ := boxedRow w 24 [.int .i64 x.1, .int .i64 x.2.1, .int .i64 x.2.2]
  have HR : Hid _ := Rep.below hL b0
  have HV0 : Hid (Row w0 w.heap.size 24 [.int .i64 x.1, .int .i64 x.2.1, .int .i64 x.2.2]) := V0
  have B0 : Hid (Below w.heap.size w w0) := b0
  have f0 : 1 ≤ x.2.2 := hx.1
  clear hL hO hx hm V0 b0
  go_enter Try.func17, Try.ntmps17
  go_wp2_with fail
  refine (refCheck5_u _ _ _ _ _ l HR.out).mono ?_
  rintro e w1 ⟨rfl, b1⟩
  rw [HC.out]
  have V1 : Hid (Row w1 w.heap.size 24 [.int .i64 x.1, .int .i64 x.2.1, .int .i64 x.2.2]) := HV0.out.below b1
  have R1 : Hid (rExts.rd w1 P [.slice a n c] l) := Rep.below HR.out b1
  have B1 : Hid (Below w.heap.size w w1) := on B0.out b1
  obtain ⟨s0, s1, s2⟩ := V1.out.trio
  clear hw0 b1
  go_wp2_with fail
  refine (refFits_u _ _ _ _ HF1.out).mono ?_
  rintro e w9 ⟨rfl, rfl⟩
  go_wp2_with fail
  refine (refFits_u _ _ _ _ HF2.out).mono ?_
  rintro e w9 ⟨rfl, rfl⟩
  go_wp2_with fail
  have VD : Hid (Row w1.drew w.heap.size 24 [.int .i64 x.1, .int .i64 x.2.1, .int .i64 x.2.2]) := V1.out.keep rfl
  have RD : Hid (rExts.rd w1.drew P [.slice a n c] l) := Rep.below R1.out (Below.refl _ _).drew
  have BD : Hid (Below w.heap.size w w1.drew) := B1.out.drew
  have S0 := VD.out.trio
  clear V1 R1 B1
  go_region_held_law (fun w' : World => w'.cell? ⟨w.heap.size, 0, none⟩ = some (.int .i64 x.1) ∧ w'.cell? ⟨w.heap.size, 1, none⟩ = some (.int .i64 x.2.1) ∧ w'.cell? ⟨w.heap.size, 2, none⟩ = some (.int .i64 x.2.2))
    (first | exact S0 | exact S1 | exact S2 | exact (row_alloc VD.out _).trio | exact (row_alloc V2.out _).trio)
    (first
    | (go_simp; go_at_call 39; refine (refWithout_u _ P _ _ _ l (by first | exact RD.out | exact Rep.below RD.out ((Below.refl _ _).alloc (Nat.le_refl _) _)) HOk.out x.1 x.2.2 HFt.out).mono ?_; rintro ey w2 ⟨v2, rfl, ho2, bw2⟩; obtain ⟨a3, c3, rfl, -, -⟩ := ho2.slice
       have HW2 : Hid (OwnE 24 w2 w.heap.size (.slice a3 (Ex.without l x.1 x.2.2).length c3) (Ex.without l x.1 x.2.2)) := (by first | exact ho2.mono BD.out.size | exact ho2.mono (below_alloc BD.out _).size)
       have BW2 : Hid (Below w.heap.size w w2) := (by first | exact on BD.out bw2 | exact on (below_alloc BD.out _) bw2)
       have V2 : Hid (Row w2 w.heap.size 24 [.int .i64 x.1, .int .i64 x.2.1, .int .i64 x.2.2]) := (by first | exact Row.below VD.out bw2 | exact Row.below (row_alloc VD.out _) bw2)
       try have HX2 : Hid (OwnE 24 w2 w.heap.size (.slice (some ⟨w1.drew.heap.size, 0, none⟩) 1 1) [x]) := (OwnE.lit 24 w1.drew w.heap.size BD.out.size x HX3.out).below bw2
       have S1 := V2.out.trio; clear ho2 bw2; go_simp)
    | (go_simp; go_at_call 42
       refine (refMerged_u _ (fun b => w.heap.size ≤ b) (fun b => w.heap.size ≤ b) _ _ _ (Ex.without l x.1 x.2.2) (by first | exact HW2.out.rd HWL.out | exact (HW2.out.below ((Below.refl _ _).alloc (Nat.le_refl _) _)).rd HWL.out) _ _ x (by first | exact HX2.out.rd (show (1 : Nat) ≤ 5864062014634 by decide) | exact (OwnE.lit 24 w2 w.heap.size BW2.out.size x HX3.out).rd (show (1 : Nat) ≤ 5864062014634 by decide)) HP.out).mono ?_
       rintro ez w3 ⟨v3, rfl, ho3, bw3⟩
       have BW3 : Hid (Below w.heap.size w w3) := (by first | exact on BW2.out bw3 | exact on (below_alloc BW2.out _) bw3)
       have HW3 : Hid (OwnE 24 w3 w.heap.size v3 (Ex.addAll [] (Ex.ins x (Ex.without l x.1 x.2.2)))) := (by first | exact ho3.mono BW2.out.size | exact ho3.mono (below_alloc BW2.out _).size)
       have S2 := (by first | exact (Row.below V2.out bw3).trio | exact (Row.below (row_alloc V2.out _) bw3).trio)
       clear ho3 bw3; go_simp))
  all_goals clear S0 S1 S2 VD V2 s0 s1 s2
  all_goals have HT : Hid (Ex.addAll [] (Ex.ins x (Ex.without l x.1 x.2.2)) = Ex.put l x) := rfl
  all_goals rw [HT.out] at HW3
  all_goals obtain ⟨a4, c4, hv4, -, -⟩ := HW3.out.slice
  all_goals rw [← HM.out] at hv4
  all_goals subst hv4
  all_goals by_cases hle : m ≤ 1024
  all_goals first | rw [if_pos hle] at HE | rw [if_neg hle] at HE
  all_goals go_wp2
  all_goals go_ret2
  all_goals first
    | exact ⟨_, by rw [HE.out]; rfl, by rw [show Ex.putL l x = Ex.put l x from if_pos HE.out]; exact HW3.out, BW3.out⟩
    | exact ⟨_, by rw [HE.out]; rfl, by rw [show Ex.putL l x = [] from if_neg (by rw [HE.out]; decide)]; exact OwnE.nil _ _ _, BW3.out⟩

theorem refPut_u (w : World) (P : Nat → Prop) (a : Option Addr) (n c : Nat) (l : List Ext) (hL : rExts.rd w P [.slice a n c] l) (x : Ext) :
    Calls Try.prog 17 #[.slice a n c, .agg #[.int .i64 x.1, .int .i64 x.2.1, .int .i64 x.2.2]] w fun e w' => ∃ b, e = .returned (.tuple #[b, .int .i64 (Ex.putE l x)]) ∧ OwnE 24 w' w.heap.size b (Ex.putL l x) ∧ Below w.heap.size w w' := by
  by_cases hO : Ex.Ok l
  · by_cases hs : Ex.One x
    · exact refPut_ok w P a n c l hL hO x hs
    · have e1 : Ex.putE l x = 4 := by unfold Ex.putE; rw [if_pos hO, if_neg hs]
      have e2 : Ex.putL l x = [] := if_neg (by rw [e1]; decide)
      rw [e1, e2]
      have HC : Hid _ := Ex.checkE_ok hO
      obtain ⟨w0, hw0, V0, b0, -⟩ := boxedRow w 24 [.int .i64 x.1, .int .i64 x.2.1, .int .i64 x.2.2]
      have HR : Hid _ := Rep.below hL b0
      have HV0 : Hid (Row w0 w.heap.size 24 [.int .i64 x.1, .int .i64 x.2.1, .int .i64 x.2.2]) := V0
      have B0 : Hid (Below w.heap.size w w0) := b0
      have HS : Hid (¬ Ex.One x) := hs
      clear hL hO hs e1 e2 V0 b0
      go_enter Try.func17, Try.ntmps17
      go_wp2_with fail
      refine (refCheck5_u _ _ _ _ _ l HR.out).mono ?_
      rintro e w1 ⟨rfl, b1⟩
      rw [HC.out]
      obtain ⟨s0, s1, s2⟩ := (HV0.out.below b1).trio
      clear hw0
      by_cases h1 : x.2.2 < 1
      · go_wp2
        go_ret2
        exact ⟨_, rfl, OwnE.nil _ _ _, on B0.out b1⟩
      · by_cases h2 : Ex.Fits x.1 x.2.2
        · have HF1 : Hid (decide (Ex.Fits x.1 x.2.2) = true) := decide_eq_true h2
          have HF2 : Hid (decide (Ex.Fits x.2.1 x.2.2) = false) := decide_eq_false (fun h => HS.out ⟨by omega, h2, h⟩)
          clear h2
          go_wp2_with fail
          refine (refFits_u _ _ _ _ HF1.out).mono ?_
          rintro e w9 ⟨rfl, rfl⟩
          go_wp2_with fail
          refine (refFits_u _ _ _ _ HF2.out).mono ?_
          rintro e w9 ⟨rfl, rfl⟩
          go_wp2
          go_ret2
          exact ⟨_, rfl, OwnE.nil _ _ _, on B0.out b1⟩
        · have HF1 : Hid (decide (Ex.Fits x.1 x.2.2) = false) := decide_eq_false h2
          clear h2
          go_wp2_with fail
          refine (refFits_u _ _ _ _ HF1.out).mono ?_
          rintro e w9 ⟨rfl, rfl⟩
          go_wp2
          go_ret2
          exact ⟨_, rfl, OwnE.nil _ _ _, on B0.out b1⟩
  · have e1 : Ex.putE l x = 9 := by unfold Ex.putE; rw [if_neg hO]
    have e2 : Ex.putL l x = [] := if_neg (by rw [e1]; decide)
    rw [e1, e2]
    have HC : Hid _ := Ex.checkE_no hO
    obtain ⟨w0, hw0, V0, b0, -⟩ := boxedRow w 24 [.int .i64 x.1, .int .i64 x.2.1, .int .i64 x.2.2]
    have HR : Hid _ := Rep.below hL b0
    have B0 : Hid (Below w.heap.size w w0) := b0
    clear hL hO e1 e2 V0 b0
    go_enter Try.func17, Try.ntmps17
    go_wp2_with fail
    refine (refCheck5_u _ _ _ _ _ l HR.out).mono ?_
    rintro e w1 ⟨rfl, b1⟩
    rw [HC.out]
    go_wp2
    go_ret2
    exact ⟨_, rfl, OwnE.nil _ _ _, on B0.out b1⟩

end Go.Proofs.Ytlpmfbinemmikaa
