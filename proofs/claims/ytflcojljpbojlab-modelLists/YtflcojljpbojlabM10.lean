/-
  Facts that the proof rests on, part 11. Conditions: those that each of them names.
-/
import Derived.Deep.DeepCutAuto
import Derived.Deep.RegionWith
import Derived.Test.YtflcojljpbojlabM03
import Derived.Test.YtflcojljpbojlabM06
import Derived.Test.YtflcojljpbojlabM09
namespace Go.Proofs.Ytflcojljpbojlab
open Go.RowKit
set_option linter.unusedVariables false
theorem Owns.elem {α β : Type} {A : Rep α} {C : Rep β} {e : TypeId} {base : Nat} {wr w5 : World} {v : Value} {l : List α} (O : Owns A e wr base v l) (hb : base ≤ wr.heap.size) {cs : List Value} {x : β} {P : Nat → Prop} (h : C.rd w5 P cs x) (hP : ∀ b, P b → wr.heap.size ≤ b) (o : Obj) :
    C.rd (w5.alloc o) (fun b => base ≤ b ∧ v.ownBlock ≠ some b) cs x :=
  C.weaken (Rep.below h ((Below.refl _ _).alloc (Nat.le_refl _) _)) (fun b hb _ => ⟨by have := hP b hb; omega, fun e => by have := O.row b e; have := hP b hb; omega⟩)
end Go.Proofs.Ytflcojljpbojlab
namespace Go.Proofs.Ytflcojljpbojlab
open Go.RowKit
set_option linter.unusedVariables false
set_option maxRecDepth 20000 in
set_option maxHeartbeats 2000000 in
theorem named_u (w : World) (P : Nat → Prop) (a : Option Addr) (n c : Nat) (l : List Snp) (h : rSnps.rd w P [.slice a n c] l) (hn9 : n ≤ 1000000) :
    Calls Try.prog 13 #[.slice a n c] w fun e w' => ∃ b d, e = .returned (.slice b n d) ∧ rNmds.rd w' (fun k => w.heap.size ≤ k) [.slice b n d] (Mo.named l) ∧ Below w.heap.size w w' := by
  have HN : Hid (l.length = n) := (rL_len h).1
  have HR : Hid _ := h
  clear h
  go_enter Try.func13, Try.ntmps13
  go_wp2
  go_loopw [3, 8] (fun o i wr => ∃ k : Nat, k ≤ n ∧ i = .int .i64 k ∧ Hid (Owns rNmd 42 wr w.heap.size o (Mo.named (l.take k))) ∧ Below w.heap.size w wr) (fun _ i _ => n - (intOf i).toNat)
  case atStart => exact ⟨0, Nat.zero_le _, rfl, Owns.nil _ _ _ _, Below.refl _ _⟩
  case round =>
    obtain ⟨k, hk, rfl, HO, bel⟩ := hrel
    have B : Hid (Below w.heap.size w wr) := bel
    by_cases hlt : k < n
    · have hkl : k < l.length := by rw [HN.out]; exact hlt
      obtain ⟨g, off, rfl, -, -, hat⟩ := rSnps_at (Rep.below HR.out bel) (by omega)
      obtain ⟨x, m, d, -, -, c0, c1, c2, hi, hs⟩ := hat k hkl
      have HTk : Hid (Mo.named (l.take (k + 1)) = Mo.named (l.take k) ++ [(l[k].1, l[k].2.1)]) := by unfold Hid Mo.named; rw [List.take_succ_eq_append_getElem hkl, List.map_append]; rfl
      have hlen : (Mo.named (l.take k)).length = k := by unfold Mo.named; rw [List.length_map, List.length_take]; omega
      have hkz : (k : Int) < (n : Int) := by omega
      generalize l[k].1 = id at *
      generalize l[k].2.1 = nm at *
      obtain ⟨w4, hw4, V4, b4, z4⟩ := boxedRow wr 56 [.int .i64 id, .string nm, .slice x m d]
      obtain ⟨w5, hw5, V5, b5, z5⟩ := boxedRow w4 42 [.int .i64 id, .string nm]
      have d0 := V4.cell (j := 0) rfl
      have d1 := V4.cell (j := 1) rfl
      have hs5 : w.heap.size ≤ w5.heap.size := Nat.le_trans (Nat.le_trans bel.size b4.size) b5.size
      obtain ⟨v6, w6, hr6, ho6, g6, b6, d6, hv6⟩ := run_append_rep (ty := 32) elem_nmd ((HO.out.below b4).below b5) (ad := ⟨w4.heap.size, 0, none⟩) (c := [.int .i64 id, .string nm]) (x := (id, nm)) (fun j u hj => by rw [Addr.add_lit, Nat.zero_add]; exact V5.cell hj) ⟨[.int .i64 id], [.string nm], rfl, ⟨rfl, hi⟩, rfl, hs⟩ (by rw [hlen]; show _ * 24 ≤ _; omega) (by rw [hlen]; unfold maxLen; omega) hs5
      have HR6 : Hid _ := hr6
      have HO6 : Hid (Owns rNmd 42 w6 w.heap.size v6 (Mo.named (l.take (k + 1)))) := by unfold Hid; rw [HTk.out]; exact ho6
      have B6 : Hid (Below w.heap.size w w6) := (on (on bel b4) b5).grown g6 hs5 (fun j hj => (HO.out.row j hj).1)
      clear hr6 ho6 g6 hv6 hs5 V4 V5 z4 z5 b4 b5 hat hi hs bel hlen
      go_wp2_with (at_builtin; refine Lib.wpList_append_run _ rfl _ _ _ _ rfl _ _ rfl rfl _ _ HR6.out ?_)
      go_roundw
      case rel => exact ⟨k + 1, by omega, by go_num, HO6, B6.out⟩
      case measure => simp [intOf]; omega
    · obtain rfl : n = k := by omega
      have hlen : (Mo.named (l.take n)).length = n := by unfold Mo.named; rw [List.length_map, List.length_take, HN.out, Nat.min_self]
      obtain ⟨a9, c9, hv9, hr9⟩ := Owns.rd (hs := by decide) HO.out (by rw [hlen]; show _ * 24 ≤ _; omega)
      rw [hlen] at hv9 hr9
      rw [List.take_of_length_le (by rw [HN.out]; exact Nat.le_refl _)] at hr9
      subst hv9
      have HR9 : Hid _ := hr9
      clear hr9 HO hlen bel
      go_wp2
      go_ret
      exact ⟨a9, c9, rfl, HR9.out, B.out⟩
end Go.Proofs.Ytflcojljpbojlab
namespace Go.Proofs.Ytflcojljpbojlab
open Go.RowKit
set_option linter.unusedVariables false
theorem rSectors_none (w : World) (P : Nat → Prop) : rSectors.rd w P [.slice none 0 0] [] := ⟨none, 0, 0, rfl, rfl, Nat.le_refl _, (fun _ => rfl), by decide, fun x hx => by cases hx⟩
theorem rSnps_none (w : World) (P : Nat → Prop) : rSnps.rd w P [.slice none 0 0] [] := ⟨none, 0, 0, rfl, rfl, Nat.le_refl _, (fun _ => rfl), by decide, fun x hx => by cases hx⟩
theorem rSectors_zeros {w : World} {P : Nat → Prop} {g n : Nat} (hg : P g) (V : Row w g 31 (List.replicate n (.slice none 0 0))) (hn : n * 24 ≤ 140737488351232) : rSectors.rd w P [.slice (some ⟨g, 0, none⟩) n n] (List.replicate n []) := by
  refine ⟨_, n, n, rfl, by rw [List.length_replicate], Nat.le_refl _, (fun h => by cases h), hn, fun x hx j hj => ?_⟩
  simp only [Option.some.injEq] at hx
  subst hx
  rw [List.length_replicate] at hj
  refine ⟨hg, [.slice none 0 0], by rw [List.getElem_replicate]; exact rBytes_none _ _ _ _ (fun _ => rfl), fun k v hv => ?_⟩
  match k, hv with
  | 0, hv =>
    simp at hv
    subst hv
    rw [Addr.add_lit, Nat.zero_add, Nat.add_zero, show j * rBytes.size = j from by show j * 1 = j; omega]
    exact V.cell (by rw [List.getElem?_replicate, if_pos hj])
set_option maxRecDepth 20000 in
set_option maxHeartbeats 2000000 in
theorem new_u (w : World) (n : Int) (h1 : I64 n) :
    Calls Try.prog 8 #[.int .i64 n] w fun e w' => ∃ cs : List Value, e = .returned (.tuple #[.agg cs.toArray, .int .i64 (Mo.newE n)]) ∧ rSta.rd w' (fun b => w.heap.size ≤ b) cs (Mo.newS n) ∧ Below w.heap.size w w' := by
  obtain ⟨w0, hw0, V0, b0, z0⟩ := boxedRow w 29 [.slice none 0 0, .slice none 0 0, .int .i64 0]
  have q0 := V0.cell (j := 0) rfl
  have q1 := V0.cell (j := 1) rfl
  have q2 := V0.cell (j := 2) rfl
  have f0 := V0.frozen 0
  have f1 := V0.frozen 1
  have f2 := V0.frozen 2
  have HV0 : Hid _ := V0
  have B0 : Hid (Below w.heap.size w w0) := b0
  have HZ : Hid (w0.heap.size = w.heap.size + 1) := z0
  obtain ⟨n1, n2⟩ := h1
  clear V0 b0 z0
  by_cases hn : 0 ≤ n ∧ n ≤ 65536
  · have HE : Hid (Mo.newE n = 0) := if_pos hn
    have HSt : Hid (Mo.newS n = (List.replicate n.toNat [], [], 1)) := if_pos hn
    have HS : Hid (decide (0 ≤ n ∧ n ≤ 65536) = true) := decide_eq_true hn
    obtain ⟨k, rfl⟩ : ∃ k : Nat, n = (k : Int) := ⟨n.toNat, by omega⟩
    have hk : k ≤ 65536 := by omega
    have HTn : Hid (((k : Int)).toNat = k) := Int.toNat_natCast k
    have hge : ¬ (k : Int) < 0 := by omega
    have hle : ¬ (65536 : Int) < (k : Int) := by omega
    clear hn n1 n2
    go_enter Try.func8, Try.ntmps8
    go_wp2_with first
      | (go_at_call 16; refine (isSize_u _ _ true HS.out).mono ?_; rintro e w9 ⟨rfl, rfl⟩)
      | (at_make; refine make_row _ rfl _ _ 22 rfl 31 (.slice none 0 0) 24 Try.underlying22 info_bytes rfl k _ rfl rfl rfl (by omega) (by omega) ?_; intro w1 HR1 b1 z1; have V1 := HV0.out.below b1; have p0 := V1.cell (j := 0) rfl; have p1 := V1.cell (j := 1) rfl; have p2 := V1.cell (j := 2) rfl; have g0 := V1.frozen 0; have g1 := V1.frozen 1; have g2 := V1.frozen 2)
    have V3 := ((V1.set 0 (.slice (some ⟨w0.heap.size, 0, none⟩) k k)).set 1 (.slice none 0 0)).set 2 (.int .i64 1)
    refine bodyPost_ret (results_rowt rfl rfl V3 Try.underlying29 rfl (by kernel_rfl)) rfl ⟨_, by rw [HE.out]; rfl, ?_, ?_⟩
    · rw [HSt.out, HTn.out]
      refine ⟨[.slice (some ⟨w0.heap.size, 0, none⟩) k k], [.slice none 0 0, .int .i64 1], rfl, ?_, [.slice none 0 0], [.int .i64 1], rfl, rSnps_none _ _, rfl, by show -9223372036854775808 ≤ (1 : Int) ∧ (1 : Int) ≤ 9223372036854775807; decide⟩
      refine rSectors_zeros B0.out.size ?_ (by omega)
      have hz := HZ.out
      unfold Hid at hz
      exact ((HR1.out.keep (heap_setCell_other _ _ _ _ (by show w0.heap.size ≠ w.heap.size; omega))).keep (heap_setCell_other _ _ _ _ (by show w0.heap.size ≠ w.heap.size; omega))).keep (heap_setCell_other _ _ _ _ (by show w0.heap.size ≠ w.heap.size; omega))
    · exact (((on B0.out b1).setCell (p := ⟨w.heap.size, 0, none⟩) (Nat.le_refl _) _).setCell (p := ⟨w.heap.size, 1, none⟩) (Nat.le_refl _) _).setCell (p := ⟨w.heap.size, 2, none⟩) (Nat.le_refl _) _
  · have HE : Hid (Mo.newE n = 4) := if_neg hn
    have HSt : Hid (Mo.newS n = ([], [], 0)) := if_neg hn
    have HS : Hid (decide (0 ≤ n ∧ n ≤ 65536) = false) := decide_eq_false hn
    have V3 := ((HV0.out.set 0 (.slice none 0 0)).set 1 (.slice none 0 0)).set 2 (.int .i64 0)
    have HV3 : Hid _ := V3
    clear V3
    clear hn
    go_enter Try.func8, Try.ntmps8
    go_wp2_with (go_at_call 16; refine (isSize_u _ _ false HS.out).mono ?_; rintro e w9 ⟨rfl, rfl⟩)
    refine bodyPost_ret (results_rowt rfl rfl HV3.out Try.underlying29 rfl (by kernel_rfl)) rfl ⟨_, by rw [HE.out]; rfl, ?_, ?_⟩
    · rw [HSt.out]
      exact ⟨[.slice none 0 0], [.slice none 0 0, .int .i64 0], rfl, rSectors_none _ _, [.slice none 0 0], [.int .i64 0], rfl, rSnps_none _ _, rfl, by show -9223372036854775808 ≤ (0 : Int) ∧ (0 : Int) ≤ 9223372036854775807; decide⟩
    · exact ((B0.out.setCell (p := ⟨w.heap.size, 0, none⟩) (Nat.le_refl _) _).setCell (p := ⟨w.heap.size, 1, none⟩) (Nat.le_refl _) _).setCell (p := ⟨w.heap.size, 2, none⟩) (Nat.le_refl _) _
end Go.Proofs.Ytflcojljpbojlab
