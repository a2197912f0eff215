/-
  Facts that the proof rests on, part 17. Conditions: those that each of them names.
-/
import Derived.Deep.RegionWith
import Derived.Test.YtkbmadoaomoojaaGreatK05
import Derived.Test.YtkbmadoaomoojaaGreatK09
namespace Go.Proofs.YtkbmadoaomoojaaGreat
set_option maxRecDepth 20000
open Go.RowKit
set_option linter.unusedVariables false
structure Puts (gA gB gS : Nat) (w : World) (D : List UInt8) (p : Nat) : Prop where
 len : D.length = p
 spot : Row w gA 3 [.int .i64 (p : Int)]
 box : Row w gB 53 [.slice (some ⟨gS, 0, none⟩) 60 60]
 row : Row w gS 5 (cellsOf D ++ List.replicate (60 - p) (.int .u8 0))
theorem Puts.below {gA gB gS : Nat} {w w' : World} {D : List UInt8} {p : Nat} (h : Puts gA gB gS w D p) (k : Below w.heap.size w w') : Puts gA gB gS w' D p := ⟨h.len, h.spot.below k, h.box.below k, h.row.below k⟩
theorem Puts.isB {gA gB gS : Nat} {w : World} {D : List UInt8} {p : Nat} (h : Puts gA gB gS w D p) (hp : p ≤ 60) : IsB w (some ⟨gS, 0, none⟩) 60 (D ++ List.replicate (60 - p) 0) := by
 have hl := h.len
 refine ⟨by rw [List.length_append, List.length_replicate]; omega, fun (e : some _ = none) => (by cases e), fun x hx j hj => ?_⟩
 simp only [Option.some.injEq] at hx
 subst hx
 rw [Addr.add_lit, Nat.zero_add]
 refine h.row.cell ?_
 rw [show cellsOf D ++ List.replicate (60 - p) (.int .u8 0) = cellsOf (D ++ List.replicate (60 - p) 0) by rw [cellsOf_append]; simp [cellsOf]]
 simp only [cellsOf, List.getElem?_map, List.getElem?_eq_getElem hj, Option.map_some]
theorem splice_put {D X : List Value} {z : Value} {p s : Nat} (hD : D.length = p) (hX : X.length = s) (h : p + s ≤ 60) : splice (D ++ List.replicate (60 - p) z) p X = (D ++ X) ++ List.replicate (60 - (p + s)) z := by
 unfold splice
 subst hD hX
 rw [List.take_left, List.drop_append, List.drop_eq_nil_of_le (by omega), List.nil_append, List.drop_replicate]
 rw [show 60 - D.length - (D.length + X.length - D.length) = 60 - (D.length + X.length) by omega, List.append_assoc]
set_option maxHeartbeats 4000000 in
theorem put_c (w : World) (gA gB gS : Nat) (hab : gA ≠ gB) (has : gA ≠ gS) (hbs : gB ≠ gS) (D : List UInt8) (p : Nat) (h : Puts gA gB gS w D p) (N s : Nat) (M S : Int) (hM : M = (N : Int)) (hS : S = (s : Int)) (h1 : 1 ≤ s) (h2 : s ≤ 8) (hN : N < 256 ^ s) (hf : p + s ≤ 60) :
 Calls Tryz.prog 126 #[.int .u64 M, .int .i64 S, .pointer (some ⟨gA, 0, none⟩), .pointer (some ⟨gB, 0, none⟩)] w fun e w' => e = .returned (.tuple #[]) ∧ Puts gA gB gS w' (D ++ Oct.octs N s) (p + s) ∧ Kept (fun b => b < w.heap.size ∧ b ≠ gA ∧ b ≠ gS) w w' := by
 subst hM
 subst hS
 have HP : Hid _ := h
 have HN : Hid _ := hN
 clear h hN
 go_enter Tryz.func126, Tryz.ntmps126
 go_wp2_with fail
 refine (put_ok N s _ _ rfl rfl w h1 h2 HN.out).mono ?_
 rintro e w1 ⟨rfl, ho, b1⟩
 obtain ⟨hB, -, -⟩ := owns_isB ho
 have HB : Hid (IsB w1 (some ⟨w.heap.size, 0, none⟩) s (Oct.octs N s)) := hB
 have HP1 : Hid _ := HP.out.below b1
 have B1 : Hid _ := b1
 have hgS : gS < w.heap.size := HP.out.row.lt
 have hgA : gA < w.heap.size := HP.out.spot.lt
 clear ho hB b1
 have hlen : (cellsOf (Oct.octs N s)).length = s := by rw [cellsOf_length, Oct.octs_length]
 obtain ⟨w2, hrun, HR2, k2, z2⟩ := copy_run (Pr := Tryz.prog) w1.drew 53 53 3 5 Tryz.underlying53 (by kernel_rfl) (some ⟨gS, p, none⟩) (some ⟨w.heap.size, 0, none⟩) (60 - p) (60 - p) s s gS p _ 5 (HP1.out.row.keep rfl) (cellsOf (Oct.octs N s)) (by rw [hlen]; exact (Nat.min_eq_left (by omega)).symm) (fun _ => ⟨rfl, _, rfl, isB_cells HB.out⟩) (by rw [hlen, List.length_append, cellsOf_length, HP1.out.len, List.length_replicate]; omega) (cellsOf_oneCell _)
 rw [hlen] at hrun
 have HR : Hid (Row w2 gS 5 (cellsOf (D ++ Oct.octs N s) ++ List.replicate (60 - (p + s)) (.int .u8 0))) := by
  rw [splice_put (by rw [cellsOf_length]; exact HP1.out.len) hlen hf] at HR2
  rw [cellsOf_append]; exact HR2
 have HA2 : Hid (Row w2 gA 3 [.int .i64 (p : Int)]) := HP1.out.spot.keep (k2.block gA has)
 have HB2 : Hid (Row w2 gB 53 [.slice (some ⟨gS, 0, none⟩) 60 60]) := HP1.out.box.keep (k2.block gB hbs)
 have HK2 : Hid (Kept (fun b => b < w.heap.size ∧ b ≠ gA ∧ b ≠ gS) w w2) := ⟨k2.os.trans B1.out.os, k2.tape.trans B1.out.tape, k2.output.trans B1.out.output, Nat.le_trans B1.out.size k2.size, fun b hb => (k2.block b hb.2.2).trans (B1.out.block b hb.1)⟩
 have q0 := HP1.out.spot.cell (j := 0) rfl
 have q1 := HP1.out.box.cell (j := 0) rfl
 have q2 := HA2.out.cell (j := 0) rfl
 have q3 := HA2.out.frozen 0
 have hp60 : (p : Int) < 60 := by omega
 have hpc : (p : Int) ≤ 60 := by omega
 clear HR2 k2 z2 HB
 go_wp2_with fail
 go_region_with (fail)
 all_goals rw [show IntKind.i64.wrap ((p : Int) + (s : Int)) = ((p + s : Nat) : Int) by rw [IntKind.wrap_i64]; omega]
 all_goals go_wp2
 all_goals go_end0
 all_goals exact ⟨rfl, ⟨by rw [List.length_append, Oct.octs_length, HP.out.len], HA2.out.set 0 _, HB2.out.keep (Below.heap_setCell _ _ _ _ (fun e => hab e.symm)), HR.out.keep (Below.heap_setCell _ _ _ _ (fun e => has e.symm))⟩, HK2.out.setCell (p := ⟨gA, 0, none⟩) (fun h => h.2.1 rfl) _⟩
end Go.Proofs.YtkbmadoaomoojaaGreat
