/-
  Facts that the proof rests on, part 11. Conditions: those that each of them names.
-/
import Derived.BigRegion
import Derived.Shelf.Abstract
import Derived.Test.YtinlgoljaiolnaaBK06
import Derived.Test.YtinlgoljaiolnaaBK07
import Derived.Test.YtinlgoljaiolnaaBK08
import Derived.Test.YtinlgoljaiolnaaBK09
namespace Go.Proofs.Ytinlgoljaiolnaa
open Go.RowKit
set_option linter.unusedVariables false
structure Turns (S S' : Nat → Prop) (w w' : World) : Prop where
  os : w'.os = w.os
  tape : w'.tape = w.tape
  output : w'.output = w.output
  size : w.heap.size ≤ w'.heap.size
  block : ∀ k, k < w.heap.size → ¬ S k → w'.heap[k]? = w.heap[k]?
  place : ∀ k, S' k → S k ∨ w.heap.size ≤ k
theorem Turns.of {S : Nat → Prop} {w w' : World} (h : Below w.heap.size w w') : Turns S S w w' := ⟨h.os, h.tape, h.output, h.size, fun k hk _ => h.block k hk, fun k hk => .inl hk⟩
theorem Turns.trans {S S1 S2 : Nat → Prop} {w w1 w2 : World} (h : Turns S S1 w w1) (k : Turns S1 S2 w1 w2) : Turns S S2 w w2 :=
  ⟨k.os.trans h.os, k.tape.trans h.tape, k.output.trans h.output, Nat.le_trans h.size k.size,
    fun i hi hn => (k.block i (Nat.lt_of_lt_of_le hi h.size) (fun h1 => (h.place i h1).elim hn (fun h2 => by omega))).trans (h.block i hi hn),
    fun i hi => (k.place i hi).elim (h.place i) (fun h2 => .inr (Nat.le_trans h.size h2))⟩
theorem Turns.below {S S' : Nat → Prop} {w w' : World} (h : Turns S S' w w') {N : Nat} (hN : N ≤ w.heap.size) (hS : ∀ k, S k → N ≤ k) : Below N w w' :=
  ⟨h.os, h.tape, h.output, h.size, fun k hk => h.block k (by omega) (fun hs => by have := hS k hs; omega)⟩
theorem Turns.low {S S' : Nat → Prop} {w w' : World} (h : Turns S S' w w') {N : Nat} (hN : N ≤ w.heap.size) (hS : ∀ k, S k → N ≤ k) : ∀ k, S' k → N ≤ k :=
  fun k hk => (h.place k hk).elim (hS k) (fun h1 => by omega)
theorem Turns.cell {S S' : Nat → Prop} {w w' : World} (h : Turns S S' w w') {p : Addr} (hp : p.block < w.heap.size) (hn : ¬ S p.block) : w'.cell? p = w.cell? p := by
  unfold World.cell?
  rw [h.block _ hp hn]
structure Layer (f : Nat) (bs : Array Value) (g : Ext → Ext) (J : List Ext → (Nat → Prop) → World → Prop) : Prop where
  enters : ∀ args w, (callFunc f args).run Try.prog w = .ok (.enter f args) w
  low : ∀ {ps : List Ext} {S : Nat → Prop} {w : World}, J ps S w → ∀ k, S k → k < w.heap.size
  keep : ∀ {ps : List Ext} {S : Nat → Prop} {w w' : World}, J ps S w → (∀ k, S k → w'.heap[k]? = w.heap[k]?) → J ps S w'
  call : ∀ {ps : List Ext} {S : Nat → Prop} {w : World} {x : Ext}, J ps S w → Ex.Bits (ps ++ [g x]) → Small x →
    Calls Try.prog f (#[.agg #[.int .i64 x.1, .int .i64 x.2.1, .int .i64 x.2.2]] ++ bs) w fun e w' => e = .returned (.tuple #[]) ∧ ∃ S', J (ps ++ [g x]) S' w' ∧ Turns S S' w w'
theorem Layer.below {f : Nat} {bs : Array Value} {g : Ext → Ext} {J : List Ext → (Nat → Prop) → World → Prop} (L : Layer f bs g J) {ps : List Ext} {S : Nat → Prop} {w w' : World} (h : J ps S w) (k : Below w.heap.size w w') : J ps S w' :=
  L.keep h (fun i hi => k.block i (L.low h i hi))
set_option maxHeartbeats 2000000 in
theorem layPiece_u {f : Nat} {bs : Array Value} {g : Ext → Ext} {J : List Ext → (Nat → Prop) → World → Prop} (L : Layer f bs g J) (w : World) (ps : List Ext) (S : Nat → Prop) (hJ : J ps S w) (x : Ext) (hx : Ex.One x) (a b : Int)
    (hB : Ex.Bits (ps ++ (Ex.part x a b).map g)) :
    Calls Try.prog 92 #[.agg #[.int .i64 x.1, .int .i64 x.2.1, .int .i64 x.2.2], .int .i64 a, .int .i64 b, .func (.func f) #[] bs] w fun e w' => e = .returned (.tuple #[]) ∧ ∃ S', J (ps ++ (Ex.part x a b).map g) S' w' ∧ Turns S S' w w' := by
  unfold Ex.One Ex.Fits at hx
  obtain ⟨q1, ⟨q2, q3, q4, q5⟩, q6, q7, q8, q9⟩ := hx
  obtain ⟨w0, hw0, V0, b0, z0⟩ := boxedRow w 80 [.int .i64 x.1, .int .i64 x.2.1, .int .i64 x.2.2]
  obtain ⟨d0, d1, d2⟩ := V0.three
  have B0 : Hid (Below w.heap.size w w0) := b0
  clear V0 z0 b0
  have HL : Hid _ := L
  have HJ : Hid (J ps S w) := hJ
  have eg := L.enters
  have hmx := max_fact 3
  have hmn := min_fact 3
  have HP : Hid (Ex.part x a b = if max a 0 < min b x.2.2 then [(x.1 + max a 0, x.2.1 + max a 0, min b x.2.2 - max a 0)] else []) := rfl
  have HB : Hid _ := hB
  have hM : ∃ lo, max a 0 = lo ∧ 0 ≤ lo := ⟨_, rfl, by omega⟩
  have hN : ∃ hi, min b x.2.2 = hi ∧ hi ≤ x.2.2 := ⟨_, rfl, by omega⟩
  obtain ⟨lo, hlo, lo0⟩ := hM
  obtain ⟨hi, hhi, hi0⟩ := hN
  rw [hlo, hhi] at HP
  clear hJ hB L
  by_cases hc : lo < hi
  · have HPE : Hid (Ex.part x a b = [(x.1 + lo, x.2.1 + lo, hi - lo)]) := by unfold Hid; rw [HP.out, if_pos hc]
    have HSm : Hid (Small (x.1 + lo, x.2.1 + lo, hi - lo)) := by unfold Hid Small; simp only; omega
    rw [HPE.out] at HB
    rw [HPE.out]
    have HC : Hid (∀ n, Calls Try.prog f (#[.agg #[.int .i64 (x.1 + lo), .int .i64 (x.2.1 + lo), .int .i64 (hi - lo)]] ++ bs) (w0.drewN n) fun e w' => e = .returned (.tuple #[]) ∧ ∃ S', J (ps ++ [g (x.1 + lo, x.2.1 + lo, hi - lo)]) S' w' ∧ Turns S S' (w0.drewN n) w') :=
      fun n => HL.out.call (x := (x.1 + lo, x.2.1 + lo, hi - lo)) (HL.out.below HJ.out (same_drewN B0.out n)) HB.out HSm.out
    clear HP HPE HSm HB
    go_enter Try.func92, Try.ntmps92
    go_wp2_with fail
    go_quiet (fail)
    go_wp2_with (go_at_fn f; refine (HC.out nq).mono ?_; rintro e w2 ⟨rfl, S2, hj2, ht2⟩)
    go_end0
    exact ⟨rfl, S2, hj2, (Turns.of (same_drewN B0.out nq)).trans ht2⟩
  · have HPE : Hid (Ex.part x a b = []) := by unfold Hid; rw [HP.out, if_neg hc]
    rw [HPE.out, List.map_nil, List.append_nil]
    clear HP HPE HB
    go_enter Try.func92, Try.ntmps92
    go_wp2_with fail
    go_quiet (fail)
    go_wp2
    go_end0
    exact ⟨rfl, S, HL.out.below HJ.out (same_drewN B0.out nq), Turns.of (same_drewN B0.out nq)⟩
end Go.Proofs.Ytinlgoljaiolnaa
namespace Go.Proofs.Ytinlgoljaiolnaa
open Go.RowKit
set_option linter.unusedVariables false
theorem OwnE.keep1 {e : TypeId} {w w' : World} {base : Nat} {v : Value} {l : List Ext} (h : OwnE e w base v l) (hk : ∀ b, v.ownBlock = some b → w'.heap[b]? = w.heap[b]?) : OwnE e w' base v l := by
  refine ⟨⟨h.row.1, ?_⟩, h.fit⟩
  rcases h.row.2 with h0 | ⟨g, cap, cur, rfl, g1, g2, g3⟩
  · exact .inl h0
  · exact .inr ⟨g, cap, cur, rfl, g1, by rw [hk g rfl]; exact g2, g3⟩
structure OutBox (B : Nat) (ps : List Ext) (S : Nat → Prop) (w : World) : Prop where
  ex : ∃ v, Row w B 70 [v] ∧ OwnE 80 w (B + 1) v (Ex.addAll [] ps) ∧ ∀ k, S k ↔ k = B ∨ v.ownBlock = some k
theorem OutBox.low {B : Nat} {ps : List Ext} {S : Nat → Prop} {w : World} (h : OutBox B ps S w) : ∀ k, S k → k < w.heap.size := by
  obtain ⟨v, V, O, hS⟩ := h.ex
  intro k hk
  rcases (hS k).1 hk with rfl | hk
  · exact V.lt
  · exact (O.row.lt k hk).2
theorem OutBox.keep {B : Nat} {ps : List Ext} {S : Nat → Prop} {w w' : World} (h : OutBox B ps S w) (hk : ∀ k, S k → w'.heap[k]? = w.heap[k]?) : OutBox B ps S w' := by
  obtain ⟨v, V, O, hS⟩ := h.ex
  exact ⟨v, V.keep (hk B ((hS B).2 (.inl rfl))), O.keep1 (fun b e => hk b ((hS b).2 (.inr e))), hS⟩
theorem outbox_append {B : Nat} {ps : List Ext} {x : Ext} {S : Nat → Prop} {w w0 w1 : World} {v v' : Value} {l : List Ext} (V : Row w B 70 [v]) (O : OwnE 80 w (B + 1) v l) (hS : ∀ k, S k ↔ k = B ∨ v.ownBlock = some k)
    (b0 : Below w.heap.size w w0) (O1 : OwnE 80 w1 (B + 1) v' (Ex.addAll [] (ps ++ [x]))) (g : Grew w0 w1 v v') :
    ∃ S', OutBox B (ps ++ [x]) S' (w1.setCell ⟨B, 0, none⟩ v') ∧ Turns S S' w (w1.setCell ⟨B, 0, none⟩ v') := by
  have hB : some B ≠ v.ownBlock := fun e => by have := (O.row.lt B e.symm).1; omega
  have V1 : Row w1 B 70 [v] := (V.below b0).keep (g.block B (V.below b0).lt hB)
  have V2 := V1.set 0 v'
  have hne : ∀ b, v'.ownBlock = some b → B ≠ b := fun b e => by have := (O1.row.lt b e).1; omega
  refine ⟨fun k => k = B ∨ v'.ownBlock = some k, ⟨v', V2, O1.keep1 (fun b e => Below.heap_setCell _ _ _ _ (fun h => hne b e h.symm)), fun k => Iff.rfl⟩, ?_⟩
  have gg := g.grown
  have hsz : (w1.setCell ⟨B, 0, none⟩ v').heap.size = w1.heap.size := by simp [World.setCell]
  refine ⟨gg.os.trans b0.os, gg.tape.trans b0.tape, gg.output.trans b0.output, by rw [hsz]; exact Nat.le_trans b0.size gg.size, fun k hk hn => ?_, fun k hk => ?_⟩
  · have h1 : k ≠ B := fun e => hn ((hS k).2 (.inl e))
    have h2 : some k ≠ v.ownBlock := fun e => hn ((hS k).2 (.inr e.symm))
    rw [Below.heap_setCell _ _ _ _ (fun h => h1 h), g.block k (Nat.lt_of_lt_of_le hk b0.size) h2, b0.block k hk]
  · rcases hk with rfl | hk
    · exact .inl ((hS _).2 (.inl rfl))
    · rcases g.place k hk with h | h
      · exact .inl ((hS _).2 (.inr h))
      · exact .inr (Nat.le_trans b0.size h)
theorem outbox_set {B : Nat} {ps : List Ext} {x : Ext} {S : Nat → Prop} {w w0 : World} {g c k : Nat} {u : Value} {l : List Ext} (V : Row w B 70 [.slice (some ⟨g, 0, none⟩) k c]) (O : OwnE 80 w (B + 1) (.slice (some ⟨g, 0, none⟩) k c) l) (hS : ∀ k', S k' ↔ k' = B ∨ (Value.slice (some ⟨g, 0, none⟩) k c).ownBlock = some k')
    (b0 : Below w.heap.size w w0) {i : Nat} (O1 : OwnE 80 (w0.setCell ⟨g, i, none⟩ u) (B + 1) (.slice (some ⟨g, 0, none⟩) k c) (Ex.addAll [] (ps ++ [x]))) :
    OutBox B (ps ++ [x]) S (w0.setCell ⟨g, i, none⟩ u) ∧ Turns S S w (w0.setCell ⟨g, i, none⟩ u) := by
  have hg : B + 1 ≤ g := (O.row.lt g rfl).1
  refine ⟨⟨_, (V.below b0).keep (Below.heap_setCell _ _ _ _ (fun h => by have h : B = g := h; omega)), O1, hS⟩, ?_⟩
  refine ⟨b0.os, b0.tape, b0.output, by rw [show (w0.setCell ⟨g, i, none⟩ u).heap.size = w0.heap.size by simp [World.setCell]]; exact b0.size, fun j hj hn => ?_, fun j hj => .inl hj⟩
  rw [Below.heap_setCell _ _ _ _ (fun h => hn ((hS j).2 (.inr (by have h : j = g := h; rw [h]; rfl)))), b0.block j hj]
theorem below_drew_pre0 {w w' : World} (h : Below w.drew.heap.size w.drew w') : Below w.heap.size w w' := ⟨h.os, h.tape, h.output, h.size, h.block⟩
theorem alloc_drew {w w0 : World} (h : Below w.heap.size w w0) (o : Obj) : Below w.heap.size w (w0.alloc o).drew := (h.alloc h.size o).drew
theorem below_alloc0 {w w0 : World} (h : Below w.heap.size w w0) (o : Obj) : Below w.heap.size w (w0.alloc o) := h.alloc h.size o
theorem outbox_row {B : Nat} {w w0 w1 : World} {v v' : Value} {l : List Ext} (V : Row w B 70 [v]) (O : OwnE 80 w (B + 1) v l) (b0 : Below w.heap.size w w0) (g : Grew w0 w1 v v') : Row w1 B 70 [v] :=
  (V.below b0).keep (g.block B (V.below b0).lt (fun e => by have := (O.row.lt B e.symm).1; omega))
set_option maxHeartbeats 4000000 in
theorem lay_first (w : World) (B : Nat) (ps : List Ext) (S : Nat → Prop) (x : Ext) (a : Option Addr) (c : Nat) (V : Row w B 70 [.slice a 0 c]) (O : OwnE 80 w (B + 1) (.slice a 0 c) []) (hps : Ex.addAll [] ps = []) (hS : ∀ k, S k ↔ k = B ∨ (Value.slice a 0 c).ownBlock = some k) (hx : Small x) (hx1 : ¬ x.2.2 < 1) :
    Calls Try.prog 89 (#[.agg #[.int .i64 x.1, .int .i64 x.2.1, .int .i64 x.2.2]] ++ #[.pointer (some ⟨B, 0, none⟩)]) w fun e w' => e = .returned (.tuple #[]) ∧ ∃ S', OutBox B (ps ++ [x]) S' w' ∧ Turns S S' w w' := by
  obtain ⟨w0, hw0, V0, b0, z0⟩ := boxedRow w 80 [.int .i64 x.1, .int .i64 x.2.1, .int .i64 x.2.2]
  obtain ⟨d0, d1, d2⟩ := V0.three
  have B0 : Hid (Below w.heap.size w w0) := b0
  have HV : Hid (Row w B 70 [.slice a 0 c]) := V
  have HO : Hid (OwnE 80 w (B + 1) (.slice a 0 c) []) := O
  have HO0 : Hid (OwnE 80 w0 (B + 1) (.slice a 0 c) []) := O.below b0
  have HA : Hid (Ex.addAll [] (ps ++ [x]) = [x]) := by unfold Hid; rw [Ex.addAll_append, hps]; exact Ex.add_first hx1
  have HX3 : Hid _ := hx.in3
  have HS : Hid _ := hS
  have hB0 : w0.cell? ⟨B, 0, none⟩ = some (.slice a 0 c) := (V.below b0).cell (j := 0) rfl
  have hBf : w0.frozen? ⟨B, 0, none⟩ = false := (V.below b0).frozen 0
  have HBL : Hid (B < w0.heap.size) := (V.below b0).lt
  have S0 : w0.drew.cell? ⟨B, 0, none⟩ = some (.slice a 0 c) ∧ w0.drew.cell? ⟨w.heap.size, 0, none⟩ = some (.int .i64 x.1) ∧ w0.drew.cell? ⟨w.heap.size, 1, none⟩ = some (.int .i64 x.2.1) ∧ w0.drew.cell? ⟨w.heap.size, 2, none⟩ = some (.int .i64 x.2.2) := ⟨hB0, d0, d1, d2⟩
  clear V O hS hps V0 b0 z0
  go_enter Try.func89, Try.ntmps89
  go_wp2_with fail
  refine wp_region_held_drew (S := (fun w' : World => w'.cell? ⟨B, 0, none⟩ = some (.slice a 0 c) ∧ w'.cell? ⟨w.heap.size, 0, none⟩ = some (.int .i64 x.1) ∧ w'.cell? ⟨w.heap.size, 1, none⟩ = some (.int .i64 x.2.1) ∧ w'.cell? ⟨w.heap.size, 2, none⟩ = some (.int .i64 x.2.2))) (by kernel_rfl) (S0) (fun hHeld => ?_)
  refine wpAnyH_takeL (i := 0) (v := ?_) rfl rfl (by kernel_rfl) (by kernel_rfl) (by kernel_rfl) (fun _ _ _ h => h) (Or.inl ⟨by rfl, ?_⟩) (by assumption) ?_
  rotate_left
  · intro w hSw
    try dsimp only at hSw
    go_simp
    all_goals with_reducible rfl
  simp only [List.set_cons_zero, List.set_cons_succ]
  refine wpAnyH_takeL (i := 1) (v := ?_) rfl rfl (by kernel_rfl) (by kernel_rfl) (by kernel_rfl) (fun _ _ _ h => h) (Or.inl ⟨by rfl, ?_⟩) (by assumption) ?_
  rotate_left
  · intro w hSw
    try dsimp only at hSw
    go_simp
    all_goals with_reducible rfl
  simp only [List.set_cons_zero, List.set_cons_succ]
  refine wpAnyH_takeL (i := 2) (v := ?_) rfl rfl (by kernel_rfl) (by kernel_rfl) (by kernel_rfl) (fun _ _ _ h => h) (Or.inl ⟨by rfl, ?_⟩) (by assumption) ?_
  rotate_left
  · intro w hSw
    try dsimp only at hSw
    go_simp
    all_goals with_reducible rfl
  simp only [List.set_cons_zero, List.set_cons_succ]
  refine wpAnyH_passL (i := 3) rfl rfl (by kernel_rfl) (by kernel_rfl) (by kernel_rfl) (by rfl) (fun _ _ _ h => h) (by assumption) ?_
  simp only [List.set_cons_zero, List.set_cons_succ]
  refine wpAnyH_passL (i := 4) rfl rfl (by kernel_rfl) (by kernel_rfl) (by kernel_rfl) (by rfl) (fun _ _ _ h => h) (by assumption) ?_
  simp only [List.set_cons_zero, List.set_cons_succ]
  refine wpAnyH_passL (i := 5) rfl rfl (by kernel_rfl) (by kernel_rfl) (by kernel_rfl) (by rfl) (fun _ _ _ h => h) (by assumption) ?_
  simp only [List.set_cons_zero, List.set_cons_succ]
  refine wpAnyH_passL (i := 6) rfl rfl (by kernel_rfl) (by kernel_rfl) (by kernel_rfl) (by rfl) (fun _ _ _ h => h) (by assumption) ?_
  simp only [List.set_cons_zero, List.set_cons_succ]
  refine wpAnyH_passL (i := 7) rfl rfl (by kernel_rfl) (by kernel_rfl) (by kernel_rfl) (by rfl) (fun _ _ _ h => h) (by assumption) ?_
  simp only [List.set_cons_zero, List.set_cons_succ]
  refine wpAnyH_passL (i := 8) rfl rfl (by kernel_rfl) (by kernel_rfl) (by kernel_rfl) (by rfl) (fun _ _ _ h => h) (by assumption) ?_
  simp only [List.set_cons_zero, List.set_cons_succ]
  refine wpAnyH_takeL (i := 9) (v := ?_) rfl rfl (by kernel_rfl) (by kernel_rfl) (by kernel_rfl) (fun _ _ _ h => h) (Or.inl ⟨by rfl, ?_⟩) (by assumption) ?_
  rotate_left
  · intro w hSw
    try dsimp only at hSw
    go_simp
    all_goals with_reducible rfl
  simp only [List.set_cons_zero, List.set_cons_succ]
  refine wpAnyH_done (by kernel_rfl) ?_ _
  clear S0 hHeld
  go_wp2_with (at_builtin; refine append_ext rfl _ _ rfl (B + 1) _ [] rfl ((HO0.out.drewN 1).below ((Below.refl _ _).alloc (Nat.le_refl _) _)) x ⟨w0.heap.size, 0, none⟩ rfl (ext_cells_new w0.drew x _) HX3.out (by simp) (Nat.le_trans HBL.out (by simp)) ?_; intro b6 d6 w6 ho6 bb6; have bb7 : Hid (Grew _ w6 (.slice a 0 c) (.slice b6 (0 + 1) d6)) := bb6; have HO6 : Hid (OwnE _ _ _ _ _) := ho6; clear bb6 ho6; have V6 : Hid (Row _ _ _ _) := outbox_row HV.out HO.out (alloc_drew B0.out _) bb7.out; have k6 := V6.out.cell (j := 0) rfl; have f6 := V6.out.frozen 0)
  go_end0
  exact ⟨rfl, outbox_append HV.out HO.out HS.out (alloc_drew B0.out _) (by rw [HA.out]; exact HO6.out) bb7.out⟩
theorem nine_kept {w w' : World} {B g k X : Nat} {T : TypeId} {s : Value} {y x : Ext} (hB : B < w.heap.size) (hg : g < w.heap.size) (h0 : w.cell? ⟨B, 0, none⟩ = some s)
    (h2 : w.cell? ⟨g, k * 3, none⟩ = some (.int .i64 y.1)) (h3 : w.cell? ⟨g, k * 3 + 1, none⟩ = some (.int .i64 y.2.1)) (h4 : w.cell? ⟨g, k * 3 + 2, none⟩ = some (.int .i64 y.2.2)) (V : Row w X T (ext3 x)) (q : Below w.heap.size w w') :
    w'.cell? ⟨B, 0, none⟩ = some s ∧ w'.cell? ⟨g, k * 3, none⟩ = some (.int .i64 y.1) ∧ w'.cell? ⟨g, k * 3 + 1, none⟩ = some (.int .i64 y.2.1) ∧ w'.cell? ⟨g, k * 3 + 2, none⟩ = some (.int .i64 y.2.2) ∧ w'.cell? ⟨X, 0, none⟩ = some (.int .i64 x.1) ∧ w'.cell? ⟨X, 1, none⟩ = some (.int .i64 x.2.1) ∧ w'.cell? ⟨X, 2, none⟩ = some (.int .i64 x.2.2) :=
  ⟨(q.cell (p := ⟨B, 0, none⟩) hB).trans h0, (q.cell (p := ⟨g, k * 3, none⟩) hg).trans h2, (q.cell (p := ⟨g, k * 3 + 1, none⟩) hg).trans h3, (q.cell (p := ⟨g, k * 3 + 2, none⟩) hg).trans h4, (V.below q).three.1, (V.below q).three.2.1, (V.below q).three.2.2⟩
set_option maxHeartbeats 1600000 in
theorem lay_next (w : World) (B : Nat) (ps : List Ext) (S : Nat → Prop) (x y : Ext) (m : List Ext) (g c : Nat) (V : Row w B 70 [.slice (some ⟨g, 0, none⟩) (m.length + 1) c]) (O : OwnE 80 w (B + 1) (.slice (some ⟨g, 0, none⟩) (m.length + 1) c) (m ++ [y]))
    (hps : Ex.addAll [] ps = m ++ [y]) (hS : ∀ k, S k ↔ k = B ∨ (Value.slice (some ⟨g, 0, none⟩) (m.length + 1) c).ownBlock = some k) (hx : Small x) (hx1 : ¬ x.2.2 < 1) (hy : Small y) (hx0 : 0 ≤ x.2.1) (hy0 : 0 ≤ y.2.1) (hl : m.length + 1 ≤ 1000000) :
    Calls Try.prog 89 (#[.agg #[.int .i64 x.1, .int .i64 x.2.1, .int .i64 x.2.2]] ++ #[.pointer (some ⟨B, 0, none⟩)]) w fun e w' => e = .returned (.tuple #[]) ∧ ∃ S', OutBox B (ps ++ [x]) S' w' ∧ Turns S S' w w' := by
  obtain ⟨w0, hw0, V0, b0, z0⟩ := boxedRow w 80 [.int .i64 x.1, .int .i64 x.2.1, .int .i64 x.2.2]
  obtain ⟨d0, d1, d2⟩ := V0.three
  have B0 : Hid (Below w.heap.size w w0) := b0
  have HV : Hid (Row w B 70 [.slice (some ⟨g, 0, none⟩) (m.length + 1) c]) := V
  have HO : Hid (OwnE 80 w (B + 1) (.slice (some ⟨g, 0, none⟩) (m.length + 1) c) (m ++ [y])) := O
  have HO0 : Hid (OwnE 80 w0 (B + 1) (.slice (some ⟨g, 0, none⟩) (m.length + 1) c) (m ++ [y])) := O.below b0
  have HX3 : Hid _ := hx.in3
  have HS : Hid _ := hS
  have HYS : Hid (Small y) := hy
  obtain ⟨g', eg, hgb, hgl, -, hat⟩ := HO0.out.at (by simp)
  simp only [Option.some.injEq, Addr.mk.injEq, and_true] at eg
  subst eg
  obtain ⟨hml, hmy⟩ := Ex.get_last m y
  obtain ⟨c0, c1, c2, hf⟩ := hat m.length hml
  rw [hmy] at c0 c1 c2
  have hB0 : w0.cell? ⟨B, 0, none⟩ = some (.slice (some ⟨g, 0, none⟩) (m.length + 1) c) := (V.below b0).cell (j := 0) rfl
  have HBL : Hid (B < w0.drew.heap.size) := (V.below b0).lt
  have HGL : Hid (g < w0.drew.heap.size) := hgl
  have HV0 : Hid (Row w0.drew w.heap.size 80 (ext3 x)) := V0.keep rfl
  have SK : Hid (∀ {w'}, Below w0.drew.heap.size w0.drew w' → w'.cell? ⟨B, 0, none⟩ = some (.slice (some ⟨g, 0, none⟩) (m.length + 1) c) ∧ w'.cell? ⟨g, m.length * 3, none⟩ = some (.int .i64 y.1) ∧ w'.cell? ⟨g, m.length * 3 + 1, none⟩ = some (.int .i64 y.2.1) ∧ w'.cell? ⟨g, m.length * 3 + 2, none⟩ = some (.int .i64 y.2.2) ∧ w'.cell? ⟨w.heap.size, 0, none⟩ = some (.int .i64 x.1) ∧ w'.cell? ⟨w.heap.size, 1, none⟩ = some (.int .i64 x.2.1) ∧ w'.cell? ⟨w.heap.size, 2, none⟩ = some (.int .i64 x.2.2)) :=
    fun q => nine_kept (w := w0.drew) HBL.out HGL.out hB0 c0 c1 c2 HV0.out q
  have HFR : Hid (∀ {w'}, Below w0.drew.heap.size w0.drew w' → ∀ j, w'.frozen? ⟨g, j, none⟩ = false) := fun {w'} q j => by
    have h : w'.frozen? ⟨g, j, none⟩ = w0.frozen? ⟨g, j, none⟩ := World.frozen?_of_block (w := w0) (q.block g HGL.out)
    rw [h]
    exact hf j
  have HBD : Hid (∀ {w'}, Below w0.drew.heap.size w0.drew w' → Below w.heap.size w w') := fun q => on B0.out (below_drew_pre0 q)
  have HAJ : Hid (x.1 = y.1 + y.2.2 ∧ x.2.1 = y.2.1 + y.2.2 → Ex.addAll [] (ps ++ [x]) = (m ++ [y]).set m.length (y.1, y.2.1, y.2.2 + x.2.2)) := fun h => by
    rw [Ex.addAll_append, hps]
    exact Ex.add_join hx1 ⟨h.1.symm, .inr ⟨by omega, by omega, h.2.symm⟩⟩
  have HAN : Hid (¬ (x.1 = y.1 + y.2.2 ∧ x.2.1 = y.2.1 + y.2.2) → Ex.addAll [] (ps ++ [x]) = m ++ [y] ++ [x]) := fun h => by
    rw [Ex.addAll_append, hps]
    refine Ex.add_more hx1 (fun hj => h ⟨hj.1.symm, ?_⟩)
    rcases hj.2 with h2 | h2
    · omega
    · exact h2.2.2.symm
  unfold Small at hx hy
  obtain ⟨⟨s1, s2⟩, ⟨s3, s4⟩, s5, s6⟩ := hx
  obtain ⟨⟨t1, t2⟩, ⟨t3, t4⟩, t5, t6⟩ := hy
  have hk1 : (m.length : Int) < ((m.length + 1 : Nat) : Int) := by omega
  have hk2 : (m.length : Int) < (m.length : Int) + 1 := by omega
  clear V O hS hps V0 b0 z0 hat hf hmy hml hgb hgl
  cases hr' : decide (x.1 = y.1 + y.2.2 ∧ x.2.1 = y.2.1 + y.2.2)
  · have hr : Hid (decide (x.1 = y.1 + y.2.2 ∧ x.2.1 = y.2.1 + y.2.2) = false) := hr'
    have HA : Hid _ := HAN.out (of_decide_eq_false hr')
    clear hr' HAN HAJ
    go_enter Try.func89, Try.ntmps89
    go_wp2_with fail
    refine wp_region_held_drew (S := (fun w' : World => w'.cell? ⟨B, 0, none⟩ = some (.slice (some ⟨g, 0, none⟩) (m.length + 1) c) ∧ w'.cell? ⟨g, m.length * 3, none⟩ = some (.int .i64 y.1) ∧ w'.cell? ⟨g, m.length * 3 + 1, none⟩ = some (.int .i64 y.2.1) ∧ w'.cell? ⟨g, m.length * 3 + 2, none⟩ = some (.int .i64 y.2.2) ∧ w'.cell? ⟨w.heap.size, 0, none⟩ = some (.int .i64 x.1) ∧ w'.cell? ⟨w.heap.size, 1, none⟩ = some (.int .i64 x.2.1) ∧ w'.cell? ⟨w.heap.size, 2, none⟩ = some (.int .i64 x.2.2))) (by kernel_rfl) (SK.out (Below.refl _ _)) (fun hHeld => ?_)
    refine wpAnyH_takeL (i := 0) (v := ?_) rfl rfl (by kernel_rfl) (by kernel_rfl) (by kernel_rfl) (fun _ _ _ h => h) (Or.inl ⟨by rfl, ?_⟩) (by assumption) ?_
    rotate_left
    · intro w hSw
      try dsimp only at hSw
      go_simp
      all_goals with_reducible rfl
    simp only [List.set_cons_zero, List.set_cons_succ]
    refine wpAnyH_takeL (i := 1) (v := ?_) rfl rfl (by kernel_rfl) (by kernel_rfl) (by kernel_rfl) (fun _ _ _ h => h) (Or.inl ⟨by rfl, ?_⟩) (by assumption) ?_
    rotate_left
    · intro w hSw
      try dsimp only at hSw
      go_simp
      all_goals with_reducible rfl
    simp only [List.set_cons_zero, List.set_cons_succ]
    refine wpAnyH_takeL (i := 2) (v := ?_) rfl rfl (by kernel_rfl) (by kernel_rfl) (by kernel_rfl) (fun _ _ _ h => h) (Or.inl ⟨by rfl, ?_⟩) (by assumption) ?_
    rotate_left
    · intro w hSw
      try dsimp only at hSw
      go_simp
      all_goals with_reducible rfl
    simp only [List.set_cons_zero, List.set_cons_succ]
    refine wpAnyH_takeL (i := 3) (v := ?_) rfl rfl (by kernel_rfl) (by kernel_rfl) (by kernel_rfl) (fun _ _ _ h => h) (Or.inl ⟨by rfl, ?_⟩) (by assumption) ?_
    rotate_left
    · intro w hSw
      try dsimp only at hSw
      go_simp
      all_goals with_reducible rfl
    simp only [List.set_cons_zero, List.set_cons_succ]
    refine wpAnyH_takeL (i := 4) (v := ?_) rfl rfl (by kernel_rfl) (by kernel_rfl) (by kernel_rfl) (fun _ _ _ h => h) (Or.inl ⟨by rfl, ?_⟩) (by assumption) ?_
    rotate_left
    · intro w hSw
      try dsimp only at hSw
      go_simp
      all_goals with_reducible rfl
    simp only [List.set_cons_zero, List.set_cons_succ]
    refine wpAnyH_takeL (i := 5) (v := ?_) rfl rfl (by kernel_rfl) (by kernel_rfl) (by kernel_rfl) (fun _ _ _ h => h) (Or.inl ⟨by rfl, ?_⟩) (by assumption) ?_
    rotate_left
    · intro w hSw
      try dsimp only at hSw
      go_simp
      all_goals with_reducible rfl
    simp only [List.set_cons_zero, List.set_cons_succ]
    refine wpAnyH_takeL (i := 6) (v := ?_) rfl rfl (by kernel_rfl) (by kernel_rfl) (by kernel_rfl) (fun _ _ _ h => h) (Or.inl ⟨by rfl, ?_⟩) (by assumption) ?_
    rotate_left
    · intro w hSw
      try dsimp only at hSw
      go_simp
      all_goals with_reducible rfl
    simp only [List.set_cons_zero, List.set_cons_succ]
    refine wpAnyH_takeL (i := 7) (v := ?_) rfl rfl (by kernel_rfl) (by kernel_rfl) (by kernel_rfl) (fun _ _ _ h => h) (Or.inl ⟨by rfl, ?_⟩) (by assumption) ?_
    rotate_left
    · intro w hSw
      try dsimp only at hSw
      go_simp
      all_goals with_reducible rfl
    simp only [List.set_cons_zero, List.set_cons_succ]
    refine wpAnyH_ready (rs := [8]) (by kernel_rfl) (by simp) ?_
    refine AllReadyH.cons rfl (fun K hK => ?_) ?_
    · go_simp
      go_at_call 74
      refine Calls.mono (couldBeOne_u _ y x HYS.out _ hr.out) ?_
      rintro e w3 ⟨rfl, hb3⟩
      have HB3 : Hid (Below w.heap.size w w3) := HBD.out hb3
      have HW3 : Hid (Below w0.heap.size w0 w3) := below_drew_pre0 hb3
      have S1 := SK.out hb3
      have F3 : Hid (∀ j, w3.frozen? ⟨g, j, none⟩ = false) := HFR.out hb3
      clear hb3
      go_simp
      refine hK.out _ _ ?_ (fun hHeld => ?_)
      · try dsimp only
        exact S1
      clear hK K
      refine wpAnyH_takeL (i := 9) (v := ?_) rfl rfl (by kernel_rfl) (by kernel_rfl) (by kernel_rfl) (fun _ _ _ h => h) (Or.inl ⟨by rfl, ?_⟩) (by assumption) ?_
      rotate_left
      · intro w hSw
        try dsimp only at hSw
        go_simp
        all_goals with_reducible rfl
      simp only [List.set_cons_zero, List.set_cons_succ]
      refine wpAnyH_done (by kernel_rfl) ?_ _
      obtain ⟨a0, a1, a2, a3, a4, a5, a6⟩ := S1
      clear hHeld
      go_wp2_with (at_builtin; refine append_ext rfl _ _ rfl (B + 1) _ (m ++ [y]) rfl ((HO0.out.below HW3.out).below ((Below.refl _ _).alloc (Nat.le_refl _) _)) x ⟨w3.heap.size, 0, none⟩ rfl (ext_cells_new w3 x _) HX3.out (by simpa using hl) (Nat.le_trans HBL.out (Nat.le_trans HW3.out.size (by simp))) ?_; intro b6 d6 w6 ho6 bb6; rw [show (m ++ [y]).length = m.length + 1 by simp] at ho6 bb6; have bb7 : Hid (Grew _ w6 (.slice (some ⟨g, 0, none⟩) (m.length + 1) c) (.slice b6 (m.length + 1 + 1) d6)) := bb6; have HO6 : Hid (OwnE _ _ _ _ _) := ho6; clear bb6 ho6; have V6 : Hid (Row _ _ _ _) := outbox_row HV.out HO.out (below_alloc0 HB3.out _) bb7.out; have k6 := V6.out.cell (j := 0) rfl; have f6 := V6.out.frozen 0)
      go_end0
      exact ⟨rfl, outbox_append HV.out HO.out HS.out (below_alloc0 HB3.out _) (by rw [HA.out]; exact HO6.out) bb7.out⟩
    exact AllReadyH.nil
  · have hr : Hid (decide (x.1 = y.1 + y.2.2 ∧ x.2.1 = y.2.1 + y.2.2) = true) := hr'
    have HA : Hid _ := HAJ.out (of_decide_eq_true hr')
    clear hr' HAN HAJ
    go_enter Try.func89, Try.ntmps89
    go_wp2_with fail
    refine wp_region_held_drew (S := (fun w' : World => w'.cell? ⟨B, 0, none⟩ = some (.slice (some ⟨g, 0, none⟩) (m.length + 1) c) ∧ w'.cell? ⟨g, m.length * 3, none⟩ = some (.int .i64 y.1) ∧ w'.cell? ⟨g, m.length * 3 + 1, none⟩ = some (.int .i64 y.2.1) ∧ w'.cell? ⟨g, m.length * 3 + 2, none⟩ = some (.int .i64 y.2.2) ∧ w'.cell? ⟨w.heap.size, 0, none⟩ = some (.int .i64 x.1) ∧ w'.cell? ⟨w.heap.size, 1, none⟩ = some (.int .i64 x.2.1) ∧ w'.cell? ⟨w.heap.size, 2, none⟩ = some (.int .i64 x.2.2))) (by kernel_rfl) (SK.out (Below.refl _ _)) (fun hHeld => ?_)
    refine wpAnyH_takeL (i := 0) (v := ?_) rfl rfl (by kernel_rfl) (by kernel_rfl) (by kernel_rfl) (fun _ _ _ h => h) (Or.inl ⟨by rfl, ?_⟩) (by assumption) ?_
    rotate_left
    · intro w hSw
      try dsimp only at hSw
      go_simp
      all_goals with_reducible rfl
    simp only [List.set_cons_zero, List.set_cons_succ]
    refine wpAnyH_takeL (i := 1) (v := ?_) rfl rfl (by kernel_rfl) (by kernel_rfl) (by kernel_rfl) (fun _ _ _ h => h) (Or.inl ⟨by rfl, ?_⟩) (by assumption) ?_
    rotate_left
    · intro w hSw
      try dsimp only at hSw
      go_simp
      all_goals with_reducible rfl
    simp only [List.set_cons_zero, List.set_cons_succ]
    refine wpAnyH_takeL (i := 2) (v := ?_) rfl rfl (by kernel_rfl) (by kernel_rfl) (by kernel_rfl) (fun _ _ _ h => h) (Or.inl ⟨by rfl, ?_⟩) (by assumption) ?_
    rotate_left
    · intro w hSw
      try dsimp only at hSw
      go_simp
      all_goals with_reducible rfl
    simp only [List.set_cons_zero, List.set_cons_succ]
    refine wpAnyH_takeL (i := 3) (v := ?_) rfl rfl (by kernel_rfl) (by kernel_rfl) (by kernel_rfl) (fun _ _ _ h => h) (Or.inl ⟨by rfl, ?_⟩) (by assumption) ?_
    rotate_left
    · intro w hSw
      try dsimp only at hSw
      go_simp
      all_goals with_reducible rfl
    simp only [List.set_cons_zero, List.set_cons_succ]
    refine wpAnyH_takeL (i := 4) (v := ?_) rfl rfl (by kernel_rfl) (by kernel_rfl) (by kernel_rfl) (fun _ _ _ h => h) (Or.inl ⟨by rfl, ?_⟩) (by assumption) ?_
    rotate_left
    · intro w hSw
      try dsimp only at hSw
      go_simp
      all_goals with_reducible rfl
    simp only [List.set_cons_zero, List.set_cons_succ]
    refine wpAnyH_takeL (i := 5) (v := ?_) rfl rfl (by kernel_rfl) (by kernel_rfl) (by kernel_rfl) (fun _ _ _ h => h) (Or.inl ⟨by rfl, ?_⟩) (by assumption) ?_
    rotate_left
    · intro w hSw
      try dsimp only at hSw
      go_simp
      all_goals with_reducible rfl
    simp only [List.set_cons_zero, List.set_cons_succ]
    refine wpAnyH_takeL (i := 6) (v := ?_) rfl rfl (by kernel_rfl) (by kernel_rfl) (by kernel_rfl) (fun _ _ _ h => h) (Or.inl ⟨by rfl, ?_⟩) (by assumption) ?_
    rotate_left
    · intro w hSw
      try dsimp only at hSw
      go_simp
      all_goals with_reducible rfl
    simp only [List.set_cons_zero, List.set_cons_succ]
    refine wpAnyH_takeL (i := 7) (v := ?_) rfl rfl (by kernel_rfl) (by kernel_rfl) (by kernel_rfl) (fun _ _ _ h => h) (Or.inl ⟨by rfl, ?_⟩) (by assumption) ?_
    rotate_left
    · intro w hSw
      try dsimp only at hSw
      go_simp
      all_goals with_reducible rfl
    simp only [List.set_cons_zero, List.set_cons_succ]
    refine wpAnyH_ready (rs := [8]) (by kernel_rfl) (by simp) ?_
    refine AllReadyH.cons rfl (fun K hK => ?_) ?_
    · go_simp
      go_at_call 74
      refine Calls.mono (couldBeOne_u _ y x HYS.out _ hr.out) ?_
      rintro e w3 ⟨rfl, hb3⟩
      have HB3 : Hid (Below w.heap.size w w3) := HBD.out hb3
      have HW3 : Hid (Below w0.heap.size w0 w3) := below_drew_pre0 hb3
      have S1 := SK.out hb3
      have F3 : Hid (∀ j, w3.frozen? ⟨g, j, none⟩ = false) := HFR.out hb3
      clear hb3
      go_simp
      refine hK.out _ _ ?_ (fun hHeld => ?_)
      · try dsimp only
        exact S1
      clear hK K
      refine wpAnyH_takeL (i := 9) (v := ?_) rfl rfl (by kernel_rfl) (by kernel_rfl) (by kernel_rfl) (fun _ _ _ h => h) (Or.inl ⟨by rfl, ?_⟩) (by assumption) ?_
      rotate_left
      · intro w hSw
        try dsimp only at hSw
        go_simp
        all_goals with_reducible rfl
      simp only [List.set_cons_zero, List.set_cons_succ]
      refine wpAnyH_done (by kernel_rfl) ?_ _
      obtain ⟨a0, a1, a2, a3, a4, a5, a6⟩ := S1
      have f3 := F3.out (m.length * 3 + 2)
      clear hHeld
      go_wp2_with fail
      go_region
      go_wp2
      refine bodyPost_ret (results_none rfl _ _ _) rfl ?_
      obtain ⟨hml, hmy⟩ := Ex.get_last m y
      have ho1 : OwnE 80 w3.drew (B + 1) (.slice (some ⟨g, 0, none⟩) (m ++ [y]).length c) (m ++ [y]) := by rw [List.length_append]; exact (HO0.out.below HW3.out).keep (fun _ _ _ => rfl)
      have hs := ho1.setLen hml (m := y.2.2 + x.2.2) (by unfold In64; omega)
      rw [hmy, List.length_append] at hs
      exact ⟨rfl, S, outbox_set HV.out HO.out HS.out HB3.out.drew (by rw [HA.out]; exact hs)⟩
    exact AllReadyH.nil
theorem outLayer (B : Nat) : Layer 89 #[.pointer (some ⟨B, 0, none⟩)] id (OutBox B) := by
  refine ⟨enters_of Try.func89 (by kernel_rfl) rfl, fun h => h.low, fun h hk => h.keep hk, ?_⟩
  intro ps S w x hJ hB hx
  have hx' : 1 ≤ x.2.2 ∧ 0 ≤ x.2.1 := hB.one x (by simp)
  have hP := hB.front.pieces
  obtain ⟨v, V, O, hS⟩ := hJ.ex
  obtain ⟨a, c, rfl, -, -⟩ := O.slice
  rcases List.eq_nil_or_concat (Ex.addAll [] ps) with e | ⟨m, y, e⟩
  · rw [e] at V O hS
    exact lay_first w B ps S x a c V O e hS hx (by omega)
  · rw [List.concat_eq_append] at e
    have hym : y ∈ Ex.addAll [] ps := by rw [e]; simp
    have hym2 := hP.made hym
    obtain ⟨z, hz, ez⟩ := Ex.addAll_phys hym
    have hz1 := hB.front.one z (hz.resolve_left (by simp))
    have hcount := hP.count
    rw [e] at V O hS hcount
    rw [List.length_append] at hcount
    obtain ⟨g, rfl, -, -, -, -⟩ := O.at (by simp)
    rw [List.length_append] at V O hS
    exact lay_next w B ps S x y m g c V O e hS hx (by omega) (by unfold Small; omega) hx'.2 (by omega) (by simpa using by omega)
end Go.Proofs.Ytinlgoljaiolnaa
namespace Go.Proofs.Ytinlgoljaiolnaa
open Go.RowKit
set_option linter.unusedVariables false
def Ex.bareE (m : List Ext) : Int := if m.length ≤ 1024 then 0 else 51
def Ex.bareL (m : List Ext) : List Ext := if m.length ≤ 1024 then m else []
def Writes (f : Nat) (bs : Array Value) (w : World) (ps : List Ext) : Prop :=
  ∀ (g : Nat) (cs : Array Value) (J : List Ext → (Nat → Prop) → World → Prop) (S : Nat → Prop) (w1 : World), Layer g cs id J → J [] S w1 → Below w.heap.size w w1 → (∀ k, S k → w.heap.size ≤ k) →
    Calls Try.prog f (#[.func (.func g) #[] cs] ++ bs) w1 fun e w2 => e = .returned (.tuple #[]) ∧ ∃ S', J ps S' w2 ∧ Turns S S' w1 w2
set_option maxHeartbeats 2000000 in
theorem laid_u (w : World) (f : Nat) (bs : Array Value) (eg : ∀ args w, (callFunc f args).run Try.prog w = .ok (.enter f args) w) (ps : List Ext) (hB : Ex.Bits ps) (hw : Writes f bs w ps) :
    Calls Try.prog 75 #[.func (.func f) #[] bs] w fun e w' => ∃ b, e = .returned (.tuple #[b, .int .i64 (Ex.bareE (Ex.addAll [] ps))]) ∧ OwnE 80 w' w.heap.size b (Ex.bareL (Ex.addAll [] ps)) ∧ Below w.heap.size w w' := by
  obtain ⟨w0, hw0, V0, b0, z0⟩ := boxedRow w 70 [.slice none 0 0]
  have HO : Hid (OutBox w.heap.size [] (fun k => k = w.heap.size) w0) := ⟨_, V0, OwnE.nil _ _ _, fun k => by simp [Value.ownBlock]⟩
  have HC : Hid _ := hw _ _ _ _ _ (outLayer w.heap.size) HO.out b0 (fun k hk => by omega)
  have HB0 : Hid (Below w.heap.size w w0) := b0
  have HL : Hid _ := hB.pieces.count
  clear hw V0 b0 z0 HO hB
  by_cases hc : (Ex.addAll [] ps).length ≤ 1024
  · have e1 : Ex.bareE (Ex.addAll [] ps) = 0 := if_pos hc
    have e2 : Ex.bareL (Ex.addAll [] ps) = Ex.addAll [] ps := if_pos hc
    rw [e1, e2]
    clear e1 e2
    go_enter Try.func75, Try.ntmps75
    go_wp2_with fail
    refine Calls.mono HC.out ?_
    rintro e w2 ⟨rfl, S2, hj2, ht2⟩
    have HT : Hid (Below w.heap.size w w2) := HB0.out.trans (ht2.below HB0.out.size (fun k hk => by omega))
    obtain ⟨v2, V2, O2, -⟩ := hj2.ex
    obtain ⟨a2, c2, rfl, -, -⟩ := O2.slice
    have k2 := V2.cell (j := 0) rfl
    have HO2 : Hid (OwnE _ _ _ _ _) := O2
    clear hj2 ht2 V2 O2
    go_wp2
    go_ret2
    exact ⟨_, rfl, HO2.out.mono (Nat.le_succ _), HT.out⟩
  · have e1 : Ex.bareE (Ex.addAll [] ps) = 51 := if_neg hc
    have e2 : Ex.bareL (Ex.addAll [] ps) = [] := if_neg hc
    rw [e1, e2]
    clear e1 e2
    go_enter Try.func75, Try.ntmps75
    go_wp2_with fail
    refine Calls.mono HC.out ?_
    rintro e w2 ⟨rfl, S2, hj2, ht2⟩
    have HT : Hid (Below w.heap.size w w2) := HB0.out.trans (ht2.below HB0.out.size (fun k hk => by omega))
    obtain ⟨v2, V2, O2, -⟩ := hj2.ex
    obtain ⟨a2, c2, rfl, -, -⟩ := O2.slice
    have k2 := V2.cell (j := 0) rfl
    have HO2 : Hid (OwnE _ _ _ _ _) := O2
    clear hj2 ht2 V2 O2
    go_wp2
    go_ret2
    exact ⟨_, rfl, OwnE.nil _ _ _, HT.out⟩
end Go.Proofs.Ytinlgoljaiolnaa
namespace Go.Proofs.Ytinlgoljaiolnaa
open Go.RowKit Go.Lib
set_option linter.unusedVariables false
set_option maxHeartbeats 2000000 in
theorem search_u (f : Nat) (bs : Array Value) (eg : ∀ args w, (callFunc f args).run Try.prog w = .ok (.enter f args) w) (n : Nat) (hn : n ≤ 1000000) (p : Nat → Bool) (w : World)
    (hf : ∀ w1, Below w.heap.size w w1 → ∀ i, i < n → Calls Try.prog f (#[.int .i64 i] ++ bs) w1 fun e w' => e = .returned (.bool (p i)) ∧ Below w1.heap.size w1 w')
    (hmono : ∀ a b, a ≤ b → b < n → p a = true → p b = true) :
    Calls Try.prog 90 #[.int .i64 n, .func (.func f) #[] bs] w fun e w' => ∃ k : Nat, k ≤ n ∧ e = .returned (.int .i64 k) ∧ (∀ t, t < k → p t = false) ∧ Below w.heap.size w w' := by
  have HF : Hid _ := hf
  have M : Hid _ := hmono
  clear hf hmono
  go_enter Try.func90, Try.ntmps90
  go_wp2
  go_loopw [5, 6] (fun s5 s6 wr => ∃ lo hi : Nat, s5 = .int .i64 lo ∧ s6 = .int .i64 hi ∧ lo ≤ hi ∧ hi ≤ n ∧ Hid (∀ t, t < lo → p t = false) ∧ Below w.heap.size w wr) (fun i j _ => (intOf j - intOf i).toNat)
  case atStart => exact ⟨0, n, rfl, rfl, Nat.zero_le _, Nat.le_refl _, (fun t ht => absurd ht (Nat.not_lt_zero _)), Below.refl _ _⟩
  case round =>
    obtain ⟨lo, hi, rfl, rfl, hlh, hin, I, bel⟩ := hrel
    have B : Hid (Below w.heap.size w wr) := bel
    by_cases hlt : lo < hi
    · have hc := HF.out wr bel ((lo + hi) / 2) (by omega)
      rw [show (((lo + hi) / 2 : Nat) : Int) = ((lo : Int) + (hi : Int)) / 2 by omega] at hc
      clear bel
      cases hp : p ((lo + hi) / 2) <;> rw [hp] at hc
      · have HP : Hid (p ((lo + hi) / 2) = false) := hp
        clear hp
        go_wp2_with (go_at_fn f; refine hc.mono ?_; rintro e w' ⟨rfl, hb⟩)
        have I2 : Hid (∀ t, t < (lo + hi) / 2 + 1 → p t = false) := fun t ht => by
          cases h : p t with
          | false => rfl
          | true => have := M.out t ((lo + hi) / 2) (by omega) (by omega) h; rw [HP.out] at this; cases this
        go_roundw
        case measure => simp [intOf]; omega
        case rel => exact ⟨(lo + hi) / 2 + 1, hi, by rw [show ((lo : Int) + (hi : Int)) / 2 + 1 = (((lo + hi) / 2 + 1 : Nat) : Int) by omega], rfl, by omega, hin, I2, on B.out hb⟩
      · clear hp
        go_wp2_with (go_at_fn f; refine hc.mono ?_; rintro e w' ⟨rfl, hb⟩)
        go_roundw
        case measure => simp [intOf]; omega
        case rel => exact ⟨lo, (lo + hi) / 2, rfl, by rw [show ((lo : Int) + (hi : Int)) / 2 = (((lo + hi) / 2 : Nat) : Int) by omega], by omega, by omega, I, on B.out hb⟩
    · obtain rfl : hi = lo := by omega
      go_wp2
      go_ret
      exact ⟨hi, hin, rfl, I.out, bel⟩
theorem seven_kept {w w' : World} {A B : Nat} {a : Option Addr} {n c : Nat} {v : Int} {g off j : Nat} {y : Ext} (hA : A < w.heap.size) (hB : B < w.heap.size) (hg : g < w.heap.size)
    (h0 : w.cell? ⟨A, 0, none⟩ = some (.slice a n c)) (h1 : w.cell? ⟨B, 0, none⟩ = some (.int .i64 v))
    (h2 : w.cell? ⟨g, off + j * 3, none⟩ = some (.int .i64 y.1)) (h3 : w.cell? ⟨g, off + j * 3 + 1, none⟩ = some (.int .i64 y.2.1)) (h4 : w.cell? ⟨g, off + j * 3 + 2, none⟩ = some (.int .i64 y.2.2)) (k : Below w.heap.size w w') :
    w'.cell? ⟨A, 0, none⟩ = some (.slice a n c) ∧ w'.cell? ⟨B, 0, none⟩ = some (.int .i64 v) ∧ w'.cell? ⟨g, off + j * 3, none⟩ = some (.int .i64 y.1) ∧ w'.cell? ⟨g, off + j * 3 + 1, none⟩ = some (.int .i64 y.2.1) ∧ w'.cell? ⟨g, off + j * 3 + 2, none⟩ = some (.int .i64 y.2.2) :=
  ⟨(k.cell (p := ⟨A, 0, none⟩) hA).trans h0, (k.cell (p := ⟨B, 0, none⟩) hB).trans h1, (k.cell (p := ⟨g, off + j * 3, none⟩) hg).trans h2, (k.cell (p := ⟨g, off + j * 3 + 1, none⟩) hg).trans h3, (k.cell (p := ⟨g, off + j * 3 + 2, none⟩) hg).trans h4⟩
set_option maxHeartbeats 2000000 in
theorem asked_u (w : World) (A B : Nat) (a : Option Addr) (n c : Nat) (v : Int) (P : Nat → Prop) (l : List Ext) (hL : rExts.rd w P [.slice a n c] l) (ho : ∀ x ∈ l, Ex.One x) (hA : A < w.heap.size) (hB : B < w.heap.size)
    (h0 : w.cell? ⟨A, 0, none⟩ = some (.slice a n c)) (h1 : w.cell? ⟨B, 0, none⟩ = some (.int .i64 v)) (i : Nat) (hi : i < n) (y : Ext) (hy : l[i]? = some y) :
    Calls Try.prog 91 (#[.int .i64 i] ++ #[.pointer (some ⟨A, 0, none⟩), .pointer (some ⟨B, 0, none⟩)]) w fun e w' => e = .returned (.bool (decide (v < y.1 + y.2.2))) ∧ Below w.heap.size w w' := by
  obtain ⟨hl, -⟩ := rList_len hL
  have hil : i < l.length := by omega
  obtain rfl : l[i] = y := by rw [List.getElem?_eq_getElem hil] at hy; exact Option.some.inj hy
  obtain ⟨g, off, rfl, -, hg, hat⟩ := rExts_at hL (by omega)
  obtain ⟨c0, c1, c2, -⟩ := hat i hil
  have hoi := ho l[i] (List.getElem_mem hil)
  obtain ⟨Y, hY⟩ : ∃ Y, Y = l[i] := ⟨_, rfl⟩
  rw [← hY] at c0 c1 c2 hoi
  rw [← hY]
  clear hat hL ho hY hy hl hil
  unfold Ex.One Ex.Fits at hoi
  have HE : Hid (In64 (Y.1 + Y.2.2)) := by unfold Hid In64; omega
  clear hoi
  have hiz : (i : Int) < (n : Int) := by omega
  have SK : Hid (∀ {w'}, Below w.drew.heap.size w.drew w' → w'.cell? ⟨A, 0, none⟩ = some (.slice (some ⟨g, off, none⟩) n c) ∧ w'.cell? ⟨B, 0, none⟩ = some (.int .i64 v) ∧ w'.cell? ⟨g, off + i * 3, none⟩ = some (.int .i64 Y.1) ∧ w'.cell? ⟨g, off + i * 3 + 1, none⟩ = some (.int .i64 Y.2.1) ∧ w'.cell? ⟨g, off + i * 3 + 2, none⟩ = some (.int .i64 Y.2.2)) :=
    fun k => seven_kept (w := w.drew) hA hB hg h0 h1 c0 c1 c2 k
  go_enter Try.func91, Try.ntmps91
  go_wp2_with fail
  refine wp_region_held_drew (S := (fun w' : World => w'.cell? ⟨A, 0, none⟩ = some (.slice (some ⟨g, off, none⟩) n c) ∧ w'.cell? ⟨B, 0, none⟩ = some (.int .i64 v) ∧ w'.cell? ⟨g, off + i * 3, none⟩ = some (.int .i64 Y.1) ∧ w'.cell? ⟨g, off + i * 3 + 1, none⟩ = some (.int .i64 Y.2.1) ∧ w'.cell? ⟨g, off + i * 3 + 2, none⟩ = some (.int .i64 Y.2.2))) (by kernel_rfl) (SK.out (Below.refl _ _)) (fun hHeld => ?_)
  refine wpAnyH_takeL (i := 0) (v := ?_) rfl rfl (by kernel_rfl) (by kernel_rfl) (by kernel_rfl) (fun _ _ _ h => h) (Or.inl ⟨by rfl, ?_⟩) (by assumption) ?_
  rotate_left
  · intro w hSw
    try dsimp only at hSw
    go_simp
    all_goals with_reducible rfl
  simp only [List.set_cons_zero, List.set_cons_succ]
  refine wpAnyH_takeL (i := 1) (v := ?_) rfl rfl (by kernel_rfl) (by kernel_rfl) (by kernel_rfl) (fun _ _ _ h => h) (Or.inl ⟨by rfl, ?_⟩) (by assumption) ?_
  rotate_left
  · intro w hSw
    try dsimp only at hSw
    go_simp
    all_goals with_reducible rfl
  simp only [List.set_cons_zero, List.set_cons_succ]
  refine wpAnyH_takeL (i := 2) (v := ?_) rfl rfl (by kernel_rfl) (by kernel_rfl) (by kernel_rfl) (fun _ _ _ h => h) (Or.inl ⟨by rfl, ?_⟩) (by assumption) ?_
  rotate_left
  · intro w hSw
    try dsimp only at hSw
    go_simp
    all_goals with_reducible rfl
  simp only [List.set_cons_zero, List.set_cons_succ]
  refine wpAnyH_takeL (i := 3) (v := ?_) rfl rfl (by kernel_rfl) (by kernel_rfl) (by kernel_rfl) (fun _ _ _ h => h) (Or.inl ⟨by rfl, ?_⟩) (by assumption) ?_
  rotate_left
  · intro w hSw
    try dsimp only at hSw
    go_simp
    all_goals with_reducible rfl
  simp only [List.set_cons_zero, List.set_cons_succ]
  refine wpAnyH_takeL (i := 5) (v := ?_) rfl rfl (by kernel_rfl) (by kernel_rfl) (by kernel_rfl) (fun _ _ _ h => h) (Or.inl ⟨by rfl, ?_⟩) (by assumption) ?_
  rotate_left
  · intro w hSw
    try dsimp only at hSw
    go_simp
    all_goals with_reducible rfl
  simp only [List.set_cons_zero, List.set_cons_succ]
  refine wpAnyH_ready (rs := [4]) (by kernel_rfl) (by simp) ?_
  refine AllReadyH.cons rfl (fun K hK => ?_) ?_
  · go_simp
    go_at_call 73
    refine Calls.mono (virtEnd_u _ Y HE.out) ?_
    rintro e w2 ⟨rfl, hb2⟩
    have HB2 : Hid (Below w.heap.size w w2) := ⟨hb2.os, hb2.tape, hb2.output, hb2.size, hb2.block⟩
    have S1 := SK.out hb2
    clear hb2
    go_simp
    refine hK.out _ _ ?_ (fun hHeld => ?_)
    · try dsimp only
      exact S1
    clear hK K
    refine wpAnyH_takeL (i := 6) (v := ?_) rfl rfl (by kernel_rfl) (by kernel_rfl) (by kernel_rfl) (fun _ _ _ h => h) (Or.inl ⟨by rfl, ?_⟩) (by assumption) ?_
    rotate_left
    · intro w hSw
      try dsimp only at hSw
      go_simp
      all_goals with_reducible rfl
    simp only [List.set_cons_zero, List.set_cons_succ]
    refine wpAnyH_takeL (i := 7) (v := ?_) rfl rfl (by kernel_rfl) (by kernel_rfl) (by kernel_rfl) (fun _ _ _ h => h) (Or.inl ⟨by rfl, ?_⟩) (by assumption) ?_
    rotate_left
    · intro w hSw
      try dsimp only at hSw
      go_simp
      all_goals with_reducible rfl
    simp only [List.set_cons_zero, List.set_cons_succ]
    refine wpAnyH_done (by kernel_rfl) ?_ _
    clear S1
    go_wp2
    go_ret
    exact ⟨rfl, HB2.out⟩
  exact AllReadyH.nil
end Go.Proofs.Ytinlgoljaiolnaa
namespace Go.Proofs.Ytinlgoljaiolnaa
open Go.RowKit Go.Lib
set_option linter.unusedVariables false
theorem rExts_low {w w1 : World} {P : Nat → Prop} {a : Option Addr} {n c : Nat} {l : List Ext} (h : rExts.rd w P [.slice a n c] l) (b : Below w.heap.size w w1) : rExts.rd w1 (fun b => b < w.heap.size) [.slice a n c] l := by
  obtain ⟨a', n', c', e, h1, h2, h3, h4, h5⟩ := Rep.below h b
  refine ⟨a', n', c', e, h1, h2, h3, h4, fun x hx j hj => ?_⟩
  obtain ⟨hp, cj, g1, g2⟩ := h5 x hx j hj
  obtain ⟨a2, n2, c2, e2, -, -, -, -, k5⟩ := h
  simp only [List.cons.injEq, Value.slice.injEq, and_true] at e e2
  exact ⟨Elems.block (by decide) (k5 x (by rw [← hx, ← e.1, e2.1])) j hj, cj, rExt_rd.2 (rExt_rd.1 g1), g2⟩
theorem Ex.within_next {l : List Ext} {j : Nat} (hj : j < l.length) (a b : Int) : Ex.within (l.take (j + 1)) a b = Ex.within (l.take j) a b ++ Ex.wOne a b l[j] := Ex.flat_next l j hj
theorem Ex.within_split (l : List Ext) (j : Nat) (a b : Int) : Ex.within l a b = Ex.within (l.take j) a b ++ Ex.within (l.drop j) a b := by
  conv => lhs; rw [← List.take_append_drop j l]
  unfold Ex.within
  rw [List.flatMap_append]
theorem Ex.within_all {l : List Ext} {j : Nat} (hf : Ex.From 0 l) (hj : j < l.length) {a b : Int} (h : b ≤ l[j].1) : Ex.within (l.take j) a b = Ex.within l a b := by
  have e : Ex.within (l.drop j) a b = [] := by
    refine Ex.within_none (c := l[j].1) ?_ h
    have h1 : Ex.From 0 (l.take j ++ l.drop j) := by rw [List.take_append_drop]; exact hf
    have h2 := (Ex.From_append.1 h1).2
    rw [List.drop_eq_getElem_cons hj] at h2 ⊢
    exact ⟨Int.le_refl _, h2.2.1, h2.2.2.1, h2.2.2.2⟩
  rw [Ex.within_split l j, e, List.append_nil]
theorem Ex.within_start {l : List Ext} {k : Nat} {a b : Int} (h : ∀ t (ht : t < l.length), t < k → l[t].1 + l[t].2.2 ≤ a) : Ex.within (l.take k) a b = [] := by
  refine List.flatMap_eq_nil_iff.2 (fun x hx => ?_)
  obtain ⟨i, hi, rfl⟩ := List.mem_take_iff_getElem.1 hx
  exact Ex.wOne_none (.inl (h i (by omega) (by omega)))
theorem Ex.ends_rise : ∀ {l : List Ext} {c : Int}, Ex.From c l → ∀ (a b : Nat) (hb : b < l.length) (hab : a ≤ b), (l[a]'(by omega)).1 + (l[a]'(by omega)).2.2 ≤ l[b].1 + l[b].2.2
  | x :: l, c, ⟨f1, f2, f3, f4⟩, 0, 0, _, _ => Int.le_refl _
  | x :: l, c, ⟨f1, f2, f3, f4⟩, 0, b + 1, hb, _ => by
    have hb' : b < l.length := by simpa using hb
    obtain ⟨g1, g2, g3, g4⟩ := Ex.get_of_mem f4 (List.getElem_mem hb')
    show x.1 + x.2.2 ≤ l[b].1 + l[b].2.2
    omega
  | x :: l, c, ⟨f1, f2, f3, f4⟩, a + 1, b + 1, hb, hab => Ex.ends_rise f4 a b (by simpa using hb) (by omega)
def ask (l : List Ext) (v : Int) (t : Nat) : Bool := match l[t]? with
  | some y => decide (v < y.1 + y.2.2)
  | none => true
theorem ask_at {l : List Ext} {v : Int} {t : Nat} (h : t < l.length) : ask l v t = decide (v < l[t].1 + l[t].2.2) := by unfold ask; rw [List.getElem?_eq_getElem h]
set_option maxHeartbeats 4000000 in
theorem layWithin_u {f : Nat} {bs : Array Value} {J : List Ext → (Nat → Prop) → World → Prop} (L : Layer f bs id J) (w : World) (P : Nat → Prop) (a : Option Addr) (n c : Nat) (l : List Ext) (hL : rExts.rd w P [.slice a n c] l) (hO : Ex.Ok l)
    (ps : List Ext) (S : Nat → Prop) (hJ : J ps S w) (hPS : ∀ b, P b → b < w.heap.size → ¬ S b) (v en : Int) (hv0 : 0 ≤ v) (hv1 : v ≤ 65536) (he0 : 0 ≤ en) (he1 : en ≤ 65536) (hB : Ex.Bits (ps ++ Ex.within l v en)) :
    Calls Try.prog 77 #[.slice a n c, .int .i64 v, .int .i64 en, .func (.func f) #[] bs] w fun e w' => e = .returned (.tuple #[]) ∧ ∃ S', J (ps ++ Ex.within l v en) S' w' ∧ Turns S S' w w' := by
  obtain ⟨hl, hnc, hnil, hb⟩ := rList_len hL
  have hn : n ≤ 1024 := by have := hO.1; omega
  have HL : Hid (l.length = n) := hl
  have HR : Hid _ := hL
  have HO : Hid (∀ x ∈ l, Ex.One x) := hO.2.1
  have HF : Hid (Ex.From 0 l) := hO.good.from_
  have HY : Hid _ := L
  have HB : Hid _ := hB
  have HPS : Hid _ := hPS
  have HLow : Hid _ := L.low hJ
  have HJ : Hid (J ps S w) := hJ
  obtain ⟨w1, hw1, V1, b1, z1⟩ := boxedRow w 70 [.slice a n c]
  obtain ⟨w2, hw2, V2, b2, z2⟩ := boxedRow w1 3 [.int .i64 v]
  have B2 : Hid (Below w.heap.size w w2) := on b1 b2
  have h0 : w2.cell? ⟨w.heap.size, 0, none⟩ = some (.slice a n c) := (V1.below b2).cell (j := 0) rfl
  have h1 : w2.cell? ⟨w.heap.size + 1, 0, none⟩ = some (.int .i64 v) := by have := V2.cell (j := 0) rfl; rw [z1] at this; exact this
  have HZ : Hid (w2.heap.size = w.heap.size + 1 + 1) := by unfold Hid; rw [z2, z1]
  have HS : Hid (Calls Try.prog 90 #[.int .i64 n, .func (.func 91) #[] #[.pointer (some ⟨w.heap.size, 0, none⟩), .pointer (some ⟨w.heap.size + 1, 0, none⟩)]] w2 fun e w' => ∃ k : Nat, k ≤ n ∧ e = .returned (.int .i64 k) ∧ (∀ t, t < k → ask l v t = false) ∧ Below w2.heap.size w2 w') := by
    refine search_u _ _ (enters_of Try.func91 (by kernel_rfl) rfl) n (by omega) (ask l v) w2 (fun w3 hb3 i hi => ?_) (fun a b hab hb h => ?_)
    · have hil : i < l.length := by rw [HL.out]; exact hi
      rw [ask_at hil]
      have hz := HZ.out
      unfold Hid at hz
      exact asked_u w3 w.heap.size (w.heap.size + 1) a n c v P l (Rep.below (Rep.below HR.out B2.out) hb3) HO.out (by have := hb3.size; omega) (by have := hb3.size; omega)
        ((hb3.cell (p := ⟨w.heap.size, 0, none⟩) (by show w.heap.size < _; omega)).trans h0) ((hb3.cell (p := ⟨w.heap.size + 1, 0, none⟩) (by show w.heap.size + 1 < _; omega)).trans h1) i hi _ (List.getElem?_eq_getElem hil)
    · have hbl : b < l.length := by rw [HL.out]; exact hb
      rw [ask_at (by omega)] at h
      rw [ask_at hbl]
      have := Ex.ends_rise HF.out a b hbl hab
      have h' := of_decide_eq_true h
      exact decide_eq_true (by omega)
  clear hl hL hO hJ hB hPS L V1 V2 b1 b2 z2 hb
  go_enter Try.func77, Try.ntmps77
  go_wp2_with fail
  refine HS.out.mono ?_
  rintro e w3 ⟨k, hk, rfl, hkf, hb3⟩
  have k0 : w3.cell? ⟨w.heap.size, 0, none⟩ = some (.slice a n c) := (hb3.cell (p := ⟨w.heap.size, 0, none⟩) (by show w.heap.size < _; rw [HZ.out]; omega)).trans h0
  have k1 : w3.cell? ⟨w.heap.size + 1, 0, none⟩ = some (.int .i64 v) := (hb3.cell (p := ⟨w.heap.size + 1, 0, none⟩) (by show w.heap.size + 1 < _; rw [HZ.out]; omega)).trans h1
  have B3 : Hid (Below w.heap.size w w3) := on B2.out hb3
  have HZ3 : Hid (w.heap.size + 1 < w3.heap.size) := by have h := hb3.size; rw [HZ.out] at h; unfold Hid; omega
  have HK : Hid (Ex.within (l.take k) v en = []) := Ex.within_start (fun t ht htk => by
    have h := hkf t htk
    rw [ask_at ht] at h
    have := of_decide_eq_false h
    omega)
  clear hkf hb3 h0 h1 hw1 hw2 z1 HS HZ B2
  by_cases hkn : k < n
  · obtain ⟨g, off, rfl, hPg, hgl, hat⟩ := rExts_at HR.out (by omega)
    have HAT : Hid _ := hat
    have HG : Hid (g < w.heap.size) := hgl
    have HNS : Hid (¬ S g) := HPS.out g hPg hgl
    have HNS1 : Hid (¬ S (w.heap.size + 1)) := fun h => by have := HLow.out _ h; omega
    have hck : ¬ c = k := by omega
    have hsub : (n - k : Nat) ≤ 1024 := by omega
    clear hat hPg hgl hnil
    go_wp2
    clear k0
    go_loopw [19] (fun i wr => ∃ j : Nat, k + j ≤ n ∧ i = .int .i64 j ∧ Hid (∃ S', J (ps ++ Ex.within (l.take (k + j)) v en) S' wr ∧ Turns S S' w wr ∧ Turns S S' w3 wr)) (fun i _ => n - k - (intOf i).toNat)
    case atStart => exact ⟨0, by omega, rfl, S, by rw [Nat.add_zero, HK.out, List.append_nil]; exact HY.out.below HJ.out B3.out, Turns.of B3.out, Turns.of (Below.refl _ _)⟩
    case round =>
      obtain ⟨j, hj, rfl, HI⟩ := hrel
      obtain ⟨S1, hJ1, hT1, hT3⟩ := HI.out
      have HJ1 : Hid (J (ps ++ Ex.within (l.take (k + j)) v en) S1 wr) := hJ1
      have HT1 : Hid (Turns S S1 w wr) := hT1
      have HT3 : Hid (Turns S S1 w3 wr) := hT3
      clear hJ1 hT1 hT3 HI
      by_cases hlt : k + j < n
      · have hkl : k + j < l.length := by rw [HL.out]; exact hlt
        obtain ⟨c0, c1, c2, -⟩ := HAT.out (k + j) hkl
        have e0 : wr.cell? ⟨g, off + k * 3 + j * 3, none⟩ = some (.int .i64 l[k + j].1) := by
          rw [show off + k * 3 + j * 3 = off + (k + j) * 3 by omega]
          exact (HT1.out.cell (p := ⟨g, off + (k + j) * 3, none⟩) HG.out HNS.out).trans c0
        have e1 : wr.cell? ⟨g, off + k * 3 + j * 3 + 1, none⟩ = some (.int .i64 l[k + j].2.1) := by
          rw [show off + k * 3 + j * 3 + 1 = off + (k + j) * 3 + 1 by omega]
          exact (HT1.out.cell (p := ⟨g, off + (k + j) * 3 + 1, none⟩) HG.out HNS.out).trans c1
        have e2 : wr.cell? ⟨g, off + k * 3 + j * 3 + 2, none⟩ = some (.int .i64 l[k + j].2.2) := by
          rw [show off + k * 3 + j * 3 + 2 = off + (k + j) * 3 + 2 by omega]
          exact (HT1.out.cell (p := ⟨g, off + (k + j) * 3 + 2, none⟩) HG.out HNS.out).trans c2
        have ev : wr.cell? ⟨w.heap.size + 1, 0, none⟩ = some (.int .i64 v) := (HT3.out.cell (p := ⟨w.heap.size + 1, 0, none⟩) HZ3.out HNS1.out).trans k1
        have HWZ : Hid (w.heap.size + 1 < wr.heap.size) := Nat.lt_of_lt_of_le HZ3.out HT3.out.size
        have HNx : Hid _ := Ex.within_next hkl v en
        have HSp : Hid _ := Ex.within_split l (k + j + 1) v en
        have ho := HO.out l[k + j] (List.getElem_mem hkl)
        have HEnd : Hid (en ≤ l[k + j].1 → Ex.within (l.take (k + j)) v en = Ex.within l v en) := fun h => Ex.within_all HF.out hkl h
        obtain ⟨X, hX⟩ : ∃ X, X = l[k + j] := ⟨_, rfl⟩
        rw [← hX] at e0 e1 e2 HNx ho HEnd
        have HOX : Hid (Ex.One X) := ho
        clear hX c0 c1 c2
        unfold Ex.One Ex.Fits at ho
        obtain ⟨q1, ⟨q2, q3, q4, q5⟩, q6, q7, q8, q9⟩ := ho
        obtain ⟨w4, hw4, V4, b4, z4⟩ := boxedRow wr 80 [.int .i64 X.1, .int .i64 X.2.1, .int .i64 X.2.2]
        obtain ⟨d0, d1, d2⟩ := V4.three
        have dv : w4.cell? ⟨w.heap.size + 1, 0, none⟩ = some (.int .i64 v) := (b4.cell (p := ⟨w.heap.size + 1, 0, none⟩) HWZ.out).trans ev
        have B4 : Hid (Below wr.heap.size wr w4) := b4
        have HJ4 : Hid (J (ps ++ Ex.within (l.take (k + j)) v en) S1 w4) := HY.out.below HJ1.out b4
        clear V4 b4 z4
        have hjz : (j : Int) < ((n - k : Nat) : Int) := by omega
        by_cases hend : en ≤ X.1
        · have HE : Hid _ := HEnd.out hend
          go_wp2
          refine bodyPost_ret (results_none rfl _ _ _) rfl ?_
          exact ⟨rfl, S1, by rw [← HE.out]; exact HJ4.out, HT1.out.trans (Turns.of B4.out)⟩
        · have HPt : Hid ((Ex.part X (v - X.1) (en - X.1)).map id = Ex.wOne v en X) := by unfold Hid; rw [List.map_id]; rfl
          have HB4 : Hid (Ex.Bits ((ps ++ Ex.within (l.take (k + j)) v en) ++ (Ex.part X (v - X.1) (en - X.1)).map id)) := by
            unfold Hid
            have h := HB.out
            rw [HSp.out, HNx.out] at h
            rw [HPt.out]
            refine Ex.Bits.front (r := Ex.within (l.drop (k + j + 1)) v en) ?_
            simpa [List.append_assoc] using h
          go_wp2_with fail
          refine (layPiece_u HY.out _ _ S1 HJ4.out X HOX.out (v - X.1) (en - X.1) HB4.out).mono ?_
          rintro e w5 ⟨rfl, S2, hj2, ht2⟩
          have HJ5 : Hid (J (ps ++ Ex.within (l.take (k + (j + 1))) v en) S2 w5) := by
            unfold Hid
            rw [HPt.out] at hj2
            rw [← Nat.add_assoc, HNx.out, ← List.append_assoc]
            exact hj2
          have HT5 : Hid (Turns S S2 w w5) := (HT1.out.trans (Turns.of B4.out)).trans ht2
          have HT6 : Hid (Turns S S2 w3 w5) := (HT3.out.trans (Turns.of B4.out)).trans ht2
          clear hj2 ht2
          go_wp2
          go_roundw
          case rel => exact ⟨j + 1, by omega, by go_num, S2, HJ5.out, HT5.out, HT6.out⟩
          case measure => simp [intOf]; omega
      · have hjn : k + j = n := by omega
        have HE : Hid (Ex.within (l.take (k + j)) v en = Ex.within l v en) := by unfold Hid; rw [hjn, List.take_of_length_le (by rw [HL.out]; exact Nat.le_refl _)]
        have hjz : ¬ (j : Int) < ((n - k : Nat) : Int) := by omega
        go_wp2
        go_end0
        exact ⟨rfl, S1, by rw [← HE.out]; exact HJ1.out, HT1.out⟩
  · have hkn2 : k = n := by omega
    have HE : Hid (Ex.within l v en = []) := by unfold Hid; rw [← HK.out, hkn2, List.take_of_length_le (by rw [HL.out]; exact Nat.le_refl _)]
    have hz : n - k = 0 := by omega
    go_wp2
    all_goals
      go_loopw [19] (fun i wr => i = .int .i64 0 ∧ wr = w3) (fun i _ => 0)
      case atStart => exact ⟨rfl, rfl⟩
      case round =>
        obtain ⟨rfl, rfl⟩ := hrel
        go_wp2
        go_end0
        exact ⟨rfl, S, by rw [HE.out, List.append_nil]; exact HY.out.below HJ.out B3.out, Turns.of B3.out⟩
end Go.Proofs.Ytinlgoljaiolnaa
namespace Go.Proofs.Ytinlgoljaiolnaa
open Go.RowKit
set_option linter.unusedVariables false
theorem four_kept {w w1 : World} {A B : Nat} {s : Value} {x : Ext} {T : TypeId} (hA : A < w.heap.size) (h0 : w.cell? ⟨A, 0, none⟩ = some s) (V : Row w B T (ext3 x)) (b : Below w.heap.size w w1) :
    w1.cell? ⟨A, 0, none⟩ = some s ∧ w1.cell? ⟨B, 0, none⟩ = some (.int .i64 x.1) ∧ w1.cell? ⟨B, 1, none⟩ = some (.int .i64 x.2.1) ∧ w1.cell? ⟨B, 2, none⟩ = some (.int .i64 x.2.2) :=
  ⟨(b.cell (p := ⟨A, 0, none⟩) hA).trans h0, (V.below b).three.1, (V.below b).three.2.1, (V.below b).three.2.2⟩
set_option maxHeartbeats 2000000 in
theorem put1_writes (w : World) (P : Nat → Prop) (a : Option Addr) (n c : Nat) (l : List Ext) (hL : rExts.rd w P [.slice a n c] l) (hO : Ex.Ok l) (x : Ext) (hx : Ex.One x) (A B : Nat) (hA : A < w.heap.size)
    (h0 : w.cell? ⟨A, 0, none⟩ = some (.slice a n c)) (V : Row w B 80 (ext3 x)) :
    Writes 76 #[.pointer (some ⟨A, 0, none⟩), .pointer (some ⟨B, 0, none⟩)] w (Ex.putPs l x) := by
  intro g cs J S w1 L hJ b1 hS
  have HY : Hid (Layer g cs id J) := L
  have HBits : Hid _ := (Ex.putPs_bits hO hx).1
  have HOk : Hid _ := hO
  have HJ : Hid (J [] S w1) := hJ
  have HK : Hid (∀ {w'}, Below w.heap.size w w' → w'.cell? ⟨A, 0, none⟩ = some (.slice a n c) ∧ w'.cell? ⟨B, 0, none⟩ = some (.int .i64 x.1) ∧ w'.cell? ⟨B, 1, none⟩ = some (.int .i64 x.2.1) ∧ w'.cell? ⟨B, 2, none⟩ = some (.int .i64 x.2.2)) := fun b => four_kept hA h0 V b
  obtain ⟨e0, e1, e2, e3⟩ := HK.out b1
  have B1 : Hid (Below w.heap.size w w1) := b1
  have HS : Hid _ := hS
  have HL0 : Hid _ := hL
  have HSm : Hid (Small x) := by unfold Hid Small; unfold Ex.One Ex.Fits at hx; omega
  have HE : Hid (In64 (x.1 + x.2.2)) := by unfold Hid In64; unfold Ex.One Ex.Fits at hx; omega
  unfold Ex.One Ex.Fits at hx
  obtain ⟨f1, ⟨f2, f3, f4, f5⟩, f6, f7, f8, f9⟩ := hx
  have HLow : Hid (∀ b, b < w.heap.size → ¬ S b) := fun b hb hs => by have := hS b hs; omega
  have eg := L.enters
  have HB1 : Hid (Ex.Bits (([] ++ Ex.within l 0 x.1) ++ [id x])) := by
    have h : Ex.Bits ((Ex.within l 0 x.1 ++ [x]) ++ Ex.within l (x.1 + x.2.2) 65536) := by
      have h := HBits.out
      unfold Ex.putPs at h
      simpa [List.append_assoc] using h
    exact h.front
  have HB2 : Hid (Ex.Bits ((([] ++ Ex.within l 0 x.1) ++ [id x]) ++ Ex.within l (x.1 + x.2.2) 65536)) := by
    have h := HBits.out
    unfold Ex.putPs at h
    unfold Hid
    simpa [List.append_assoc] using h
  clear hL hO b1 hS L hJ h0 V
  go_enter Try.func76, Try.ntmps76
  go_wp2_with fail
  refine (layWithin_u HY.out w1 (fun b => b < w.heap.size) a n c l (rExts_low HL0.out B1.out) HOk.out [] S HJ.out (fun b hb _ => HLow.out b hb) 0 x.1 (by omega) (by omega) (by omega) (by omega) (by exact HB1.out.front)).mono ?_
  rintro e w2 ⟨rfl, S2, hj2, ht2⟩
  have HJ2 : Hid (J ([] ++ Ex.within l 0 x.1) S2 w2) := hj2
  have HT2 : Hid (Turns S S2 w1 w2) := ht2
  have B2 : Hid (Below w.heap.size w w2) := B1.out.trans (ht2.below B1.out.size HS.out)
  have HS2 : Hid (∀ b, S2 b → w.heap.size ≤ b) := ht2.low B1.out.size HS.out
  clear e0 e1 e2 e3 hj2 ht2
  obtain ⟨e0, e1, e2, e3⟩ := HK.out B2.out
  have HCL : Hid (Calls Try.prog g (#[.agg #[.int .i64 x.1, .int .i64 x.2.1, .int .i64 x.2.2]] ++ cs) w2 fun e w' => e = .returned (.tuple #[]) ∧ ∃ S', J (([] ++ Ex.within l 0 x.1) ++ [id x]) S' w' ∧ Turns S2 S' w2 w') := HY.out.call HJ2.out HB1.out HSm.out
  go_wp2_with fail
  refine Calls.mono HCL.out ?_
  rintro e w3 ⟨rfl, S3, hj3, ht3⟩
  have HJ3 : Hid (J (([] ++ Ex.within l 0 x.1) ++ [id x]) S3 w3) := hj3
  have HT3 : Hid (Turns S S3 w1 w3) := HT2.out.trans ht3
  have B3 : Hid (Below w.heap.size w w3.drew) := (B2.out.trans (ht3.below B2.out.size HS2.out)).drew
  have HS3 : Hid (∀ b, S3 b → w.heap.size ≤ b) := ht3.low B2.out.size HS2.out
  clear e0 e1 e2 e3 hj3 ht3 HCL
  go_wp2_with fail
  refine wp_region_held_drew (S := (fun w' : World => w'.cell? ⟨A, 0, none⟩ = some (.slice a n c) ∧ w'.cell? ⟨B, 0, none⟩ = some (.int .i64 x.1) ∧ w'.cell? ⟨B, 1, none⟩ = some (.int .i64 x.2.1) ∧ w'.cell? ⟨B, 2, none⟩ = some (.int .i64 x.2.2))) (by kernel_rfl) (HK.out B3.out) (fun hHeld => ?_)
  refine wpAnyH_takeL (i := 0) (v := ?_) rfl rfl (by kernel_rfl) (by kernel_rfl) (by kernel_rfl) (fun _ _ _ h => h) (Or.inl ⟨by rfl, ?_⟩) (by assumption) ?_
  rotate_left
  · intro w hSw
    try dsimp only at hSw
    go_simp
    all_goals with_reducible rfl
  simp only [List.set_cons_zero, List.set_cons_succ]
  refine wpAnyH_takeL (i := 1) (v := ?_) rfl rfl (by kernel_rfl) (by kernel_rfl) (by kernel_rfl) (fun _ _ _ h => h) (Or.inl ⟨by rfl, ?_⟩) (by assumption) ?_
  rotate_left
  · intro w hSw
    try dsimp only at hSw
    go_simp
    all_goals with_reducible rfl
  simp only [List.set_cons_zero, List.set_cons_succ]
  refine wpAnyH_takeL (i := 3) (v := ?_) rfl rfl (by kernel_rfl) (by kernel_rfl) (by kernel_rfl) (fun _ _ _ h => h) (Or.inl ⟨by rfl, ?_⟩) (by assumption) ?_
  rotate_left
  · intro w hSw
    try dsimp only at hSw
    go_simp
    all_goals with_reducible rfl
  simp only [List.set_cons_zero, List.set_cons_succ]
  refine wpAnyH_ready (rs := [2]) (by kernel_rfl) (by simp) ?_
  refine AllReadyH.cons rfl (fun K hK => ?_) ?_
  · go_simp
    go_at_call 73
    refine Calls.mono (virtEnd_u _ x HE.out) ?_
    rintro e w4 ⟨rfl, hb4⟩
    have B4 : Hid (Below w.heap.size w w4) := B3.out.trans (hb4.mono B3.out.size)
    have HW4 : Hid (Below w3.heap.size w3 w4) := ⟨hb4.os, hb4.tape, hb4.output, hb4.size, hb4.block⟩
    have S1 := HK.out B4.out
    clear hb4
    go_simp
    refine hK.out _ _ ?_ (fun hHeld => ?_)
    · try dsimp only
      first | exact S2' | exact S1
    clear hK K
    refine wpAnyH_ready (rs := [4]) (by kernel_rfl) (by simp) ?_
    refine AllReadyH.cons rfl (fun K hK => ?_) ?_
    · go_simp
      go_at_call 77
      refine Calls.mono (layWithin_u HY.out w4 (fun b => b < w.heap.size) a n c l (rExts_low HL0.out B4.out) HOk.out (([] ++ Ex.within l 0 x.1) ++ [id x]) S3 (HY.out.below HJ3.out HW4.out) (fun b hb _ hs => by have := HS3.out b hs; omega) (x.1 + x.2.2) 65536 (by omega) (by omega) (by omega) (by omega) HB2.out) ?_
      rintro e w5 ⟨rfl, S5, hj5, ht5⟩
      have HJ5 : Hid (J ((([] ++ Ex.within l 0 x.1) ++ [id x]) ++ Ex.within l (x.1 + x.2.2) 65536) S5 w5) := hj5
      have HT5 : Hid (Turns S S5 w1 w5) := (HT3.out.trans (Turns.of HW4.out)).trans ht5
      have S2' := HK.out (B4.out.trans (ht5.below B4.out.size HS3.out))
      clear hj5 ht5
      go_simp
      refine hK.out _ _ ?_ (fun hHeld => ?_)
      · try dsimp only
        first | exact S2' | exact S1
      clear hK K
      refine wpAnyH_done (by kernel_rfl) ?_ _
      clear S1 S2'
      go_wp2
      go_end0
      exact ⟨rfl, S5, by have h := HJ5.out; unfold Ex.putPs; simpa [List.append_assoc] using h, HT5.out⟩
    exact AllReadyH.nil
  exact AllReadyH.nil
set_option maxHeartbeats 2000000 in
theorem extPut_u (w : World) (P : Nat → Prop) (a : Option Addr) (n c : Nat) (l : List Ext) (hL : rExts.rd w P [.slice a n c] l) (x : Ext) (hx : In3 x) :
    Calls Try.prog 62 #[.slice a n c, .agg #[.int .i64 x.1, .int .i64 x.2.1, .int .i64 x.2.2]] w fun e w' => ∃ b, e = .returned (.tuple #[b, .int .i64 (Ex.putE l x)]) ∧ OwnE 80 w' w.heap.size b (Ex.putL l x) ∧ Below w.heap.size w w' := by
  obtain ⟨w1, hw1, V1, b1, z1⟩ := boxedRow w 70 [.slice a n c]
  obtain ⟨w2, hw2, V2, b2, z2⟩ := boxedRow w1 80 [.int .i64 x.1, .int .i64 x.2.1, .int .i64 x.2.2]
  rw [z1] at z2 V2
  have B2 : Hid (Below w.heap.size w w2) := on b1 b2
  have HV1 : Hid (Row w2 w.heap.size 70 [.slice a n c]) := V1.below b2
  have HV2 : Hid (Row w2 (w.heap.size + 1) 80 [.int .i64 x.1, .int .i64 x.2.1, .int .i64 x.2.2]) := V2
  have h0 := HV1.out.cell (j := 0) rfl
  obtain ⟨h1, h2, h3⟩ := HV2.out.three
  have HR : Hid _ := hL
  have HX : Hid (In3 x) := hx
  clear V1 V2 b1 b2
  by_cases hO : Ex.Ok l
  · have HC : Hid _ := Ex.checkE_ok hO
    by_cases ho : Ex.One x
    · have HM : Hid (decide (Ex.One x) = true) := decide_eq_true ho
      have HE : Hid (Ex.putE l x = Ex.bareE (Ex.put l x)) := by unfold Hid Ex.putE Ex.bareE; rw [if_pos hO, if_pos ho]
      have HLL : Hid (Ex.putL l x = Ex.bareL (Ex.put l x)) := by
        unfold Hid Ex.putL
        rw [HE.out]
        unfold Ex.bareE Ex.bareL
        by_cases h : (Ex.put l x).length ≤ 1024
        · rw [if_pos h, if_pos rfl, if_pos h]
        · rw [if_neg h, if_neg (by decide), if_neg h]
      have HOk : Hid _ := hO
      have HOne : Hid (Ex.One x) := ho
      have HBits : Hid _ := (Ex.putPs_bits hO ho).1
      have HEq : Hid _ := Ex.putPs_eq hO ho
      clear hO ho hL hx
      go_enter Try.func62, Try.ntmps62
      go_wp2_with fail
      refine (extCheck_u _ P _ _ _ l (Rep.below HR.out B2.out)).mono ?_
      rintro e w3 ⟨rfl, b3⟩
      rw [HC.out]
      have B3 : Hid (Below w.heap.size w w3) := on B2.out b3
      have W1 : Hid (Row w3 w.heap.size 70 [.slice a n c]) := HV1.out.below b3
      have W2 : Hid (Row w3 (w.heap.size + 1) 80 [.int .i64 x.1, .int .i64 x.2.1, .int .i64 x.2.2]) := HV2.out.below b3
      obtain ⟨g1, g2, g3⟩ := W2.out.three
      clear h0 h1 h2 h3 b3
      go_wp2_with fail
      refine (mayBe_u _ x HX.out _ HM.out).mono ?_
      rintro e w4 ⟨rfl, b4⟩
      have B4 : Hid (Below w.heap.size w w4) := on B3.out b4
      have HWR : Hid _ := put1_writes w4 P a n c l (Rep.below HR.out B4.out) HOk.out x HOne.out w.heap.size (w.heap.size + 1) (W1.out.below b4).lt ((W1.out.below b4).cell (j := 0) rfl) (W2.out.below b4)
      clear g1 g2 g3 b4
      go_wp2_with fail
      refine (laid_u w4 _ _ (enters_of Try.func76 (by kernel_rfl) rfl) _ HBits.out HWR.out).mono ?_
      rintro e w5 ⟨b5, rfl, ho5, bb5⟩
      rw [HEq.out] at ho5 ⊢
      have HO5 : Hid (OwnE _ _ _ _ _) := ho5
      have B5 : Hid (Below w.heap.size w w5) := on B4.out bb5
      clear ho5 bb5
      go_wp2
      go_ret2
      exact ⟨_, by rw [HE.out]; rfl, by rw [HLL.out]; exact HO5.out.mono B4.out.size, B5.out⟩
    · have HM : Hid (decide (Ex.One x) = false) := decide_eq_false ho
      have HE : Hid (Ex.putE l x = 4) := by unfold Hid Ex.putE; rw [if_pos hO, if_neg ho]
      have HLL : Hid (Ex.putL l x = []) := if_neg (by rw [HE.out]; decide)
      clear hO ho hL hx
      go_enter Try.func62, Try.ntmps62
      go_wp2_with fail
      refine (extCheck_u _ P _ _ _ l (Rep.below HR.out B2.out)).mono ?_
      rintro e w3 ⟨rfl, b3⟩
      rw [HC.out]
      have B3 : Hid (Below w.heap.size w w3) := on B2.out b3
      obtain ⟨g1, g2, g3⟩ := (HV2.out.below b3).three
      clear h0 h1 h2 h3 b3
      go_wp2_with fail
      refine (mayBe_u _ x HX.out _ HM.out).mono ?_
      rintro e w4 ⟨rfl, b4⟩
      go_wp2
      go_ret2
      exact ⟨_, by rw [HE.out]; rfl, by rw [HLL.out]; exact OwnE.nil _ _ _, on B3.out b4⟩
  · have HC : Hid _ := Ex.checkE_no hO
    have HE : Hid (Ex.putE l x = 9) := by unfold Hid Ex.putE; rw [if_neg hO]
    have HLL : Hid (Ex.putL l x = []) := if_neg (by rw [HE.out]; decide)
    clear hO hL hx
    go_enter Try.func62, Try.ntmps62
    go_wp2_with fail
    refine (extCheck_u _ P _ _ _ l (Rep.below HR.out B2.out)).mono ?_
    rintro e w3 ⟨rfl, b3⟩
    rw [HC.out]
    go_wp2
    go_ret2
    exact ⟨_, by rw [HE.out]; rfl, by rw [HLL.out]; exact OwnE.nil _ _ _, on B2.out b3⟩
end Go.Proofs.Ytinlgoljaiolnaa
