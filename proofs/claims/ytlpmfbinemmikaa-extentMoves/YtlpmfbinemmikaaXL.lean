/-
  The landed extent: pieces laid by a function that is handed in. Conditions: those that each contract names.
-/
import Derived.Test.YtlpmfbinemmikaaXA
import Derived.Test.YtlpmfbinemmikaaEWith
import Derived.Test.YtlpmfbinemmikaaEMax
import Derived.Shelf.Abstract
namespace Go.Proofs.Ytlpmfbinemmikaa
open Go.RowKit
set_option linter.unusedVariables false

/-- What calls leave that write into the blocks of S alone: all others as they were; what is S's behind them was so, or is new. -/
structure Turns (S S' : Nat → Prop) (w w' : World) : Prop where
  os : w'.os = w.os
  tape : w'.tape = w.tape
  output : w'.output = w.output
  size : w.heap.size ≤ w'.heap.size
  block : ∀ k, k < w.heap.size → ¬ S k → w'.heap[k]? = w.heap[k]?
  place : ∀ k, S' k → S k ∨ w.heap.size ≤ k

theorem Turns.of {S : Nat → Prop} {w w' : World} (h : Below w.heap.size w w') : Turns S S w w' := ⟨h.os, h.tape, h.output, h.size, fun k hk _ => h.block k hk, fun k hk => .inl hk⟩

theorem Turns.trans {S S1 S2 : Nat → Prop} {w w1 w2 : World} (h : Turns S S1 w w1) (k : Turns S1 S2 w1 w2) : Turns S S2 w w2 :=
  ⟨k.os.trans h.os, k.tape.trans h.tape, k.output.trans h.output, Nat.le_trans h.size k.size,
    fun i hi hn => (k.block i (Nat.lt_of_lt_of_le hi h.size) (fun h1 => (h.place i h1).elim hn (fun h2 => by omega))).trans (h.block i hi hn),
    fun i hi => (k.place i hi).elim (h.place i) (fun h2 => .inr (Nat.le_trans h.size h2))⟩

theorem Turns.below {S S' : Nat → Prop} {w w' : World} (h : Turns S S' w w') {N : Nat} (hN : N ≤ w.heap.size) (hS : ∀ k, S k → N ≤ k) : Below N w w' :=
  ⟨h.os, h.tape, h.output, h.size, fun k hk => h.block k (by omega) (fun hs => by have := hS k hs; omega)⟩

theorem Turns.low {S S' : Nat → Prop} {w w' : World} (h : Turns S S' w w') {N : Nat} (hN : N ≤ w.heap.size) (hS : ∀ k, S k → N ≤ k) : ∀ k, S' k → N ≤ k :=
  fun k hk => (h.place k hk).elim (hS k) (fun h1 => by omega)

theorem Turns.cell {S S' : Nat → Prop} {w w' : World} (h : Turns S S' w w') {p : Addr} (hp : p.block < w.heap.size) (hn : ¬ S p.block) : w'.cell? p = w.cell? p := by
  unfold World.cell?
  rw [h.block _ hp hn]

theorem Turns.row {S S' : Nat → Prop} {w w' : World} (h : Turns S S' w w') {b : Nat} {t : TypeId} {xs : List Value} (V : Row w b t xs) (hn : ¬ S b) : Row w' b t xs := V.keep (h.block b V.lt hn)

/-- A function that lays pieces, each one turned by g: what was laid lies in blocks of its own. -/
structure Layer (f : Nat) (bs : Array Value) (g : Ext → Ext) (J : List Ext → (Nat → Prop) → World → Prop) : Prop where
  enters : ∀ args w, (callFunc f args).run Try.prog w = .ok (.enter f args) w
  low : ∀ {ps : List Ext} {S : Nat → Prop} {w : World}, J ps S w → ∀ k, S k → k < w.heap.size
  keep : ∀ {ps : List Ext} {S : Nat → Prop} {w w' : World}, J ps S w → (∀ k, S k → w'.heap[k]? = w.heap[k]?) → J ps S w'
  call : ∀ {ps : List Ext} {S : Nat → Prop} {w : World} {x : Ext}, J ps S w → Ex.Bits (ps ++ [g x]) → Small x →
    Calls Try.prog f (#[.agg #[.int .i64 x.1, .int .i64 x.2.1, .int .i64 x.2.2]] ++ bs) w fun e w' => e = .returned (.tuple #[]) ∧ ∃ S', J (ps ++ [g x]) S' w' ∧ Turns S S' w w'

theorem Layer.below {f : Nat} {bs : Array Value} {g : Ext → Ext} {J : List Ext → (Nat → Prop) → World → Prop} (L : Layer f bs g J) {ps : List Ext} {S : Nat → Prop} {w w' : World} (h : J ps S w) (k : Below w.heap.size w w') : J ps S w' :=
  L.keep h (fun i hi => k.block i (L.low h i hi))

set_option maxHeartbeats 2000000 in
/-- The piece of an extent that is asked for is laid, if there is one. -/
theorem layPiece_u {f : Nat} {bs : Array Value} {g : Ext → Ext} {J : List Ext → (Nat → Prop) → World → Prop} (L : Layer f bs g J) (w : World) (ps : List Ext) (S : Nat → Prop) (hJ : J ps S w) (x : Ext) (hx : Ex.One x) (a b : Int)
    (hB : Ex.Bits (ps ++ (Ex.part x a b).map g)) :
    Calls Try.prog 47 #[.agg #[.int .i64 x.1, .int .i64 x.2.1, .int .i64 x.2.2], .int .i64 a, .int .i64 b, .func (.func f) #[] bs] w fun e w' => e = .returned (.tuple #[]) ∧ ∃ S', J (ps ++ (Ex.part x a b).map g) S' w' ∧ Turns S S' w w' := by
  unfold Ex.One Ex.Fits at hx
  obtain ⟨q1, ⟨q2, q3, q4, q5⟩, q6, q7, q8, q9⟩ := hx
  obtain ⟨w0, hw0, V0, b0, z0⟩ := boxedRow w 24 [.int .i64 x.1, .int .i64 x.2.1, .int .i64 x.2.2]
  obtain ⟨d0, d1, d2⟩ := V0.three
  have B0 : Hid (Below w.heap.size w w0) := b0
  clear V0 z0 b0
  have HL : Hid _ := L
  have HJ : Hid (J ps S w) := hJ
  have eg := L.enters
  have hmx := max_fact 3
  have hmn := min_fact 3
  have HP : Hid (Ex.part x a b = if max a 0 < min b x.2.2 then [(x.1 + max a 0, x.2.1 + max a 0, min b x.2.2 - max a 0)] else []) := rfl
  have HB : Hid _ := hB
  have hM : ∃ lo, max a 0 = lo ∧ 0 ≤ lo := ⟨_, rfl, by omega⟩
  have hN : ∃ hi, min b x.2.2 = hi ∧ hi ≤ x.2.2 := ⟨_, rfl, by omega⟩
  obtain ⟨lo, hlo, lo0⟩ := hM
  obtain ⟨hi, hhi, hi0⟩ := hN
  rw [hlo, hhi] at HP
  clear hJ hB L
  by_cases hc : lo < hi
  · have HPE : Hid (Ex.part x a b = [(x.1 + lo, x.2.1 + lo, hi - lo)]) := by unfold Hid; rw [HP.out, if_pos hc]
    have HSm : Hid (Small (x.1 + lo, x.2.1 + lo, hi - lo)) := by unfold Hid Small; simp only; omega
    rw [HPE.out] at HB
    rw [HPE.out]
    have HC : Hid (∀ n, Calls Try.prog f (#[.agg #[.int .i64 (x.1 + lo), .int .i64 (x.2.1 + lo), .int .i64 (hi - lo)]] ++ bs) (w0.drewN n) fun e w' => e = .returned (.tuple #[]) ∧ ∃ S', J (ps ++ [g (x.1 + lo, x.2.1 + lo, hi - lo)]) S' w' ∧ Turns S S' (w0.drewN n) w') :=
      fun n => HL.out.call (x := (x.1 + lo, x.2.1 + lo, hi - lo)) (HL.out.below HJ.out (same_drewN B0.out n)) HB.out HSm.out
    clear HP HPE HSm HB
    go_enter Try.func47, Try.ntmps47
    go_wp2_with fail
    go_quiet (fail)
    go_wp2_with (go_at_fn f; refine (HC.out nq).mono ?_; rintro e w2 ⟨rfl, S2, hj2, ht2⟩)
    go_end0
    exact ⟨rfl, S2, hj2, (Turns.of (same_drewN B0.out nq)).trans ht2⟩
  · have HPE : Hid (Ex.part x a b = []) := by unfold Hid; rw [HP.out, if_neg hc]
    rw [HPE.out, List.map_nil, List.append_nil]
    clear HP HPE HB
    go_enter Try.func47, Try.ntmps47
    go_wp2_with fail
    go_quiet (fail)
    go_wp2
    go_end0
    exact ⟨rfl, S, HL.out.below HJ.out (same_drewN B0.out nq), Turns.of (same_drewN B0.out nq)⟩

end Go.Proofs.Ytlpmfbinemmikaa
