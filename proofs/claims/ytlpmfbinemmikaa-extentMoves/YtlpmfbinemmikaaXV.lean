/-
  The landed extent: Move, at whatever map, span and place. Conditions: those that each contract names.
-/
import Derived.Test.YtlpmfbinemmikaaXN
namespace Go.Proofs.Ytlpmfbinemmikaa
open Go.RowKit
set_option linter.unusedVariables false

/-- What lies beside what is laid, in blocks of its own. -/
structure Beside (J : List Ext → (Nat → Prop) → World → Prop) (F : World → Prop) (D : Nat → Prop) (ps : List Ext) (S2 : Nat → Prop) (w : World) : Prop where
  ex : ∃ S, J ps S w ∧ F w ∧ (∀ k, S2 k ↔ S k ∨ D k) ∧ ∀ k, D k → ¬ S k

theorem Layer.beside {f : Nat} {bs : Array Value} {g : Ext → Ext} {J : List Ext → (Nat → Prop) → World → Prop} (L : Layer f bs g J) {F : World → Prop} {D : Nat → Prop}
    (hF : ∀ {w w' : World}, F w → (∀ k, D k → w'.heap[k]? = w.heap[k]?) → F w') (hD : ∀ {w : World}, F w → ∀ k, D k → k < w.heap.size) : Layer f bs g (Beside J F D) := by
  refine ⟨L.enters, ?_, ?_, ?_⟩
  · rintro ps S2 w ⟨S, hJ, hf, h2, hd⟩ k hk
    rcases (h2 k).1 hk with h | h
    · exact L.low hJ k h
    · exact hD hf k h
  · rintro ps S2 w w' ⟨S, hJ, hf, h2, hd⟩ hk
    exact ⟨S, L.keep hJ (fun k h => hk k ((h2 k).2 (.inl h))), hF hf (fun k h => hk k ((h2 k).2 (.inr h))), h2, hd⟩
  · rintro ps S2 w x ⟨S, hJ, hf, h2, hd⟩ hB hx
    refine (L.call hJ hB hx).mono ?_
    rintro e w' ⟨rfl, S', hJ', hT⟩
    refine ⟨rfl, fun k => S' k ∨ D k, ⟨S', hJ', hF hf (fun k h => hT.block k (hD hf k h) (hd k h)), fun k => Iff.rfl, fun k h hs => ?_⟩, ?_⟩
    · rcases hT.place k hs with h1 | h1
      · exact hd k h h1
      · have := hD hf k h; omega
    · refine ⟨hT.os, hT.tape, hT.output, hT.size, fun k hk hn => hT.block k hk (fun h => hn ((h2 k).2 (.inl h))), fun k hk => ?_⟩
      rcases hk with h | h
      · exact (hT.place k h).imp (fun h => (h2 k).2 (.inl h)) id
      · exact .inl ((h2 k).2 (.inr h))

/-- The variables that a move reads: where to, what span, and the function that lays. -/
structure MoveVars (T X B : Nat) (t : Int) (x : Spn) (f : Nat) (bs : Array Value) (w : World) : Prop where
  to : Row w T 3 [.int .i64 t]
  span : Row w X 44 [.int .i64 x.1, .int .i64 x.2]
  lay : Row w B 59 [.func (.func f) #[] bs]

theorem MoveVars.keep {T X B : Nat} {t : Int} {x : Spn} {f : Nat} {bs : Array Value} {w w' : World} (h : MoveVars T X B t x f bs w) (hk : ∀ k, (k = T ∨ k = X ∨ k = B) → w'.heap[k]? = w.heap[k]?) : MoveVars T X B t x f bs w' :=
  ⟨h.to.keep (hk T (.inl rfl)), h.span.keep (hk X (.inr (.inl rfl))), h.lay.keep (hk B (.inr (.inr rfl)))⟩

theorem MoveVars.lt {T X B : Nat} {t : Int} {x : Spn} {f : Nat} {bs : Array Value} {w : World} (h : MoveVars T X B t x f bs w) : ∀ k, (k = T ∨ k = X ∨ k = B) → k < w.heap.size := by
  rintro k (rfl | rfl | rfl)
  · exact h.to.lt
  · exact h.span.lt
  · exact h.lay.lt

theorem MoveVars.below {T X B : Nat} {t : Int} {x : Spn} {f : Nat} {bs : Array Value} {w w' : World} (h : MoveVars T X B t x f bs w) (b : Below w.heap.size w w') : MoveVars T X B t x f bs w' := h.keep (fun k hk => b.block k (h.lt k hk))

set_option maxHeartbeats 2000000 in
/-- The function that lays what has moved. -/
theorem movedLayer {f : Nat} {bs : Array Value} {J : List Ext → (Nat → Prop) → World → Prop} (L : Layer f bs id J) (T X B : Nat) (t : Int) (x : Spn) (hx : Ex.Fits x.1 x.2) (ht : Ex.Fits t x.2) :
    Layer 46 #[.pointer (some ⟨T, 0, none⟩), .pointer (some ⟨X, 0, none⟩), .pointer (some ⟨B, 0, none⟩)] (Ex.shift (t - x.1)) (Beside J (MoveVars T X B t x f bs) (fun k => k = T ∨ k = X ∨ k = B)) := by
  have L2 := L.beside (F := MoveVars T X B t x f bs) (D := fun k => k = T ∨ k = X ∨ k = B) (fun h hk => h.keep hk) (fun h => h.lt)
  refine ⟨enters_of Try.func46 (by kernel_rfl) rfl, L2.low, L2.keep, ?_⟩
  intro ps S2 w y hJ hB hy
  obtain ⟨w0, hw0, V0, b0, z0⟩ := boxedRow w 24 [.int .i64 y.1, .int .i64 y.2.1, .int .i64 y.2.2]
  obtain ⟨d0, d1, d2⟩ := V0.three
  have df := V0.frozen 1
  have HM0 : Hid (MoveVars T X B t x f bs w) := by obtain ⟨S, -, h, -, -⟩ := hJ.ex; exact h
  have HM : Hid (MoveVars T X B t x f bs w0) := HM0.out.below b0
  have m0 := HM.out.to.cell (j := 0) rfl
  have m1 := HM.out.span.cell (j := 0) rfl
  have HS : Hid (Small (Ex.shift (t - x.1) y)) := by
    have h := hB.pieces.small (x := Ex.shift (t - x.1) y) (by simp)
    unfold Hid Small
    omega
  have HV0 : Hid (Row w0 w.heap.size 24 [.int .i64 y.1, .int .i64 y.2.1, .int .i64 y.2.2]) := V0
  obtain ⟨w1, hw1⟩ : ∃ w1, w1 = w0.setCell ⟨w.heap.size, 1, none⟩ (.int .i64 (y.2.1 + (t - x.1))) := ⟨_, rfl⟩
  have HV1 : Hid (Row w1 w.heap.size 24 [.int .i64 y.1, .int .i64 (y.2.1 + (t - x.1)), .int .i64 y.2.2]) := by unfold Hid; rw [hw1]; exact V0.set 1 (.int .i64 (y.2.1 + (t - x.1)))
  have B1 : Hid (Below w.heap.size w w1) := by unfold Hid; rw [hw1]; exact b0.setCell (p := ⟨w.heap.size, 1, none⟩) (Nat.le_refl _) _
  have HM1 : Hid (MoveVars T X B t x f bs w1) := HM0.out.below B1.out
  have k0 := HM1.out.lay.cell (j := 0) rfl
  obtain ⟨g0, g1, g2⟩ := HV1.out.three
  have eg := L.enters
  have HC : Hid (Calls Try.prog f (#[.agg #[.int .i64 y.1, .int .i64 (y.2.1 + (t - x.1)), .int .i64 y.2.2]] ++ bs) w1 fun e w' => e = .returned (.tuple #[]) ∧ ∃ S', Beside J (MoveVars T X B t x f bs) (fun k => k = T ∨ k = X ∨ k = B) (ps ++ [Ex.shift (t - x.1) y]) S' w' ∧ Turns S2 S' w1 w') :=
    L2.call (x := Ex.shift (t - x.1) y) (L2.below hJ B1.out) hB HS.out
  have hsm := hB.pieces.small (x := Ex.shift (t - x.1) y) (by simp)
  simp only [Ex.shift] at hsm
  unfold Small at hy
  unfold Ex.Fits at hx ht
  obtain ⟨⟨s1, s2⟩, ⟨s3, s4⟩, s5, s6⟩ := hy
  obtain ⟨f1, f2, f3, f4⟩ := hx
  obtain ⟨t1, t2, t3, t4⟩ := ht
  have hw1' := hw1.symm
  clear V0 b0 z0 hJ hB L L2 hw1 hsm
  go_enter Try.func46, Try.ntmps46
  go_wp2_with (go_at_fn f; refine Calls.mono HC.out ?_; rintro e w2 ⟨rfl, S3, hj3, ht3⟩)
  go_end0
  exact ⟨rfl, S3, hj3, (Turns.of B1.out).trans ht3⟩

end Go.Proofs.Ytlpmfbinemmikaa
