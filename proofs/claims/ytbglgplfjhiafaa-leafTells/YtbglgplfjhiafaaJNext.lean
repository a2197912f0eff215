/-
  The landed reader's own closure: the next number of so many octets. Conditions: those that each contract names.
-/
import Derived.Test.YtbglgplfjhiafaaJRow
import Derived.Test.YtbglgplfjhiafaaONum
namespace Go.Proofs.Ytbglgplfjhiafaa
open Go.RowKit
set_option linter.unusedVariables false

/-- Sixty octets that are read one number behind the other: where the next one begins. -/
structure Reads (gA gB xb xo cap : Nat) (b : List UInt8) (w : World) (p : Nat) : Prop where
  spot : Row w gA 3 [.int .i64 (p : Int)]
  box : Row w gB 26 [.slice (some ⟨xb, xo, none⟩) 60 cap]
  oct : IsB w (some ⟨xb, xo, none⟩) 60 b

theorem IsB.keepB {w w' : World} {xb xo n : Nat} {l : List UInt8} (h : IsB w (some ⟨xb, xo, none⟩) n l) (hb : w'.heap[xb]? = w.heap[xb]?) : IsB w' (some ⟨xb, xo, none⟩) n l := by
  refine ⟨h.1, h.2.1, fun x hx j hj => ?_⟩
  have hc := h.2.2 x hx j hj
  simp only [Option.some.injEq] at hx
  subst hx
  rw [Addr.add_lit] at hc ⊢
  rw [World.cell?_of_block (w := w) (a := ⟨xb, xo + j, none⟩) hb]
  exact hc

theorem IsB.lt {w : World} {xb xo : Nat} {l : List UInt8} (h : IsB w (some ⟨xb, xo, none⟩) 60 l) : xb < w.heap.size := by
  have hl := h.1
  have := h.2.2 _ rfl 0 (by omega)
  rw [Addr.add_lit] at this
  exact World.block_lt_of_cell? _ _ this

theorem Reads.keep {gA gB xb xo cap : Nat} {b : List UInt8} {w w' : World} {p : Nat} (h : Reads gA gB xb xo cap b w p) (k : ∀ x, x = gA ∨ x = gB ∨ x = xb → w'.heap[x]? = w.heap[x]?) : Reads gA gB xb xo cap b w' p :=
  ⟨h.spot.keep (k gA (.inl rfl)), h.box.keep (k gB (.inr (.inl rfl))), h.oct.keepB (k xb (.inr (.inr rfl)))⟩

theorem Reads.below {gA gB xb xo cap : Nat} {b : List UInt8} {w w' : World} {p : Nat} (h : Reads gA gB xb xo cap b w p) (k : Below w.heap.size w w') : Reads gA gB xb xo cap b w' p :=
  ⟨h.spot.below k, h.box.below k, h.oct.below k⟩

set_option maxHeartbeats 1000000 in
theorem next_c (gA gB xb xo cap : Nat) (b : List UInt8) (w : World) (p : Nat) (hab : gA ≠ gB) (hax : gA ≠ xb) (h : Reads gA gB xb xo cap b w p) (s : Nat) (S : Int) (hS : S = (s : Int)) (h2 : s ≤ 8) (hp : p ≤ 100000) :
    Calls Try.prog 45 #[.int .i64 S, .pointer (some ⟨gB, 0, none⟩), .pointer (some ⟨gA, 0, none⟩)] w fun e w' => e = .returned (.int .u64 (Lf.getN b p s : Nat)) ∧ Reads gA gB xb xo cap b w' (p + s) ∧ Kept (fun x => x < w.heap.size ∧ x ≠ gA) w w' := by
  subst hS
  have HR : Hid (Reads gA gB xb xo cap b w p) := h
  have q0 := h.spot.cell (j := 0) rfl
  have q1 := h.box.cell (j := 0) rfl
  clear h
  obtain ⟨G, hG⟩ : ∃ G, G = Lf.getN b p s := ⟨_, rfl⟩
  rw [← hG]
  have HG : Hid (Oct.getV b (p : Int) (s : Int) = G) := hG.symm
  clear hG
  go_enter Try.func45, Try.ntmps45
  go_wp2_with fail
  refine (get_u w _ 60 cap b (p : Int) (s : Int) (by omega) (by decide) HR.out.oct).mono ?_
  rintro e w1 ⟨rfl, b1⟩
  have HR1 : Hid (Reads gA gB xb xo cap b w1 p) := HR.out.below b1
  have HB : Hid (Below w.heap.size w w1) := b1
  have HL : Hid (gA < w.heap.size ∧ gB < w.heap.size ∧ xb < w.heap.size) := ⟨HR.out.spot.lt, HR.out.box.lt, HR.out.oct.lt⟩
  clear q0 q1 b1
  have q0 := HR1.out.spot.cell (j := 0) rfl
  have q2 := HR1.out.spot.frozen 0
  have q1 := HR1.out.box.cell (j := 0) rfl
  rw [HG.out]
  obtain ⟨E, hE⟩ : ∃ E, E = Oct.getE b (p : Int) (s : Int) := ⟨_, rfl⟩
  rw [← hE]
  clear hE
  go_wp2
  go_ret
  refine ⟨rfl, ⟨?_, ?_, ?_⟩, ?_⟩
  · have := HR1.out.spot.set 0 (.int .i64 ((p + s : Nat) : Int))
    simpa using this
  · exact HR1.out.box.setO (p := ⟨gA, 0, none⟩) hab _
  · exact HR1.out.oct.keepB (Below.heap_setCell _ _ _ _ (fun e => hax e.symm))
  · exact ⟨HB.out.os, HB.out.tape, HB.out.output, by have := HB.out.size; simpa [World.setCell] using this, fun x hx => (Below.heap_setCell _ _ _ _ (fun e => hx.2 e)).trans (HB.out.block x hx.1)⟩

theorem kept_below1 {B gA : Nat} {w0 w w' : World} (h : Below B w0 w) (k : Kept (fun b => b < w.heap.size ∧ b ≠ gA) w w') (hB : B ≤ w.heap.size) (ha : B ≤ gA) : Below B w0 w' :=
  h.trans ⟨k.os, k.tape, k.output, k.size, fun b hb => k.block b ⟨by omega, by omega⟩⟩

theorem Row.kept1 {w w' : World} {g gA : Nat} {t : TypeId} {xs : List Value} (h : Row w g t xs) (k : Kept (fun b => b < w.heap.size ∧ b ≠ gA) w w') (hne : g ≠ gA) : Row w' g t xs := h.keep (k.block g ⟨h.lt, hne⟩)

theorem st_retv {Pr : Program} {fn : Func} {p q : Tmp} {ty t : TypeId} {tmps : Array Value} {w w2 : World} {b : Nat} {d : TypeDesc} {x0 x1 : Value} (V : Row w2 b t [x0, x1]) (bel : Below w.heap.size w w2) (hb : w.heap.size ≤ b)
    (u0 u1 v : Value) (h : fn.results = #[.cell p ty, .tmp q]) (hp : tmps.getD p undef = .pointer (some ⟨b, 0, none⟩)) (hq : tmps.getD q undef = v)
    (hu : Pr.underlying ty = some d) (hd : d.isRow = true) (hi : (Pr.info? ty).map (·.size) = some 2) {R : Ending → World → Prop}
    (hR : ∀ w', Kept (· ≠ b) w2 w' → Below w.heap.size w w' → R (.returned (.tuple #[.agg #[u0, u1], v])) w') :
    bodyPost Pr fn R .ret { tmps := tmps, defers := [] } ((w2.setCell ⟨b, 0, none⟩ u0).setCell ⟨b, 1, none⟩ u1) := by
  obtain ⟨w', hw, V', K'⟩ := V.whole2 u0 u1
  rw [hw]
  have hr := results_rowt (Pr := Pr) (fn := fn) h hp V' hu hd hi
  rw [hq] at hr
  exact bodyPost_ret hr rfl (hR w' K' (Kept.belowOf bel K' hb))

theorem equal_u (w : World) (a a' : Option Addr) (n c n' c' : Nat) (l m : List UInt8) (hL : IsB w a n l) (hM : IsB w a' n' m) (r : Bool) (hr : (l == m) = r) :
    Calls Try.prog 33 #[.slice a n c, .slice a' n' c'] w fun e w' => e = .returned (.bool r) ∧ w = w' := by
  have h1 := conv_bytes w a n c l hL
  have h2 := conv_bytes w a' n' c' m hM
  clear hL hM
  go_enter Try.func33, Try.ntmps33
  go_wp2
  go_ret
  exact ⟨by rw [← hr]; rfl, rfl⟩

end Go.Proofs.Ytbglgplfjhiafaa
