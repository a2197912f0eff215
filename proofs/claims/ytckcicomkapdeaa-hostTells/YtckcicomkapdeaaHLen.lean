/-
  The contract of a host's length: acts looked at from the last one on. Conditions: those that each contract names.
-/
import Derived.RangeFuncNested
import Derived.RangeFuncBox
import Derived.RangeFuncLeaves
import Derived.Shelf.Abstract
import Derived.WalkKit
import Derived.OwnWalkIn
import Derived.TacticsInMore
import Derived.LoopNIn
import Derived.LoopIn
import Derived.Test.YtckcicomkapdeaaRows
import Derived.Test.YtckcicomkapdeaaRHBase
import Derived.Test.YtckcicomkapdeaaROwn
import Derived.Test.YtckcicomkapdeaaHPlain
import Derived.Test.YtckcicomkapdeaaBytes
namespace Go.Proofs.Ytckcicomkapdeaa
open Go.RowKit Go.Shelf
set_option linter.unusedVariables false

attribute [local go_sem] Oper.semAt_some

/-- An act as it is handed on: its number, its place, its octets' slice; and its index ahead of it. -/
abbrev Told := Int × Int × Option Addr × Nat × Nat
abbrev Given := Nat × Told

def Told.val (x : Told) : Value := .agg #[.int .i64 x.1, .int .i64 x.2.1, .slice x.2.2.1 x.2.2.2.1 x.2.2.2.2]

/-- What has come when k rounds are over, from the last one on. -/
def backTo (z : Nat → Told) (len k : Nat) : List Given := (List.range k).map (fun t => (len - 1 - t, z (len - 1 - t)))
theorem backTo_next (z : Nat → Told) (len j : Nat) (h : j < len) : backTo z len (len - 1 - j + 1) = backTo z len (len - 1 - j) ++ [(j, z j)] := by
  simp only [backTo, List.range_succ, List.map_append, List.map_cons, List.map_nil]
  rw [show len - 1 - (len - 1 - j) = j from by omega]
theorem backTo_length (z : Nat → Told) (len k : Nat) : (backTo z len k).length = k := by simp [backTo]

set_option maxRecDepth 100000 in
set_option maxHeartbeats 2000000 in
theorem back1_in (F : Fence) (n : Nat) (h7 : F.fn 56) (hro : F.round = none) (hn : 1 ≤ n) (l Bs n₀ b off len cap : Nat) (z : Nat → Told) (hlen : len ≤ 3518437208780) (hb : b < n₀) (hBn : Bs < n₀) (J Jx : List Given → World → Prop)
    (hY : ∀ pre x W, J pre W → pre.length < len → YieldAt F (n - 1) Try.prog l #[.int .i64 (x.1 : Int), .agg #[.int .i64 x.2.1, .int .i64 x.2.2.1, .slice x.2.2.2.1 x.2.2.2.2.1 x.2.2.2.2.2]] W fun e W' =>
      (e = .returned (.bool true) ∧ J (pre ++ [x]) W' ∧ Below n₀ W W') ∨ (e = .returned (.bool false) ∧ Jx (pre ++ [x]) W'))
    (W : World) (hBs : W.cell? ⟨Bs, 0, none⟩ = some (.slice (some ⟨b, off, none⟩) len cap))
    (hc : ∀ j, j < len → W.cell? ⟨b, off + j * 3, none⟩ = some (.int .i64 (z j).1) ∧ W.cell? ⟨b, off + j * 3 + 1, none⟩ = some (.int .i64 (z j).2.1) ∧ W.cell? ⟨b, off + j * 3 + 2, none⟩ = some (.slice (z j).2.2.1 (z j).2.2.2.1 (z j).2.2.2.2)) (h0 : J [] W) :
    CallsIn F n Try.prog 56 #[.func (.yield l) #[] #[], .pointer (some ⟨Bs, 0, none⟩)] W fun e W' => (∃ v, e = .returned v) ∧
      ((∃ ys, ys = backTo z len len ∧ J ys W') ∨ (∃ pre, (∃ j, j < len ∧ pre = backTo z len (len - 1 - j + 1)) ∧ Jx pre W')) := by
  refine callsIn_of_wp Try.func56 rfl h7 ?_ hro
  simp only [Try.ntmps56, List.size_toArray, List.length_cons, List.length_nil, Nat.reduceAdd, Nat.reduceSub, Array.replicate_succ, Array.replicate_zero, List.push_toArray, List.append_toArray, List.nil_append, List.cons_append]
  gi_wp2
  gi_loopw [3] (fun i wr => ((∃ j : Nat, j < len ∧ i = .int .i64 j ∧ J (backTo z len (len - 1 - j)) wr) ∨ (i = .int .i64 (-1) ∧ J (backTo z len len) wr)) ∧ Below n₀ W wr)
    (fun i _ => (intOf i + 1).toNat)
  case atStart =>
    refine ⟨?_, Below.refl _ _⟩
    cases len with
    | zero => exact .inr ⟨by simp, by simpa [backTo] using h0⟩
    | succ m => exact .inl ⟨m, by omega, by go_num, by simpa [backTo] using h0⟩
  case round =>
    obtain ⟨⟨j, hj, rfl, hJs⟩ | ⟨rfl, hJs⟩, hnx⟩ := hrel
    · obtain ⟨c0, c1, c2⟩ := hc j hj
      have d0 := (hnx.cell (p := ⟨b, off + j * 3, none⟩) hb).trans c0
      have d1 := (hnx.cell (p := ⟨b, off + j * 3 + 1, none⟩) hb).trans c1
      have d2 := (hnx.cell (p := ⟨b, off + j * 3 + 2, none⟩) hb).trans c2
      have dB := (hnx.cell (p := ⟨Bs, 0, none⟩) hBn).trans hBs
      obtain ⟨fn, tmps, assign, body, hy, hR⟩ := hY _ (j, z j) wr hJs (by rw [backTo_length]; omega)
      dsimp only at hy
      clear c0 c1 c2
      gi_wp2
      refine hR.mono ?_
      rintro e W3 (⟨rfl, hJ3, hk3⟩ | ⟨rfl, hJx3⟩)
      · gi_wp2
        go_roundw
        case rel =>
          refine ⟨?_, hnx.trans hk3⟩
          rw [← backTo_next z len j hj] at hJ3
          cases j with
          | zero => exact .inr ⟨by simp, by rwa [show len - 1 - 0 + 1 = len from by omega] at hJ3⟩
          | succ i => exact .inl ⟨i, by omega, by go_num, by rwa [show len - 1 - (i + 1) + 1 = len - 1 - i from by omega] at hJ3⟩
        case measure => simp [intOf]
      · gi_wp2
        refine bodyPost_ret (results_none rfl _ _ _) rfl ?_
        exact ⟨⟨_, rfl⟩, .inr ⟨_, ⟨j, hj, (backTo_next z len j hj).symm⟩, hJx3⟩⟩
    · gi_wp2
      go_end0
      exact ⟨⟨_, rfl⟩, .inl ⟨_, rfl, hJs⟩⟩

set_option maxRecDepth 100000 in
set_option maxHeartbeats 1000000 in
theorem back0_in (F : Fence) (n : Nat) (h7 : F.fn 56) (hro : F.round = none) (l Bs cap : Nat) (a : Option Addr) (J : List Given → World → Prop) (W : World) (hBs : W.cell? ⟨Bs, 0, none⟩ = some (.slice a 0 cap)) (h0 : J [] W) :
    CallsIn F n Try.prog 56 #[.func (.yield l) #[] #[], .pointer (some ⟨Bs, 0, none⟩)] W fun e W' => (∃ v, e = .returned v) ∧ J [] W' := by
  refine callsIn_of_wp Try.func56 rfl h7 ?_ hro
  simp only [Try.ntmps56, List.size_toArray, List.length_cons, List.length_nil, Nat.reduceAdd, Nat.reduceSub, Array.replicate_succ, Array.replicate_zero, List.push_toArray, List.append_toArray, List.nil_append, List.cons_append]
  gi_wp2
  gi_loopw [3] (fun i wr => i = .int .i64 (-1) ∧ J [] wr) (fun _ _ => 0)
  case atStart => exact ⟨by simp, h0⟩
  case round =>
    obtain ⟨rfl, hJs⟩ := hrel
    gi_wp2
    go_end0
    exact ⟨⟨_, rfl⟩, hJs⟩

set_option maxHeartbeats 1000000 in
theorem backward_in (F : Fence) (n : Nat) (h5 : F.fn 53) (hro : F.round = none) (a : Option Addr) (len cap : Nat) (w : World) :
    CallsIn F n Try.prog 53 #[.slice a len cap] w fun e w' => e = .returned (.func (.func 56) #[] #[.pointer (some ⟨w.heap.size, 0, none⟩)]) ∧ w' = w.alloc (.cells #[.slice a len cap] 28) := by
  refine callsIn_of_wp Try.func53 rfl h5 ?_ hro
  simp only [Try.ntmps53, List.size_toArray, List.length_cons, List.length_nil, Nat.reduceAdd, Nat.reduceSub, Array.replicate_succ, Array.replicate_zero, List.push_toArray, List.append_toArray, List.nil_append, List.cons_append]
  gi_wp2
  go_ret
  exact ⟨rfl, rfl⟩

/-- The acts that wait, as they lie in memory. -/
def Lies (n₀ : Nat) (W : World) (a : Option Addr) (len : Nat) (z : Nat → Told) : Prop :=
  len = 0 ∨ ∃ b off, a = some ⟨b, off, none⟩ ∧ b < n₀ ∧ ∀ j, j < len → W.cell? ⟨b, off + j * 3, none⟩ = some (.int .i64 (z j).1) ∧ W.cell? ⟨b, off + j * 3 + 1, none⟩ = some (.int .i64 (z j).2.1) ∧ W.cell? ⟨b, off + j * 3 + 2, none⟩ = some (.slice (z j).2.2.1 (z j).2.2.2.1 (z j).2.2.2.2)

theorem Lies.below {n₀ : Nat} {A B : World} (h : Below n₀ A B) {a : Option Addr} {len : Nat} {z : Nat → Told} : Lies n₀ A a len z → Lies n₀ B a len z
  | .inl e => .inl e
  | .inr ⟨b, off, e, hb, hc⟩ => .inr ⟨b, off, e, hb, fun j hj => ⟨(h.cell (p := ⟨b, off + j * 3, none⟩) hb).trans (hc j hj).1, (h.cell (p := ⟨b, off + j * 3 + 1, none⟩) hb).trans (hc j hj).2.1, (h.cell (p := ⟨b, off + j * 3 + 2, none⟩) hb).trans (hc j hj).2.2⟩⟩

def encGiven (x : Given) : Array Value := #[.int .i64 (x.1 : Int), .agg #[.int .i64 x.2.1, .int .i64 x.2.2.1, .slice x.2.2.2.1 x.2.2.2.2.1 x.2.2.2.2.2]]

theorem backward_stops (F : Fence) (n : Nat) (h7 : F.fn 56) (hro : F.round = none) (hn : 1 ≤ n) (Bs n₀ len cap : Nat) (a : Option Addr) (z : Nat → Told) (hlen : len ≤ 3518437208780) (w : World) (hBs : Bs < n₀) (hn₀ : n₀ ≤ w.heap.size)
    (hc : w.cell? ⟨Bs, 0, none⟩ = some (.slice a len cap)) (hI : Lies n₀ w a len z) :
    SeqStopsK F n Try.prog 56 #[.pointer (some ⟨Bs, 0, none⟩)] encGiven (Below n₀) (fun ys => ys = backTo z len len)
      (fun pre => ∃ j, j < len ∧ pre = backTo z len (len - 1 - j + 1)) len w := fun l J Jx W hW _ _ hY h0 => by
  have hc' := (hW.cell (p := ⟨Bs, 0, none⟩) (by show Bs < _; omega)).trans hc
  rcases hI.below (hW.mono hn₀) with rfl | ⟨b, off, rfl, hb, hcs⟩
  · exact (back0_in F n h7 hro l Bs cap a J W hc' h0).mono fun e W' ⟨he, hj⟩ => ⟨he, .inl ⟨_, rfl, hj⟩⟩
  · exact back1_in F n h7 hro hn l Bs n₀ b off len cap z hlen hb hBs J Jx hY W hc' hcs h0

/-- The acts, off a list. -/
theorem lies_of {w : World} {n₀ : Nat} {a : Option Addr} {n c : Nat} {W : List Act} (h : rWaits.rd w (fun b => b < n₀) [.slice a n c] W) (hn : W.length = n) : ∃ z : Nat → Told, Lies n₀ w a n z ∧ ∀ j (h : j < W.length), (z j).1 = W[j].1 ∧ (z j).2.1 = W[j].2.1 := by
  by_cases h0 : n = 0
  · exact ⟨fun _ => (0, 0, none, 0, 0), .inl h0, fun j h => by omega⟩
  · obtain ⟨b, off, e1, e2, e3, e4⟩ := rWaits_at h (by omega)
    refine ⟨fun j => if hj : j < W.length then (W[j].1, W[j].2.1, Classical.choose (e4 j hj), Classical.choose (Classical.choose_spec (e4 j hj)), Classical.choose (Classical.choose_spec (Classical.choose_spec (e4 j hj)))) else (0, 0, none, 0, 0), .inr ⟨b, off, e1, e2, fun j hj => ?_⟩, fun j hj => ?_⟩
    · have hj' : j < W.length := by omega
      simp only [hj', dif_pos]
      obtain ⟨_, _, k0, k1, k2, _⟩ := Classical.choose_spec (Classical.choose_spec (Classical.choose_spec (e4 j hj')))
      exact ⟨k0, k1, k2⟩
    · simp only [hj, dif_pos, and_self]

set_option maxRecDepth 100000 in
set_option maxHeartbeats 2000000 in
theorem lengthOf_in (F : Fence) (n : Nat) (h3 : F.fn 43) (h5 : F.fn 53) (h7 : F.fn 56) (hro : F.round = none) (hn : 3 ≤ n)
    (w : World) (a b : Option Addr) (la ca len cap : Nat) (cp : Int) (z : Nat → Told) (hlen : len ≤ 3518437208780) (hI : Lies w.heap.size w b len z) :
    CallsIn F n Try.prog 43 #[.agg #[.slice a la ca, .slice b len cap, .int .i64 cp]] w fun e W' =>
      ((e = .returned (.int .i64 la) ∧ ∀ j, j < len → (z j).1 ≠ 2) ∨ (∃ j : Nat, j < len ∧ e = .returned (.int .i64 (z j).2.1) ∧ (z j).1 = 2 ∧ ∀ i, j < i → i < len → (z i).1 ≠ 2)) ∧ Below w.heap.size w W' := by
  have h1 : 1 ≤ n := by omega
  obtain ⟨w0, hw0, p0, p1, p2, b0, z0⟩ := boxed3 w 30 (.slice a la ca) (.slice b len cap) (.int .i64 cp)
  refine callsIn_of_wp_marks Try.func43 rfl h3 ?_ hro
  simp only [Try.ntmps43, List.size_toArray, List.length_cons, List.length_nil, Nat.reduceAdd, Nat.reduceSub, Array.replicate_succ, Array.replicate_zero, List.push_toArray, List.append_toArray, List.nil_append, List.cons_append]
  gi_wp2_with (gi_at_call 53; refine (backward_in F (n - 1) h5 hro _ _ _ _).mono ?_; rintro e w' ⟨rfl, rfl⟩)
  have hB0 : Below w.heap.size w ((w0.alloc (.cells #[.int .i64 0] 3)).alloc (.cells #[.slice b len cap] 28)) := on (on b0 ((Below.refl _ w0).alloc (Nat.le_refl _) _)) ((Below.refl _ _).alloc (Nat.le_refl _) _)
  have bR := (Boxed.new w0 3 (.int .i64 0)).alloc (.cells #[.slice b len cap] 28)
  have bN := Boxed.new (w0.alloc (.cells #[.int .i64 0] 3)) 28 (.slice b len cap)
  have hS0 : ((w0.alloc (.cells #[.int .i64 0] 3)).alloc (.cells #[.slice b len cap] 28)).cell? ⟨w.heap.size, 0, none⟩ = some (.slice a la ca) := ((((Below.refl _ w0).alloc (Nat.le_refl _) (.cells #[.int .i64 0] 3)).alloc (by simp) (.cells #[.slice b len cap] 28)).cell (p := ⟨w.heap.size, 0, none⟩) (by show w.heap.size < _; omega)).trans p0
  have hsz : ((w0.alloc (.cells #[.int .i64 0] 3)).alloc (.cells #[.slice b len cap] 28)).heap.size = w.heap.size + 3 := by simp [z0]
  simp only [World.size_alloc] at bN
  rw [z0] at bR bN
  obtain ⟨W0, hW0⟩ : ∃ W0, (w0.alloc (.cells #[.int .i64 0] 3)).alloc (.cells #[.slice b len cap] 28) = W0 := ⟨_, rfl⟩
  rw [hW0] at hB0 bR bN hS0 hsz ⊢
  have hI0 : Lies W0.heap.size W0 b len z := by
    rcases hI.below hB0 with h | ⟨g, off, e, hg, hc⟩
    · exact .inl h
    · exact .inr ⟨g, off, e, by omega, hc⟩
  clear hW0 hw0 p0 p1 p2 hI
  refine wpIn_rangeFunc_ownH hro h1 (gf := 56) (lb := #[.pointer (some ⟨w.heap.size + 1 + 1, 0, none⟩)]) rfl h7 (enters_of Try.func56 (by kernel_rfl) rfl)
    (backward_stops F (n - 1) h7 hro (by omega) (w.heap.size + 1 + 1) W0.heap.size len cap b z hlen W0 (by omega) (Nat.le_refl _) bN.cell hI0) belowK_t (belowK_b (Nat.le_refl _)) (Below.refl _ _) (fun _ => rfl)
    (fun pre W => ((∀ p ∈ pre, p.2.1 ≠ 2) ∧ W.cell? ⟨w.heap.size + 1, 0, none⟩ = some (.int .i64 0) ∧ W.frozen? ⟨w.heap.size + 1, 0, none⟩ = false ∧ W.cell? ⟨w.heap.size, 0, none⟩ = some (.slice a la ca)) ∧ Below W0.heap.size W0 W)
    (fun c pre W => (c = .ret ∧ ∃ ini last, pre = ini ++ [last] ∧ (∀ p ∈ ini, p.2.1 ≠ 2) ∧ last.2.1 = 2 ∧ W.cell? ⟨w.heap.size + 1, 0, none⟩ = some (.int .i64 last.2.2.1)) ∧ Below w.heap.size w W)
    (OwnFrom.and (Own.from (fun s A B row hs hg hr => ⟨hs.1, cell_kept hs.2.1 hg hr, (frozen_kept hs.2.1 hg hr).trans hs.2.2.1, cell_kept hs.2.2.2 hg hr⟩) _) (ownFrom_below (Nat.le_refl _) (Nat.le_refl _)))
    (fun c => OwnFrom.and (Own.from (fun s A B row hs hg hr => by obtain ⟨hc, ini, last, e1, e2, e3, e4⟩ := hs; exact ⟨hc, ini, last, e1, e2, e3, cell_kept e4 hg hr⟩) _) (ownFrom_below (Nat.le_refl _) (by omega)))
    ⟨⟨by simp, bR.cell, bR.frozen, hS0⟩, Below.refl _ _⟩
    (fun x a' W => ∃ Bx, w.heap.size + 1 + 1 < Bx ∧ W.cell? ⟨Bx, 0, none⟩ = some (.int .i64 x.2.1) ∧ W.cell? ⟨Bx, 1, none⟩ = some (.int .i64 x.2.2.1) ∧ a' = { tmps := #[.agg #[.slice a la ca, .slice b len cap, .int .i64 cp], .pointer (some ⟨w.heap.size, 0, none⟩), .pointer (some ⟨w.heap.size + 1, 0, none⟩), undef, .pointer (some ⟨Bx, 0, none⟩), .pointer (some ⟨w.heap.size, 1, none⟩), .slice b len cap, .func (.func 56) #[] #[.pointer (some ⟨w.heap.size + 1 + 1, 0, none⟩)], .int .i64 (x.1 : Int), .agg #[.int .i64 x.2.1, .int .i64 x.2.2.1, .slice x.2.2.2.1 x.2.2.2.2.1 x.2.2.2.2.2], undef, undef, undef, undef, undef, undef, undef, undef], defers := [] })
    (fun x a' _ X Y row hs hg hr => by obtain ⟨Bx, h1, h2, h3, h4⟩ := hs; exact ⟨Bx, h1, cell_kept h2 hg (fun r e => (hr r e).2), cell_kept h3 hg (fun r e => (hr r e).2), h4⟩)
    ?assign ?body ?done ?stop
  case assign =>
    rintro l pre x W K ⟨⟨h1, h2, h3, h4⟩, hB1⟩ hK
    have hsW := hB1.size
    simp only [encGiven]
    gi_wp2
    exact hK _ _ ((KeepsOthers.alloc _ _).from _) ((Below.refl _ W).alloc hsW _) ⟨⟨h1, cell_kept h2 (World.grownBy_alloc W _ none) (fun r e => by cases e), (frozen_kept h2 (World.grownBy_alloc W _ none) (fun r e => by cases e)).trans h3, cell_kept h4 (World.grownBy_alloc W _ none) (fun r e => by cases e)⟩, hB1.alloc hsW _⟩ ⟨W.heap.size, by omega, by simp, by simp, rfl⟩
  case body =>
    rintro l pre x a' W hl ⟨r, hr⟩ ⟨⟨hp, hcr, hfr, hcs⟩, hB1⟩ ⟨Bx, hBx, k0, k1, rfl⟩ hlt
    gi_wp2
    · have hx : x.2.1 = 2 := by first | assumption | exact beq_iff_eq.1 (by assumption)
      exact ⟨(KeepsOthers.setCell _ _ _).from _, ⟨rfl, pre, x, rfl, hp, hx, World.cell?_setCell_same' _ _ _ (by rw [hcr]; rfl)⟩, (on hB0 hB1).setCell (p := ⟨w.heap.size + 1, 0, none⟩) (by show w.heap.size ≤ w.heap.size + 1; omega) _⟩
    · have hx : x.2.1 ≠ 2 := by first | assumption | exact beq_eq_false_iff_ne.1 (by assumption)
      exact ⟨KeepsFrom.refl _ _, Below.refl _ _, ⟨fun p hp' => (List.mem_append.1 hp').elim (hp p) (fun e => by simp at e; subst e; exact hx), hcr, hfr, hcs⟩, hB1⟩
  case done =>
    rintro D ys W hD rfl ⟨⟨hne, hcr, hfr, hcs⟩, hB1⟩ hK
    gi_wp2
    have hK' := (KeepsOthers.setCell W ⟨w.heap.size + 1, 0, none⟩ (.int .i64 la)).same D _ hK rfl
    refine ⟨by simp, .inl ⟨_, _, rfl, run_takeDeferred hK', ?_⟩⟩
    have hc5 := cell_kept (World.cell?_setCell_same' W ⟨w.heap.size + 1, 0, none⟩ (.int .i64 la) (by rw [hcr]; rfl)) (grownBy_putObj' _ D (.deferred none)) (fun r e => by cases e; exact ⟨_, hK', rfl⟩)
    refine ⟨.int .i64 la, ?_, .inl ⟨rfl, fun j hj => hne (j, z j) ?_⟩, ((on hB0 hB1).setCell (p := ⟨w.heap.size + 1, 0, none⟩) (by show w.heap.size ≤ w.heap.size + 1; omega) _).trans (belowK_b (w := w) (Nat.le_refl _) _ D _ _ (by omega) hK' rfl rfl)⟩
    · simp [results, Try.f43, go_sem, hc5]
    · refine List.mem_map.2 ⟨len - 1 - j, List.mem_range.2 (by omega), ?_⟩
      rw [show len - 1 - (len - 1 - j) = j from by omega]
  case stop =>
    rintro D c pre W hD ⟨k, hk, rfl⟩ ⟨⟨rfl, ini, last, e1, e2, e3, hcr⟩, hB⟩ hK
    gi_wp2
    refine ⟨by simp, .inl ⟨_, _, rfl, run_takeDeferred hK, ?_⟩⟩
    have hc5 := cell_kept hcr (grownBy_putObj' _ D (.deferred none)) (fun r e => by cases e; exact ⟨_, hK, rfl⟩)
    rw [backTo_next z len k hk] at e1
    obtain ⟨rfl, e5⟩ := List.append_inj' e1 rfl
    obtain rfl : (k, z k) = last := by simpa using e5
    refine ⟨.int .i64 (z k).2.1, ?_, .inr ⟨k, hk, rfl, e3, fun i hi hil => e2 (i, z i) ?_⟩, hB.trans (belowK_b (w := w) (Nat.le_refl _) W D _ _ (by omega) hK rfl rfl)⟩
    · simp [results, Try.f43, go_sem, hc5]
    · refine List.mem_map.2 ⟨len - 1 - i, List.mem_range.2 (by omega), ?_⟩
      rw [show len - 1 - (len - 1 - i) = i from by omega]

theorem lengthOf_u (w : World) (P : Nat → Prop) (cs : List Value) (s : Host) (hS : rHost.rd w P cs s) (hok : Hst.ok s = true) :
    Calls Try.prog 43 #[.agg cs.toArray] w fun e w' => e = .returned (.int .i64 (Hst.lengthN s : Int)) ∧ Below w.heap.size w w' := by
  obtain ⟨a, n, c, b, m, d, rfl, hA, hW, hn, hm, hc1, hc2, hn2, hm2⟩ := rHost_cells hS
  obtain ⟨-, -, -, -, hacts⟩ := Hst.ok_parts hok
  rw [Hst.lengthN_ok hok]
  obtain ⟨L, W, cp⟩ := s
  simp only at hn hm hc1 hc2 hA hW hacts
  obtain ⟨z, hz, hz2⟩ := lies_of (rWaits.weaken hW (P' := fun b => b < w.heap.size) (fun b _ hl => hl)) hm
  refine callsIn_wide.1 ((lengthOf_in Fence.wide 3 trivial trivial trivial rfl (Nat.le_refl _) w a b n c m d cp z hm2 hz).mono ?_)
  rintro e w' ⟨⟨rfl, h⟩ | ⟨j, hj, rfl, h1, h2⟩, bel⟩
  · rw [Hst.length_none hacts (fun i hi => by rw [← (hz2 i hi).1]; exact h i (by omega)), hn]
    exact ⟨rfl, bel⟩
  · have hj' : j < W.length := by omega
    rw [Hst.length_found hacts j hj' (by rw [← (hz2 j hj').1]; exact h1) (fun i hi hji => by rw [← (hz2 i hi).1]; exact h2 i hji (by omega)), ← (hz2 j hj').2]
    exact ⟨rfl, bel⟩

end Go.Proofs.Ytckcicomkapdeaa
