/-
  Variables of three cells; hosts and acts that may be. It imports no program. Conditions: those that each lemma names.
-/
import Derived.Test.YtckcicomkapdeaaHSpec
import Derived.Test.YtckcicomkapdeaaROwn
import Derived.Deep.RegionWith
import Derived.Deep.DeepCutAuto
namespace Go.Proofs.Ytckcicomkapdeaa
open Go.RowKit
set_option linter.unusedVariables false

theorem boxed3 (w : World) (T : TypeId) (u v x : Value) : ∃ w0, w.alloc (.cells #[u, v, x] T) = w0 ∧ w0.cell? ⟨w.heap.size, 0, none⟩ = some u ∧ w0.cell? ⟨w.heap.size, 1, none⟩ = some v ∧ w0.cell? ⟨w.heap.size, 2, none⟩ = some x ∧
    Below w.heap.size w w0 ∧ w0.heap.size = w.heap.size + 1 := by
  refine ⟨_, rfl, ?_, ?_, ?_, (Below.refl _ _).alloc (Nat.le_refl _) _, by simp⟩ <;> simp

theorem check_no {L : List (List UInt8)} {W : List Act} {cp : Int} (h : Hst.ok (L, W, cp) = false) : Hst.checkE (L, W, cp) = 9 := by simp [Hst.checkE, h]
theorem check_yes {L : List (List UInt8)} {W : List Act} {cp : Int} (h : Hst.ok (L, W, cp) = true) : Hst.checkE (L, W, cp) = 0 := by simp [Hst.checkE, h]

theorem ok_iff {L : List (List UInt8)} {W : List Act} {cp : Int} : Hst.ok (L, W, cp) = true ↔ (1 ≤ cp ∧ cp ≤ 65536 ∧ (L.length : Int) ≤ cp ∧ W.length ≤ 4096) ∧ (∀ j (h : j < L.length), L[j].length = 64) ∧ ∀ j (h : j < W.length), Hst.actOk cp W[j] = true := by
  simp only [Hst.ok, Hst.headOk, Bool.and_eq_true, decide_eq_true_eq, List.all_eq_true]
  constructor
  · rintro ⟨⟨⟨⟨⟨h1, h2⟩, h3⟩, h4⟩, h5⟩, h6⟩
    exact ⟨⟨h1, h2, h3, h4⟩, fun j h => h5 _ (List.getElem_mem h), fun j h => h6 _ (List.getElem_mem h)⟩
  · rintro ⟨⟨h1, h2, h3, h4⟩, h5, h6⟩
    refine ⟨⟨⟨⟨⟨h1, h2⟩, h3⟩, h4⟩, fun x hx => ?_⟩, fun x hx => ?_⟩
    · obtain ⟨j, h, rfl⟩ := List.getElem_of_mem hx; exact h5 j h
    · obtain ⟨j, h, rfl⟩ := List.getElem_of_mem hx; exact h6 j h

theorem ok_not {L : List (List UInt8)} {W : List Act} {cp : Int} (h : ¬ ((1 ≤ cp ∧ cp ≤ 65536 ∧ (L.length : Int) ≤ cp ∧ W.length ≤ 4096) ∧ (∀ j (h : j < L.length), L[j].length = 64) ∧ ∀ j (h : j < W.length), Hst.actOk cp W[j] = true)) : Hst.checkE (L, W, cp) = 9 :=
  check_no (Bool.eq_false_iff.2 (fun e => h (ok_iff.1 e)))

theorem act_iff (cp : Int) (a : Act) : Hst.actOk cp a = true ↔ (a.1 = 1 ∧ 0 ≤ a.2.1 ∧ a.2.1 < cp ∧ a.2.2.length = 64) ∨ (a.1 = 2 ∧ 0 ≤ a.2.1 ∧ a.2.1 ≤ cp ∧ a.2.2.length = 0) := by
  simp only [Hst.actOk, Hst.isWrite, Hst.isLen, Bool.or_eq_true, Bool.and_eq_true, decide_eq_true_eq, and_assoc]

theorem act_next {cp : Int} {W : List Act} {j : Nat} (hj : j < W.length) (h : Hid (∀ i (h : i < W.length), i < j → Hst.actOk cp W[i] = true)) (ha : Hst.actOk cp W[j] = true) : Hid (∀ i (h : i < W.length), i < j + 1 → Hst.actOk cp W[i] = true) := by
  intro i hi hij
  by_cases e : i = j
  · subst e; exact ha
  · exact h.out i hi (by omega)

theorem Var3.set2 {w : World} {v : Nat} {x y z : Value} (h : Var3 w v x y z) (u : Value) : Var3 (w.setCell ⟨v, 2, none⟩ u) v x y u :=
  ⟨by rw [World.cell?_setCell_other _ _ _ _ (by simp)]; exact h.c0, by rw [World.cell?_setCell_other _ _ _ _ (by simp)]; exact h.c1, World.cell?_setCell_same _ _ _ h.c2, fun k => by rw [World.frozen?_setCell]; exact h.f k⟩

/-- A result of three cells that lies in a variable of its own. -/
theorem results_var3 {Pr : Program} {fn : Func} {p : Tmp} {ty : TypeId} {tmps : Array Value} {w : World} {b : Nat} {x y z : Value} {d : TypeDesc} (h : fn.results = #[.cell p ty]) (hp : tmps.getD p undef = .pointer (some ⟨b, 0, none⟩))
    (V : Var3 w b x y z) (hu : Pr.underlying ty = some d) (hd : d.isRow = true) (hi : (Pr.info? ty).map (·.size) = some 3) : (results fn tmps).run Pr w = .ok (.agg #[x, y, z]) w := by
  have hp' : tmps[p]?.getD undef = .pointer (some ⟨b, 0, none⟩) := by simpa using hp
  have hr : w.rangeAt b 0 [x, y, z] := by
    intro j v hv
    rw [Nat.zero_add]
    match j, hv with
    | 0, hv => simp at hv; subst hv; exact V.c0
    | 1, hv => simp at hv; subst hv; exact V.c1
    | 2, hv => simp at hv; subst hv; exact V.c2
  simp [results, h, hp', asAddr, run_loadVar_mid w b 0 ty [x, y, z] d hr hu hd hi]

theorem cell_three_new (w : World) (x y z : Value) (t : TypeId) : ∀ j u, [x, y, z][j]? = some u → (w.alloc (.cells #[x, y, z] t)).cell? ((⟨w.heap.size, 0, none⟩ : Addr).add j) = some u := by
  intro j u hj
  rw [Addr.add_lit, Nat.zero_add]
  match j, hj with
  | 0, hj => simp at hj; subst hj; simp
  | 1, hj => simp at hj; subst hj; simp
  | 2, hj => simp at hj; subst hj; simp

theorem act_rd {w : World} {P : Nat → Prop} {what pos : Int} {x : Value} {X : List UInt8} (h0 : -9223372036854775808 ≤ what ∧ what ≤ 9223372036854775807) (h1 : -9223372036854775808 ≤ pos ∧ pos ≤ 9223372036854775807) (h : rBytes.rd w P [x] X) :
    rAct.rd w P [.int .i64 what, .int .i64 pos, x] (what, pos, X) := ⟨[_], [_, _], rfl, ⟨rfl, h0⟩, [_], [_], rfl, ⟨rfl, h1⟩, h⟩

theorem seen4_keep {w w' : World} {b g o1 o2 o3 o4 : Nat} {v1 v2 v3 v4 : Value} (h : w.cell? ⟨b, o1, none⟩ = some v1 ∧ w.cell? ⟨g, o2, none⟩ = some v2 ∧ w.cell? ⟨g, o3, none⟩ = some v3 ∧ w.cell? ⟨g, o4, none⟩ = some v4) (hb : w'.heap[b]? = w.heap[b]?) (hg : w'.heap[g]? = w.heap[g]?) :
    w'.cell? ⟨b, o1, none⟩ = some v1 ∧ w'.cell? ⟨g, o2, none⟩ = some v2 ∧ w'.cell? ⟨g, o3, none⟩ = some v3 ∧ w'.cell? ⟨g, o4, none⟩ = some v4 := by
  rw [World.cell?_of_block (w := w) (w' := w') (a := ⟨b, o1, none⟩) hb, World.cell?_of_block (w := w) (w' := w') (a := ⟨g, o2, none⟩) hg, World.cell?_of_block (w := w) (w' := w') (a := ⟨g, o3, none⟩) hg, World.cell?_of_block (w := w) (w' := w') (a := ⟨g, o4, none⟩) hg]
  exact h

theorem seen4_alloc {w : World} {b g o1 o2 o3 o4 : Nat} {v1 v2 v3 v4 : Value} (h : w.cell? ⟨b, o1, none⟩ = some v1 ∧ w.cell? ⟨g, o2, none⟩ = some v2 ∧ w.cell? ⟨g, o3, none⟩ = some v3 ∧ w.cell? ⟨g, o4, none⟩ = some v4) (o : Obj) :
    (w.alloc o).cell? ⟨b, o1, none⟩ = some v1 ∧ (w.alloc o).cell? ⟨g, o2, none⟩ = some v2 ∧ (w.alloc o).cell? ⟨g, o3, none⟩ = some v3 ∧ (w.alloc o).cell? ⟨g, o4, none⟩ = some v4 :=
  seen4_keep h (Below.heap_alloc _ _ _ (World.block_lt_of_cell? w _ h.1)) (Below.heap_alloc _ _ _ (World.block_lt_of_cell? w _ h.2.1))

theorem seen4_grown {w w' : World} {row : Option Nat} {b g o1 o2 o3 o4 : Nat} {v1 v2 v3 v4 : Value} (h : w.cell? ⟨b, o1, none⟩ = some v1 ∧ w.cell? ⟨g, o2, none⟩ = some v2 ∧ w.cell? ⟨g, o3, none⟩ = some v3 ∧ w.cell? ⟨g, o4, none⟩ = some v4) (hg : w.grownBy w' row) (h1 : row ≠ some b) (h2 : row ≠ some g) :
    w'.cell? ⟨b, o1, none⟩ = some v1 ∧ w'.cell? ⟨g, o2, none⟩ = some v2 ∧ w'.cell? ⟨g, o3, none⟩ = some v3 ∧ w'.cell? ⟨g, o4, none⟩ = some v4 :=
  seen4_keep h (hg.block b (World.block_lt_of_cell? w _ h.1) (fun e => h1 e.symm)) (hg.block g (World.block_lt_of_cell? w _ h.2.1) (fun e => h2 e.symm))

theorem seen4_set {w : World} {b g o1 o2 o3 o4 : Nat} {v1 v2 v3 v4 : Value} (h : w.cell? ⟨b, o1, none⟩ = some v1 ∧ w.cell? ⟨g, o2, none⟩ = some v2 ∧ w.cell? ⟨g, o3, none⟩ = some v3 ∧ w.cell? ⟨g, o4, none⟩ = some v4) {p : Addr} (h1 : ¬ p.block = b) (h2 : ¬ p.block = g) (u : Value) :
    (w.setCell p u).cell? ⟨b, o1, none⟩ = some v1 ∧ (w.setCell p u).cell? ⟨g, o2, none⟩ = some v2 ∧ (w.setCell p u).cell? ⟨g, o3, none⟩ = some v3 ∧ (w.setCell p u).cell? ⟨g, o4, none⟩ = some v4 :=
  seen4_keep h (Below.heap_setCell _ _ _ _ (fun e => h1 e.symm)) (Below.heap_setCell _ _ _ _ (fun e => h2 e.symm))

end Go.Proofs.Ytckcicomkapdeaa
