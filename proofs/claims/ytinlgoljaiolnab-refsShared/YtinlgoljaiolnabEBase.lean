/-
  Extents and spans in cells: read, owned, written. It imports no program. Conditions: those that each lemma names.
-/
import Derived.Test.YtinlgoljaiolnabELaws
import Derived.Test.YtinlgoljaiolnabHSpec
import Derived.Test.YtinlgoljaiolnabRRow
namespace Go.Proofs.Ytinlgoljaiolnab
open Go.RowKit
set_option linter.unusedVariables false

def In64 (n : Int) : Prop := -9223372036854775808 ≤ n ∧ n ≤ 9223372036854775807
def In3 (x : Ext) : Prop := In64 x.1 ∧ In64 x.2.1 ∧ In64 x.2.2
def In2 (x : Spn) : Prop := In64 x.1 ∧ In64 x.2

def ext3 (x : Ext) : List Value := [.int .i64 x.1, .int .i64 x.2.1, .int .i64 x.2.2]
def spn2 (x : Spn) : List Value := [.int .i64 x.1, .int .i64 x.2]
def extCells (l : List Ext) : List Value := l.flatMap ext3
def spnCells (l : List Spn) : List Value := l.flatMap spn2

theorem rExt_rd {w : World} {P : Nat → Prop} {cs : List Value} {x : Ext} : rExt.rd w P cs x ↔ cs = ext3 x ∧ In3 x := by
  constructor
  · rintro ⟨_, _, rfl, ⟨rfl, h1⟩, _, _, rfl, ⟨rfl, h2⟩, rfl, h3⟩
    exact ⟨rfl, h1, h2, h3⟩
  · rintro ⟨rfl, h1, h2, h3⟩
    exact ⟨[_], [_, _], rfl, ⟨rfl, h1⟩, [_], [_], rfl, ⟨rfl, h2⟩, rfl, h3⟩

theorem rSpn_rd {w : World} {P : Nat → Prop} {cs : List Value} {x : Spn} : rSpn.rd w P cs x ↔ cs = spn2 x ∧ In2 x := by
  constructor
  · rintro ⟨_, _, rfl, ⟨rfl, h1⟩, rfl, h2⟩
    exact ⟨rfl, h1, h2⟩
  · rintro ⟨rfl, h1, h2⟩
    exact ⟨[_], [_], rfl, ⟨rfl, h1⟩, rfl, h2⟩

theorem rExts_all {w : World} {P : Nat → Prop} : ∀ {l : List Ext} {xs : List Value}, rdAll rExt w P xs l ↔ xs = extCells l ∧ ∀ x ∈ l, In3 x
  | [], xs => ⟨fun h => ⟨h, fun x hx => by cases hx⟩, fun h => h.1⟩
  | y :: l, xs => by
    constructor
    · rintro ⟨c, r, rfl, h1, h2⟩
      obtain ⟨rfl, k1⟩ := rExt_rd.1 h1
      obtain ⟨rfl, k2⟩ := rExts_all.1 h2
      exact ⟨rfl, fun x hx => (List.mem_cons.1 hx).elim (fun e => e ▸ k1) (fun hx => k2 x hx)⟩
    · rintro ⟨rfl, h⟩
      exact ⟨ext3 y, extCells l, rfl, rExt_rd.2 ⟨rfl, h y (by simp)⟩, rExts_all.2 ⟨rfl, fun x hx => h x (by simp [hx])⟩⟩

theorem rSpns_all {w : World} {P : Nat → Prop} : ∀ {l : List Spn} {xs : List Value}, rdAll rSpn w P xs l ↔ xs = spnCells l ∧ ∀ x ∈ l, In2 x
  | [], xs => ⟨fun h => ⟨h, fun x hx => by cases hx⟩, fun h => h.1⟩
  | y :: l, xs => by
    constructor
    · rintro ⟨c, r, rfl, h1, h2⟩
      obtain ⟨rfl, k1⟩ := rSpn_rd.1 h1
      obtain ⟨rfl, k2⟩ := rSpns_all.1 h2
      exact ⟨rfl, fun x hx => (List.mem_cons.1 hx).elim (fun e => e ▸ k1) (fun hx => k2 x hx)⟩
    · rintro ⟨rfl, h⟩
      exact ⟨spn2 y, spnCells l, rfl, rSpn_rd.2 ⟨rfl, h y (by simp)⟩, rSpns_all.2 ⟨rfl, fun x hx => h x (by simp [hx])⟩⟩

theorem rExts_at {w : World} {P : Nat → Prop} {a : Option Addr} {n c : Nat} {l : List Ext} (h : rExts.rd w P [.slice a n c] l) (hn : 0 < n) :
    ∃ b off, a = some ⟨b, off, none⟩ ∧ P b ∧ b < w.heap.size ∧ ∀ (j : Nat) (hj : j < l.length),
      w.cell? ⟨b, off + j * 3, none⟩ = some (.int .i64 l[j].1) ∧ w.cell? ⟨b, off + j * 3 + 1, none⟩ = some (.int .i64 l[j].2.1) ∧ w.cell? ⟨b, off + j * 3 + 2, none⟩ = some (.int .i64 l[j].2.2) ∧ In3 l[j] := by
  obtain ⟨b, off, e1, e2, e3, e4⟩ := rList_at h hn
  refine ⟨b, off, e1, e2, e3, fun j hj => ?_⟩
  obtain ⟨cj, g1, g2⟩ := e4 j hj
  obtain ⟨rfl, k⟩ := rExt_rd.1 g1
  have g0 := g2 0 _ rfl
  have g1 := g2 1 _ rfl
  have g3 := g2 2 _ rfl
  rw [show rExt.size = 3 from rfl] at g0 g1 g3
  rw [Nat.add_zero] at g0
  rw [← Nat.add_assoc] at g1 g3
  exact ⟨g0, g1, g3, k⟩

theorem rSpns_at {w : World} {P : Nat → Prop} {a : Option Addr} {n c : Nat} {l : List Spn} (h : rSpns.rd w P [.slice a n c] l) (hn : 0 < n) :
    ∃ b off, a = some ⟨b, off, none⟩ ∧ P b ∧ b < w.heap.size ∧ ∀ (j : Nat) (hj : j < l.length),
      w.cell? ⟨b, off + j * 2, none⟩ = some (.int .i64 l[j].1) ∧ w.cell? ⟨b, off + j * 2 + 1, none⟩ = some (.int .i64 l[j].2) ∧ In2 l[j] := by
  obtain ⟨b, off, e1, e2, e3, e4⟩ := rList_at h hn
  refine ⟨b, off, e1, e2, e3, fun j hj => ?_⟩
  obtain ⟨cj, g1, g2⟩ := e4 j hj
  obtain ⟨rfl, k⟩ := rSpn_rd.1 g1
  have g0 := g2 0 _ rfl
  have g1 := g2 1 _ rfl
  rw [show rSpn.size = 2 from rfl] at g0 g1
  rw [Nat.add_zero] at g0
  rw [← Nat.add_assoc] at g1
  exact ⟨g0, g1, k⟩

theorem rList_len {α : Type} {A : Rep α} {hs : 0 < A.size} {w : World} {P : Nat → Prop} {a : Option Addr} {n c : Nat} {l : List α} (h : (rList A hs).rd w P [.slice a n c] l) : l.length = n ∧ n ≤ c ∧ (a = none → c = 0) ∧ n * A.bytes ≤ 140737488351232 := by
  obtain ⟨a', n', c', e, h1, h2, h3, h4, -⟩ := h
  simp only [List.cons.injEq, Value.slice.injEq, and_true] at e
  obtain ⟨rfl, rfl, rfl⟩ := e
  exact ⟨h1, h2, h3, h4⟩

/-- All numbers of a list that came in fit. -/
theorem rExts_in {w : World} {P : Nat → Prop} {a : Option Addr} {n c : Nat} {l : List Ext} (h : rExts.rd w P [.slice a n c] l) : ∀ x ∈ l, In3 x := by
  intro x hx
  obtain ⟨j, hj, rfl⟩ := List.mem_iff_getElem.1 hx
  obtain ⟨b, off, -, -, -, e4⟩ := rExts_at h (by have := (rList_len h).1; omega)
  exact (e4 j hj).2.2.2

theorem extCells_length (l : List Ext) : (extCells l).length = l.length * 3 := by
  induction l with
  | nil => rfl
  | cons x l ih => simp only [extCells, List.flatMap_cons, List.length_append, List.length_cons] at *; rw [ih]; simp [ext3]; omega

theorem extCells_append (l m : List Ext) : extCells (l ++ m) = extCells l ++ extCells m := by simp [extCells]

/-- A list of extents of the call's own. -/
structure OwnE (e : TypeId) (w : World) (base : Nat) (v : Value) (l : List Ext) : Prop where
  row : w.ownsRow base e 3 v l.length (extCells l)
  fit : ∀ x ∈ l, In3 x

theorem OwnE.nil (e : TypeId) (w : World) (base : Nat) : OwnE e w base (.slice none 0 0) [] := ⟨World.ownsRow_nil w base e 3, fun x hx => by cases hx⟩

theorem OwnE.keep {e : TypeId} {w w' : World} {base : Nat} {v : Value} {l : List Ext} (h : OwnE e w base v l) (hk : ∀ b, base ≤ b → b < w.heap.size → w'.heap[b]? = w.heap[b]?) : OwnE e w' base v l := by
  refine ⟨⟨h.row.1, ?_⟩, h.fit⟩
  rcases h.row.2 with h0 | ⟨g, cap, cur, rfl, g1, g2, g3⟩
  · exact .inl h0
  · exact .inr ⟨g, cap, cur, rfl, g1, by rw [hk g g1 (Array.getElem?_eq_some_iff.1 g2).1]; exact g2, g3⟩

theorem OwnE.below {e : TypeId} {w w' : World} {base : Nat} {v : Value} {l : List Ext} (h : OwnE e w base v l) (k : Below w.heap.size w w') : OwnE e w' base v l := h.keep fun b _ hl => k.block b hl

theorem OwnE.mono {e : TypeId} {w : World} {base base' : Nat} {v : Value} {l : List Ext} (h : OwnE e w base v l) (hb : base' ≤ base) : OwnE e w base' v l := by
  refine ⟨⟨h.row.1, ?_⟩, h.fit⟩
  rcases h.row.2 with h2 | ⟨g, cap, cur, hv, hg, r⟩
  · exact .inl h2
  · exact .inr ⟨g, cap, cur, hv, by omega, r⟩

theorem OwnE.slice {e : TypeId} {w : World} {base : Nat} {v : Value} {l : List Ext} (h : OwnE e w base v l) : ∃ a c, v = .slice a l.length c ∧ l.length ≤ c ∧ (a = none → c = 0) := by
  rcases h.row.2 with ⟨rfl, h0⟩ | ⟨g, cap, cur, rfl, g1, g2, g3, g4, g5, g6⟩
  · exact ⟨none, 0, by rw [h0], by omega, fun _ => rfl⟩
  · exact ⟨_, _, rfl, g3, fun e => by cases e⟩

theorem OwnE.rd {e : TypeId} {w : World} {base : Nat} {a : Option Addr} {n c : Nat} {l : List Ext} (h : OwnE e w base (.slice a n c) l) (hb : l.length ≤ 5864062014634) : rExts.rd w (fun b => base ≤ b) [.slice a n c] l := by
  obtain ⟨a', c', e1, hr⟩ := rd_owned (A := rExt) (hs := by decide) h.row (rExts_all.2 ⟨rfl, h.fit⟩ : rdAll rExt w (fun b => base ≤ b) _ l) rfl (by show l.length * 24 ≤ _; omega) (fun b e => (h.row.lt b e).1)
  simp only [Value.slice.injEq] at e1
  obtain ⟨rfl, rfl, rfl⟩ := e1
  exact hr

/-- The row of a list that is not empty. -/
theorem OwnE.at {e : TypeId} {w : World} {base : Nat} {a : Option Addr} {n c : Nat} {l : List Ext} (h : OwnE e w base (.slice a n c) l) (hl : 0 < l.length) : ∃ g, a = some ⟨g, 0, none⟩ ∧ base ≤ g ∧ g < w.heap.size ∧ n = l.length ∧
    ∀ (j : Nat) (hj : j < l.length), w.cell? ⟨g, j * 3, none⟩ = some (.int .i64 l[j].1) ∧ w.cell? ⟨g, j * 3 + 1, none⟩ = some (.int .i64 l[j].2.1) ∧ w.cell? ⟨g, j * 3 + 2, none⟩ = some (.int .i64 l[j].2.2) ∧ ∀ k, w.frozen? ⟨g, k, none⟩ = false := by
  rcases h.row.2 with ⟨h1, h0⟩ | ⟨g, cap, cur, e1, g1, g2, g3, g4, g5, g6⟩
  · omega
  · have e2 := e1
    simp only [Value.slice.injEq] at e2
    obtain ⟨rfl, rfl, rfl⟩ := e2
    refine ⟨g, rfl, g1, (Array.getElem?_eq_some_iff.1 g2).1, rfl, fun j hj => ?_⟩
    have hc := h.row.cells (g := g) rfl
    have get : ∀ k u, (ext3 l[j])[k]? = some u → (extCells l)[j * 3 + k]? = some u := by
      intro k u hu
      obtain ⟨cj, r1, r2⟩ := rdAll_get (w := w) (P := fun _ => True) (rExts_all.2 ⟨rfl, h.fit⟩ : rdAll rExt w (fun _ => True) (extCells l) l) j hj
      obtain ⟨rfl, -⟩ := rExt_rd.1 r1
      exact r2 k u hu
    have a0 := hc _ _ (get 0 _ rfl)
    have a1 := hc _ _ (get 1 _ rfl)
    have a2 := hc _ _ (get 2 _ rfl)
    rw [Addr.add_lit, Nat.zero_add] at a0 a1 a2
    exact ⟨a0, a1, a2, fun k => by simp [World.frozen?, g2]⟩

theorem extCells_set : ∀ (l : List Ext) (j : Nat) (hj : j < l.length) (n : Int), (extCells l).set (j * 3 + 2) (.int .i64 n) = extCells (l.set j (l[j].1, l[j].2.1, n))
  | x :: l, 0, _, n => rfl
  | x :: l, j + 1, hj, n => by
    have ih := extCells_set l j (by simpa using hj) n
    have e : extCells (x :: l) = ext3 x ++ extCells l := rfl
    rw [e, show (j + 1) * 3 + 2 = (ext3 x).length + (j * 3 + 2) from by show _ = 3 + _; omega, List.set_append_right _ _ (by omega), Nat.add_sub_cancel_left, ih]
    rfl

/-- One extent's length written anew. -/
theorem OwnE.setLen {e : TypeId} {w : World} {base g c : Nat} {l : List Ext} (h : OwnE e w base (.slice (some ⟨g, 0, none⟩) l.length c) l) {j : Nat} (hj : j < l.length) {m : Int} (hm : In64 m) :
    OwnE e (w.setCell ⟨g, j * 3 + 2, none⟩ (.int .i64 m)) base (.slice (some ⟨g, 0, none⟩) l.length c) (l.set j (l[j].1, l[j].2.1, m)) := by
  have hs := (h.row.stored (j * 3 + 2) (.int .i64 m)).1
  rw [extCells_set l j hj m] at hs
  refine ⟨by rw [List.length_set]; exact hs, fun x hx => ?_⟩
  rcases List.mem_or_eq_of_mem_set hx with hx | rfl
  · exact h.fit x hx
  · have := h.fit l[j] (List.getElem_mem hj)
    exact ⟨this.1, this.2.1, hm⟩

/-- One extent appended. -/
theorem OwnE.push {e : TypeId} {w : World} {base : Nat} {v : Value} {l : List Ext} {x : Ext} (h : w.ownsRow base e 3 v (l.length + 1) (extCells l ++ ext3 x)) (hl : ∀ y ∈ l, In3 y) (hx : In3 x) : OwnE e w base v (l ++ [x]) := by
  refine ⟨?_, fun y hy => ?_⟩
  · rw [extCells_append, List.length_append]
    simpa [extCells] using h
  · rcases List.mem_append.1 hy with hy | hy
    · exact hl y hy
    · simp only [List.mem_singleton] at hy
      subst hy
      exact hx

end Go.Proofs.Ytinlgoljaiolnab
