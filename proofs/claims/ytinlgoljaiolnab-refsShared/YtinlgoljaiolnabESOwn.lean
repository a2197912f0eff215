/-
  Lists of spans that the call appends to: one, or a list. Conditions: those that each lemma names.
-/
import Derived.Test.YtinlgoljaiolnabEOwn
namespace Go.Proofs.Ytinlgoljaiolnab
open Go.RowKit
set_option linter.unusedVariables false

theorem spnCells_length (l : List Spn) : (spnCells l).length = l.length * 2 := by
  induction l with
  | nil => rfl
  | cons x l ih => simp only [spnCells, List.flatMap_cons, List.length_append, List.length_cons] at *; rw [ih]; simp [spn2]; omega

theorem spnCells_append (l m : List Spn) : spnCells (l ++ m) = spnCells l ++ spnCells m := by simp [spnCells]

/-- A list of extents of the call's own. -/
structure OwnS (e : TypeId) (w : World) (base : Nat) (v : Value) (l : List Spn) : Prop where
  row : w.ownsRow base e 2 v l.length (spnCells l)
  fit : ∀ x ∈ l, In2 x

theorem OwnS.nil (e : TypeId) (w : World) (base : Nat) : OwnS e w base (.slice none 0 0) [] := ⟨World.ownsRow_nil w base e 2, fun x hx => by cases hx⟩

theorem OwnS.keep {e : TypeId} {w w' : World} {base : Nat} {v : Value} {l : List Spn} (h : OwnS e w base v l) (hk : ∀ b, base ≤ b → b < w.heap.size → w'.heap[b]? = w.heap[b]?) : OwnS e w' base v l := by
  refine ⟨⟨h.row.1, ?_⟩, h.fit⟩
  rcases h.row.2 with h0 | ⟨g, cap, cur, rfl, g1, g2, g3⟩
  · exact .inl h0
  · exact .inr ⟨g, cap, cur, rfl, g1, by rw [hk g g1 (Array.getElem?_eq_some_iff.1 g2).1]; exact g2, g3⟩

theorem OwnS.below {e : TypeId} {w w' : World} {base : Nat} {v : Value} {l : List Spn} (h : OwnS e w base v l) (k : Below w.heap.size w w') : OwnS e w' base v l := h.keep fun b _ hl => k.block b hl

theorem OwnS.mono {e : TypeId} {w : World} {base base' : Nat} {v : Value} {l : List Spn} (h : OwnS e w base v l) (hb : base' ≤ base) : OwnS e w base' v l := by
  refine ⟨⟨h.row.1, ?_⟩, h.fit⟩
  rcases h.row.2 with h2 | ⟨g, cap, cur, hv, hg, r⟩
  · exact .inl h2
  · exact .inr ⟨g, cap, cur, hv, by omega, r⟩

theorem OwnS.slice {e : TypeId} {w : World} {base : Nat} {v : Value} {l : List Spn} (h : OwnS e w base v l) : ∃ a c, v = .slice a l.length c ∧ l.length ≤ c ∧ (a = none → c = 0) := by
  rcases h.row.2 with ⟨rfl, h0⟩ | ⟨g, cap, cur, rfl, g1, g2, g3, g4, g5, g6⟩
  · exact ⟨none, 0, by rw [h0], by omega, fun _ => rfl⟩
  · exact ⟨_, _, rfl, g3, fun e => by cases e⟩

theorem OwnS.rd {e : TypeId} {w : World} {base : Nat} {a : Option Addr} {n c : Nat} {l : List Spn} (h : OwnS e w base (.slice a n c) l) (hb : l.length ≤ 8796093021952) : rSpns.rd w (fun b => base ≤ b) [.slice a n c] l := by
  obtain ⟨a', c', e1, hr⟩ := rd_owned (A := rSpn) (hs := by decide) h.row (rSpns_all.2 ⟨rfl, h.fit⟩ : rdAll rSpn w (fun b => base ≤ b) _ l) rfl (by show l.length * 16 ≤ _; omega) (fun b e => (h.row.lt b e).1)
  simp only [Value.slice.injEq] at e1
  obtain ⟨rfl, rfl, rfl⟩ := e1
  exact hr

/-- The row of a list that is not empty. -/
theorem OwnS.at {e : TypeId} {w : World} {base : Nat} {a : Option Addr} {n c : Nat} {l : List Spn} (h : OwnS e w base (.slice a n c) l) (hl : 0 < l.length) : ∃ g, a = some ⟨g, 0, none⟩ ∧ base ≤ g ∧ g < w.heap.size ∧ n = l.length ∧
    ∀ (j : Nat) (hj : j < l.length), w.cell? ⟨g, j * 2, none⟩ = some (.int .i64 l[j].1) ∧ w.cell? ⟨g, j * 2 + 1, none⟩ = some (.int .i64 l[j].2) ∧ ∀ k, w.frozen? ⟨g, k, none⟩ = false := by
  rcases h.row.2 with ⟨h1, h0⟩ | ⟨g, cap, cur, e1, g1, g2, g3, g4, g5, g6⟩
  · omega
  · have e2 := e1
    simp only [Value.slice.injEq] at e2
    obtain ⟨rfl, rfl, rfl⟩ := e2
    refine ⟨g, rfl, g1, (Array.getElem?_eq_some_iff.1 g2).1, rfl, fun j hj => ?_⟩
    have hc := h.row.cells (g := g) rfl
    have get : ∀ k u, (spn2 l[j])[k]? = some u → (spnCells l)[j * 2 + k]? = some u := by
      intro k u hu
      obtain ⟨cj, r1, r2⟩ := rdAll_get (w := w) (P := fun _ => True) (rSpns_all.2 ⟨rfl, h.fit⟩ : rdAll rSpn w (fun _ => True) (spnCells l) l) j hj
      obtain ⟨rfl, -⟩ := rSpn_rd.1 r1
      exact r2 k u hu
    have a0 := hc _ _ (get 0 _ rfl)
    have a1 := hc _ _ (get 1 _ rfl)
    rw [Addr.add_lit, Nat.zero_add] at a0 a1
    exact ⟨a0, a1, fun k => by simp [World.frozen?, g2]⟩

theorem spnCells_set : ∀ (l : List Spn) (j : Nat) (hj : j < l.length) (n : Int), (spnCells l).set (j * 2 + 1) (.int .i64 n) = spnCells (l.set j (l[j].1, n))
  | x :: l, 0, _, n => rfl
  | x :: l, j + 1, hj, n => by
    have ih := spnCells_set l j (by simpa using hj) n
    have e : spnCells (x :: l) = spn2 x ++ spnCells l := rfl
    rw [e, show (j + 1) * 2 + 1 = (spn2 x).length + (j * 2 + 1) from by show _ = 2 + _; omega, List.set_append_right _ _ (by omega), Nat.add_sub_cancel_left, ih]
    rfl

/-- One span's length written anew. -/
theorem OwnS.setLen {e : TypeId} {w : World} {base g c : Nat} {l : List Spn} (h : OwnS e w base (.slice (some ⟨g, 0, none⟩) l.length c) l) {j : Nat} (hj : j < l.length) {m : Int} (hm : In64 m) :
    OwnS e (w.setCell ⟨g, j * 2 + 1, none⟩ (.int .i64 m)) base (.slice (some ⟨g, 0, none⟩) l.length c) (l.set j (l[j].1, m)) := by
  have hs := (h.row.stored (j * 2 + 1) (.int .i64 m)).1
  rw [spnCells_set l j hj m] at hs
  refine ⟨by rw [List.length_set]; exact hs, fun x hx => ?_⟩
  rcases List.mem_or_eq_of_mem_set hx with hx | rfl
  · exact h.fit x hx
  · have := h.fit l[j] (List.getElem_mem hj)
    exact ⟨this.1, hm⟩

theorem spnCells_at : ∀ (l : List Spn) (j : Nat) (u : Value), (spnCells l)[j]? = some u → ∃ q, ∃ hq : q < l.length, ∃ r, j = q * 2 + r ∧ (spn2 l[q])[r]? = some u
  | [], j, u, h => by simp [spnCells] at h
  | x :: l, j, u, h => by
    rw [show spnCells (x :: l) = spn2 x ++ spnCells l from List.flatMap_cons] at h
    by_cases hj : j < 2
    · rw [List.getElem?_append_left (show j < 2 from hj)] at h
      exact ⟨0, by simp, j, by omega, h⟩
    · rw [List.getElem?_append_right (show 2 ≤ j by omega)] at h
      obtain ⟨q, hq, r, e, k⟩ := spnCells_at l (j - 2) u h
      exact ⟨q + 1, by simpa using hq, r, by omega, by simpa using k⟩

theorem rSpns_cells {w : World} {P : Nat → Prop} {ad : Addr} {n c : Nat} {l : List Spn} (h : rSpns.rd w P [.slice (some ad) n c] l) (hn : 0 < n) : ∀ j u, (spnCells l)[j]? = some u → w.cell? (ad.add j) = some u := by
  obtain ⟨b, off, e, -, -, hat⟩ := rSpns_at h hn
  simp only [Option.some.injEq] at e
  subst e
  intro j u hj
  obtain ⟨q, hq, r, rfl, k⟩ := spnCells_at l j u hj
  obtain ⟨c0, c1, -⟩ := hat q hq
  rw [Addr.add_lit, ← Nat.add_assoc]
  match r, k with
  | 0, k => simp only [spn2, List.getElem?_cons_zero, Option.some.injEq] at k; rw [← k]; exact c0
  | 1, k => simp only [spn2, List.getElem?_cons_succ, List.getElem?_cons_zero, Option.some.injEq] at k; rw [← k]; exact c1
  | r + 2, k => simp [spn2] at k

theorem rSpns_in {w : World} {P : Nat → Prop} {a : Option Addr} {n c : Nat} {l : List Spn} (h : rSpns.rd w P [.slice a n c] l) : ∀ x ∈ l, In2 x := by
  intro x hx
  obtain ⟨j, hj, rfl⟩ := List.mem_iff_getElem.1 hx
  obtain ⟨hl, -⟩ := rList_len h
  obtain ⟨b, off, -, -, -, hat⟩ := rSpns_at h (by omega)
  exact (hat j hj).2.2

theorem OwnS.app {e : TypeId} {w : World} {base : Nat} {v : Value} {l m : List Spn} (h : w.ownsRow base e 2 v (l.length + m.length) (spnCells l ++ spnCells m)) (hl : ∀ y ∈ l, In2 y) (hm : ∀ y ∈ m, In2 y) : OwnS e w base v (l ++ m) := by
  refine ⟨?_, fun y hy => ?_⟩
  · rw [spnCells_append, List.length_append]
    exact h
  · rcases List.mem_append.1 hy with hy | hy
    · exact hl y hy
    · exact hm y hy

/-- A list of one span, new. -/
theorem OwnS.lit (e : TypeId) (w : World) (base : Nat) (hb : base ≤ w.heap.size) (x : Spn) (hx : In2 x) :
    OwnS e (w.alloc (.cells #[.int .i64 x.1, .int .i64 x.2] e)) base (.slice (some ⟨w.heap.size, 0, none⟩) 1 1) [x] :=
  ⟨⟨rfl, .inr ⟨w.heap.size, 1, _, rfl, hb, heap_alloc_new w _, Nat.le_refl 1, by decide, rfl, rfl⟩⟩, fun y hy => by rw [List.mem_singleton.1 hy]; exact hx⟩

theorem OwnS.base_below {e : TypeId} {w w' : World} {base : Nat} {v v' : Value} {l : List Spn} (h : OwnS e w base v l) (hb : base ≤ w.heap.size) (g : Grew w w' v v') : Below base w w' :=
  (Below.refl base w).grown g.grown hb (fun k hk => (h.row.lt k hk).1)

/-- A front part, and the rest, of a list of spans. -/
theorem rSpns_front {w : World} {P : Nat → Prop} {a : Option Addr} {n c : Nat} {l : List Spn} (h : rSpns.rd w P [.slice a n c] l) {k : Nat} (hk : k ≤ n) : rSpns.rd w P [.slice a k c] (l.take k) := by
  obtain ⟨a', n', c', e, h1, h2, h3, h4, h5⟩ := h
  simp only [List.cons.injEq, Value.slice.injEq, and_true] at e
  obtain ⟨rfl, rfl, rfl⟩ := e
  refine ⟨a, k, c, rfl, by rw [List.length_take]; omega, by omega, h3, by have : n * 16 ≤ 140737488351232 := h4; show k * 16 ≤ _; omega, fun x hx j hj => ?_⟩
  have hj' : j < l.length := by rw [List.length_take] at hj; omega
  have := h5 x hx j hj'
  rw [List.getElem_take]
  exact this

theorem rSpns_rest {w : World} {P : Nat → Prop} {b off n c : Nat} {l : List Spn} (h : rSpns.rd w P [.slice (some ⟨b, off, none⟩) n c] l) {k : Nat} (hk : k ≤ n) : rSpns.rd w P [.slice (some ⟨b, off + k * 2, none⟩) (n - k) (c - k)] (l.drop k) := by
  obtain ⟨a', n', c', e, h1, h2, h3, h4, h5⟩ := h
  simp only [List.cons.injEq, Value.slice.injEq, and_true] at e
  obtain ⟨rfl, rfl, rfl⟩ := e
  refine ⟨_, _, _, rfl, by rw [List.length_drop, h1], by omega, (fun e => by cases e), by have : n * 16 ≤ 140737488351232 := h4; show (n - k) * 16 ≤ _; omega, fun x hx j hj => ?_⟩
  simp only [Option.some.injEq] at hx
  subst hx
  have hj' : k + j < l.length := by rw [List.length_drop] at hj; omega
  obtain ⟨hp, cj, g1, g2⟩ := h5 ⟨b, off, none⟩ rfl (k + j) hj'
  refine ⟨hp, cj, by rw [List.getElem_drop]; exact g1, fun r v hv => ?_⟩
  have := g2 r v hv
  rw [Addr.add_lit] at this ⊢
  rw [show off + k * 2 + (j * rSpn.size + r) = off + ((k + j) * rSpn.size + r) from by rw [show rSpn.size = 2 from rfl]; omega]
  exact this

end Go.Proofs.Ytinlgoljaiolnab
