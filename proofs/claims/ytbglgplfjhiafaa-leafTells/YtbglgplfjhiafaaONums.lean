/-
  Slices of integers in memory. Conditions: those that each names.
-/
import Derived.Test.YtbglgplfjhiafaaBytes
namespace Go.Proofs.Ytbglgplfjhiafaa
open Go.RowKit
set_option linter.unusedVariables false

/-- A slice of integers reads as l. -/
def IsN (k : IntKind) (w : World) (a : Option Addr) (n : Nat) (l : List Int) : Prop :=
  l.length = n ∧ (a = none → n = 0) ∧ ∀ x, a = some x → ∀ j (h : j < l.length), w.cell? (x.add j) = some (.int k l[j])

theorem IsN.place {k : IntKind} {w : World} {a : Option Addr} {n : Nat} {l : List Int} (h : IsN k w a n l) (hn : 0 < n) :
    ∃ b off, a = some ⟨b, off, none⟩ ∧ b < w.heap.size ∧ ∀ j (hj : j < l.length), w.cell? ⟨b, off + j, none⟩ = some (.int k l[j]) := by
  obtain ⟨h1, h2, h3⟩ := h
  cases a with
  | none => have := h2 rfl; omega
  | some x =>
    obtain ⟨b, off, spot⟩ := x
    have hc := h3 _ rfl 0 (by omega)
    have hspot : spot = none := by simpa [Addr.add] using World.cell?_spot hc
    subst hspot
    refine ⟨b, off, rfl, ?_, fun j hj => by rw [← Addr.add_lit]; exact h3 _ rfl j hj⟩
    have := World.block_lt_of_cell? _ _ hc
    simpa [Addr.add] using this

theorem IsN.below {k : IntKind} {w w1 : World} {a : Option Addr} {n : Nat} {l : List Int} (h : IsN k w a n l) (hb : Below w.heap.size w w1) : IsN k w1 a n l := by
  refine ⟨h.1, h.2.1, fun x hx j hj => ?_⟩
  have hc := h.2.2 x hx j hj
  rw [hb.cell (World.block_lt_of_cell? _ _ hc)]
  exact hc

theorem isN_cells {k : IntKind} {w : World} {x : Addr} {n : Nat} {l : List Int} (h : IsN k w (some x) n l) : ∀ j u, (l.map (Value.int k))[j]? = some u → w.cell? (x.add j) = some u := by
  intro j u hj
  have hlt : j < l.length := by have := (List.getElem?_eq_some_iff.1 hj).1; simpa using this
  have := h.2.2 x rfl j hlt
  rw [this]
  simp [List.getElem?_eq_getElem hlt] at hj
  rw [← hj]

/-- Numbers that are owned, as a slice. -/
theorem owns_ints {k : IntKind} {e : TypeId} {w : World} {base n : Nat} {v : Value} {l : List Int} (h : w.ownsRow base e 1 v n (l.map (Value.int k))) :
    ∃ a c, v = .slice a n c ∧ n ≤ c ∧ n = l.length ∧ (a = none → c = 0) ∧ IsN k w a n l := by
  have hl : l.length = n := by have := h.1; simpa using this
  rcases h.2 with ⟨rfl, rfl⟩ | ⟨g, cap, cur, rfl, _, _, hc, _⟩
  · have : l = [] := List.length_eq_zero_iff.1 hl
    subst this
    exact ⟨none, 0, rfl, Nat.le_refl _, rfl, fun _ => rfl, rfl, fun _ => rfl, fun _ e => by cases e⟩
  · refine ⟨_, _, rfl, hc, hl.symm, fun (e : some _ = none) => (by cases e), hl, fun (e : some _ = none) => (by cases e), fun x hx j hj => ?_⟩
    simp only [Option.some.injEq] at hx
    subst hx
    rw [Addr.add_lit, Nat.zero_add, h.cellAt j (by omega)]
    simp [List.getElem?_eq_getElem hj]

theorem append_ints {t e : TypeId} {q : IntKind} {bytes : Nat} (hinfo : (Try.prog.info? e).map (fun i => (i.zero, i.size, i.bytes)) = some (some (.int q 0), 1, bytes)) (ht : Try.prog.underlying t = some (.slice e))
    {w : World} {ops : Array Oper} {rest : List Oper} {o : Oper} {a : Act} {Q : Exit → Act → World → Prop} (hgd : o.guard = none) (s x : Operand)
    (ho : o.op = .call { callee := .builtin .append, args := #[s, x], argTypes := #[t, t] })
    (base : Nat) (v : Value) (n : Nat) (l : List Int) (hs : a.eval s = v) (hown : w.ownsRow base e 1 v n (l.map (Value.int q)))
    (xa : Option Addr) (m c : Nat) (k : List Int) (hx : a.eval x = .slice xa m c) (hB : IsN q w xa m k) (hnil : xa = none → c = 0)
    (h63 : n + m ≤ maxLen) (hbytes : (n + m) * bytes ≤ 140737488355328) (hbase : base ≤ w.heap.size)
    (h : ∀ b d w', w'.ownsRow base e 1 (.slice b (n + m) d) (n + m) ((l ++ k).map (Value.int q)) → w.grownBy w' v.ownBlock → wpList Try.prog ops Q rest (a.put o.dst (.slice b (n + m) d)) w') :
    wpList Try.prog ops Q (o :: rest) a w := by
  obtain ⟨i0, hi, hz0, hz1, hz2⟩ := info_parts hinfo
  have hk := hB.1
  cases xa with
  | none =>
    have hm := hB.2.1 rfl
    have hc := hnil rfl
    subst hm
    subst hc
    have : k = [] := List.length_eq_zero_iff.1 hk
    subst this
    obtain ⟨b, d, e, _⟩ := owns_ints hown
    refine wpList_append_own_none hgd s x t ho base _ i0 1 ht hi v n _ hs hown hx ?_
    have := h b d w (by simpa [e] using hown) (World.grownBy.refl _ _)
    rw [e]
    simpa using this
  | some y =>
    refine wpList_append_own w hgd s x t ho base e i0 (.int q 0) 1 bytes ht hi hz0 hz1 hz2 rfl (by decide) v n _ hs hown y m c (k.map (Value.int q)) hx (by simp [hk]) (isN_cells hB) (ints_oneCell q k) h63 hbytes hbase ?_
    intro v' w' ho' hg _
    rw [← List.map_append] at ho'
    obtain ⟨b, d, rfl, _⟩ := owns_ints ho'
    exact h b d w' ho' hg

theorem info_u64 : (Try.prog.info? 27).map (fun i => (i.zero, i.size, i.bytes)) = some (some (.int .u64 0), 1, 8) := by kernel_rfl

/-- Numbers as cells. -/
def numCells (l : List Nat) : List Value := l.map fun (v : Nat) => Value.int .u64 (v : Int)

theorem own_nums_nil (w : World) (base : Nat) : w.ownsRow base 27 1 (.slice none 0 0) 0 (numCells []) := World.ownsRow_nil w base 27 1

theorem owns_nums {w : World} {base n : Nat} {v : Value} {l : List Nat} (h : w.ownsRow base 27 1 v n (numCells l)) :
    ∃ a c, v = .slice a n c ∧ n ≤ c ∧ n = l.length ∧ (a = none → c = 0) ∧ IsN .u64 w a n (l.map fun (v : Nat) => (v : Int)) := by
  have hl : l.length = n := by have := h.1; simpa [numCells] using this
  rcases h.2 with ⟨rfl, rfl⟩ | ⟨g, cap, cur, rfl, _, _, hc, _⟩
  · have : l = [] := List.length_eq_zero_iff.1 hl
    subst this
    exact ⟨none, 0, rfl, Nat.le_refl _, rfl, fun _ => rfl, rfl, fun _ => rfl, fun _ e => by cases e⟩
  · refine ⟨_, _, rfl, hc, hl.symm, fun (e : some _ = none) => (by cases e), by simpa using hl, fun (e : some _ = none) => (by cases e), fun x hx j hj => ?_⟩
    simp only [Option.some.injEq] at hx
    subst hx
    have hj' : j < l.length := by simpa using hj
    rw [Addr.add_lit, Nat.zero_add, h.cellAt j (by omega)]
    simp [numCells, List.getElem?_eq_getElem hj']

/-- Behind a store into the second of the two boxes. -/
theorem after_set {w wr w1 : World} {n : Nat} {e : TypeId} {u v x out : Value} {xs : List Value} (hw : wr.setCell ⟨w.heap.size + 1, 0, none⟩ v = w1) (hc : wr.cell? ⟨w.heap.size + 1, 0, none⟩ = some u)
    (hf : wr.frozen? ⟨w.heap.size + 1, 0, none⟩ = false) (hd : wr.cell? ⟨w.heap.size, 0, none⟩ = some x) (ho : wr.ownsRow (w.heap.size + 2) e 1 out n xs) (hb : Below w.heap.size w wr) :
    w1.cell? ⟨w.heap.size + 1, 0, none⟩ = some v ∧ w1.frozen? ⟨w.heap.size + 1, 0, none⟩ = false ∧ w1.cell? ⟨w.heap.size, 0, none⟩ = some x ∧ wr.heap.size ≤ w1.heap.size ∧ w1.ownsRow (w.heap.size + 2) e 1 out n xs ∧ Below w.heap.size w w1 := by
  subst hw
  have hbk : Below (w.heap.size + 1) wr (wr.setCell ⟨w.heap.size + 1, 0, none⟩ v) := Below.setCell (p := ⟨w.heap.size + 1, 0, none⟩) (Below.refl _ _) (Nat.le_refl _) v
  refine ⟨?_, ?_, ?_, by simp [World.setCell], ownsRow_setCell_below ho (by simp) v, hb.setCell (by simp) _⟩
  · go_simp
  · go_simp
  · rw [hbk.cell (by simp)]; exact hd

end Go.Proofs.Ytbglgplfjhiafaa
