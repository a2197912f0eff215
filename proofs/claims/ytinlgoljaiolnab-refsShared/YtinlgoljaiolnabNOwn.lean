/-
  References, counts and edges in cells: read, owned, appended. Conditions: those that each lemma names.
-/
import Derived.Test.YtinlgoljaiolnabNRep
import Derived.Test.YtinlgoljaiolnabESOwn
namespace Go.Proofs.Ytinlgoljaiolnab
open Go.RowKit
set_option linter.unusedVariables false

def In4 (x : Rfr) : Prop := In64 x.1 ∧ In64 x.2.1 ∧ In64 x.2.2.1 ∧ In64 x.2.2.2
def rfr4 (x : Rfr) : List Value := [.int .i64 x.1, .int .i64 x.2.1, .int .i64 x.2.2.1, .int .i64 x.2.2.2]
def rfrCells (l : List Rfr) : List Value := l.flatMap rfr4

theorem rRfr_rd {w : World} {P : Nat → Prop} {cs : List Value} {x : Rfr} : rRfr.rd w P cs x ↔ cs = rfr4 x ∧ In4 x := by
  constructor
  · rintro ⟨_, _, rfl, ⟨rfl, h1⟩, _, _, rfl, ⟨rfl, h2⟩, _, _, rfl, ⟨rfl, h3⟩, rfl, h4⟩
    exact ⟨rfl, h1, h2, h3, h4⟩
  · rintro ⟨rfl, h1, h2, h3, h4⟩
    exact ⟨[_], [_, _, _], rfl, ⟨rfl, h1⟩, [_], [_, _], rfl, ⟨rfl, h2⟩, [_], [_], rfl, ⟨rfl, h3⟩, rfl, h4⟩

theorem rRfrs_all {w : World} {P : Nat → Prop} : ∀ {l : List Rfr} {xs : List Value}, rdAll rRfr w P xs l ↔ xs = rfrCells l ∧ ∀ x ∈ l, In4 x
  | [], xs => ⟨fun h => ⟨h, fun x hx => by cases hx⟩, fun h => h.1⟩
  | y :: l, xs => by
    constructor
    · rintro ⟨c, r, rfl, h1, h2⟩
      obtain ⟨rfl, k1⟩ := rRfr_rd.1 h1
      obtain ⟨rfl, k2⟩ := rRfrs_all.1 h2
      exact ⟨rfl, fun x hx => (List.mem_cons.1 hx).elim (fun e => e ▸ k1) (fun hx => k2 x hx)⟩
    · rintro ⟨rfl, h⟩
      exact ⟨rfr4 y, rfrCells l, rfl, rRfr_rd.2 ⟨rfl, h y (by simp)⟩, rRfrs_all.2 ⟨rfl, fun x hx => h x (by simp [hx])⟩⟩

theorem rRfrs_at {w : World} {P : Nat → Prop} {a : Option Addr} {n c : Nat} {l : List Rfr} (h : rRfrs.rd w P [.slice a n c] l) (hn : 0 < n) :
    ∃ b off, a = some ⟨b, off, none⟩ ∧ P b ∧ b < w.heap.size ∧ ∀ (j : Nat) (hj : j < l.length),
      w.cell? ⟨b, off + j * 4, none⟩ = some (.int .i64 l[j].1) ∧ w.cell? ⟨b, off + j * 4 + 1, none⟩ = some (.int .i64 l[j].2.1) ∧ w.cell? ⟨b, off + j * 4 + 2, none⟩ = some (.int .i64 l[j].2.2.1) ∧ w.cell? ⟨b, off + j * 4 + 3, none⟩ = some (.int .i64 l[j].2.2.2) ∧ In4 l[j] := by
  obtain ⟨b, off, e1, e2, e3, e4⟩ := rList_at h hn
  refine ⟨b, off, e1, e2, e3, fun j hj => ?_⟩
  obtain ⟨cj, g1, g2⟩ := e4 j hj
  obtain ⟨rfl, k⟩ := rRfr_rd.1 g1
  have g0 := g2 0 _ rfl
  have g1 := g2 1 _ rfl
  have g3 := g2 2 _ rfl
  have g4 := g2 3 _ rfl
  rw [show rRfr.size = 4 from rfl] at g0 g1 g3 g4
  rw [Nat.add_zero] at g0
  rw [← Nat.add_assoc] at g1 g3 g4
  exact ⟨g0, g1, g3, g4, k⟩

theorem rRfrs_in {w : World} {P : Nat → Prop} {a : Option Addr} {n c : Nat} {l : List Rfr} (h : rRfrs.rd w P [.slice a n c] l) : ∀ x ∈ l, In4 x := by
  intro x hx
  obtain ⟨j, hj, rfl⟩ := List.mem_iff_getElem.1 hx
  obtain ⟨hl, -⟩ := rList_len h
  obtain ⟨b, off, -, -, -, hat⟩ := rRfrs_at h (by omega)
  exact (hat j hj).2.2.2.2

theorem rfrCells_length (l : List Rfr) : (rfrCells l).length = l.length * 4 := by
  induction l with
  | nil => rfl
  | cons x l ih => simp only [rfrCells, List.flatMap_cons, List.length_append, List.length_cons] at *; rw [ih]; simp [rfr4]; omega

theorem rfrCells_append (l m : List Rfr) : rfrCells (l ++ m) = rfrCells l ++ rfrCells m := by simp [rfrCells]

/-- A list of references of the call's own. -/
structure OwnR (e : TypeId) (w : World) (base : Nat) (v : Value) (l : List Rfr) : Prop where
  row : w.ownsRow base e 4 v l.length (rfrCells l)
  fit : ∀ x ∈ l, In4 x

theorem OwnR.nil (e : TypeId) (w : World) (base : Nat) : OwnR e w base (.slice none 0 0) [] := ⟨World.ownsRow_nil w base e 4, fun x hx => by cases hx⟩

theorem OwnR.keep {e : TypeId} {w w' : World} {base : Nat} {v : Value} {l : List Rfr} (h : OwnR e w base v l) (hk : ∀ b, base ≤ b → b < w.heap.size → w'.heap[b]? = w.heap[b]?) : OwnR e w' base v l := by
  refine ⟨⟨h.row.1, ?_⟩, h.fit⟩
  rcases h.row.2 with h0 | ⟨g, cap, cur, rfl, g1, g2, g3⟩
  · exact .inl h0
  · exact .inr ⟨g, cap, cur, rfl, g1, by rw [hk g g1 (Array.getElem?_eq_some_iff.1 g2).1]; exact g2, g3⟩

theorem OwnR.below {e : TypeId} {w w' : World} {base : Nat} {v : Value} {l : List Rfr} (h : OwnR e w base v l) (k : Below w.heap.size w w') : OwnR e w' base v l := h.keep fun b _ hl => k.block b hl

theorem OwnR.drewN {e : TypeId} {w : World} {base : Nat} {v : Value} {l : List Rfr} (h : OwnR e w base v l) (n : Nat) : OwnR e (w.drewN n) base v l := h.keep fun _ _ _ => rfl

theorem OwnR.mono {e : TypeId} {w : World} {base base' : Nat} {v : Value} {l : List Rfr} (h : OwnR e w base v l) (hb : base' ≤ base) : OwnR e w base' v l := by
  refine ⟨⟨h.row.1, ?_⟩, h.fit⟩
  rcases h.row.2 with h2 | ⟨g, cap, cur, hv, hg, r⟩
  · exact .inl h2
  · exact .inr ⟨g, cap, cur, hv, by omega, r⟩

theorem OwnR.slice {e : TypeId} {w : World} {base : Nat} {v : Value} {l : List Rfr} (h : OwnR e w base v l) : ∃ a c, v = .slice a l.length c ∧ l.length ≤ c ∧ (a = none → c = 0) := by
  rcases h.row.2 with ⟨rfl, h0⟩ | ⟨g, cap, cur, rfl, g1, g2, g3, g4, g5, g6⟩
  · exact ⟨none, 0, by rw [h0], by omega, fun _ => rfl⟩
  · exact ⟨_, _, rfl, g3, fun e => by cases e⟩

theorem OwnR.rd {e : TypeId} {w : World} {base : Nat} {a : Option Addr} {n c : Nat} {l : List Rfr} (h : OwnR e w base (.slice a n c) l) (hb : l.length ≤ 4398046510976) : rRfrs.rd w (fun b => base ≤ b) [.slice a n c] l := by
  obtain ⟨a', c', e1, hr⟩ := rd_owned (A := rRfr) (hs := by decide) h.row (rRfrs_all.2 ⟨rfl, h.fit⟩ : rdAll rRfr w (fun b => base ≤ b) _ l) rfl (by show l.length * 32 ≤ _; omega) (fun b e => (h.row.lt b e).1)
  simp only [Value.slice.injEq] at e1
  obtain ⟨rfl, rfl, rfl⟩ := e1
  exact hr

/-- The row of a list that is not empty. -/
theorem OwnR.at {e : TypeId} {w : World} {base : Nat} {a : Option Addr} {n c : Nat} {l : List Rfr} (h : OwnR e w base (.slice a n c) l) (hl : 0 < l.length) : ∃ g, a = some ⟨g, 0, none⟩ ∧ base ≤ g ∧ g < w.heap.size ∧ n = l.length ∧
    ∀ (j : Nat) (hj : j < l.length), w.cell? ⟨g, j * 4, none⟩ = some (.int .i64 l[j].1) ∧ w.cell? ⟨g, j * 4 + 1, none⟩ = some (.int .i64 l[j].2.1) ∧ w.cell? ⟨g, j * 4 + 2, none⟩ = some (.int .i64 l[j].2.2.1) ∧ w.cell? ⟨g, j * 4 + 3, none⟩ = some (.int .i64 l[j].2.2.2) ∧ ∀ k, w.frozen? ⟨g, k, none⟩ = false := by
  rcases h.row.2 with ⟨h1, h0⟩ | ⟨g, cap, cur, e1, g1, g2, g3, g4, g5, g6⟩
  · omega
  · have e2 := e1
    simp only [Value.slice.injEq] at e2
    obtain ⟨rfl, rfl, rfl⟩ := e2
    refine ⟨g, rfl, g1, (Array.getElem?_eq_some_iff.1 g2).1, rfl, fun j hj => ?_⟩
    have hc := h.row.cells (g := g) rfl
    have get : ∀ k u, (rfr4 l[j])[k]? = some u → (rfrCells l)[j * 4 + k]? = some u := by
      intro k u hu
      obtain ⟨cj, r1, r2⟩ := rdAll_get (w := w) (P := fun _ => True) (rRfrs_all.2 ⟨rfl, h.fit⟩ : rdAll rRfr w (fun _ => True) (rfrCells l) l) j hj
      obtain ⟨rfl, -⟩ := rRfr_rd.1 r1
      exact r2 k u hu
    have a0 := hc _ _ (get 0 _ rfl)
    have a1 := hc _ _ (get 1 _ rfl)
    have a2 := hc _ _ (get 2 _ rfl)
    have a3 := hc _ _ (get 3 _ rfl)
    rw [Addr.add_lit, Nat.zero_add] at a0 a1 a2 a3
    exact ⟨a0, a1, a2, a3, fun k => by simp [World.frozen?, g2]⟩

theorem OwnR.base_below {e : TypeId} {w w' : World} {base : Nat} {v v' : Value} {l : List Rfr} (h : OwnR e w base v l) (hb : base ≤ w.heap.size) (g : Grew w w' v v') : Below base w w' :=
  (Below.refl base w).grown g.grown hb (fun k hk => (h.row.lt k hk).1)

theorem elem_rfr : ElemOf Try.prog 36 57 rRfr := elemOf (z := .agg #[.int .i64 0, .int .i64 0, .int .i64 0, .int .i64 0]) Try.underlying36 (by kernel_rfl) rfl rfl rfl (by decide)

theorem elem_edg : ElemOf Try.prog 55 59 rSpn := elemOf (z := .agg #[.int .i64 0, .int .i64 0]) Try.underlying55 (by kernel_rfl) rfl rfl rfl (by decide)

theorem elem_cnr : ElemOf Try.prog 26 35 rExt := elemOf (z := .agg #[.int .i64 0, .int .i64 0, .int .i64 0]) Try.underlying26 (by kernel_rfl) rfl rfl rfl (by decide)

/-- What an append of one element, or of two, leaves. -/
theorem place_of {w : World} {v v' : Value} (k : v'.ownBlock = v.ownBlock ∨ v'.ownBlock = some w.heap.size) : ∀ b, v'.ownBlock = some b → v.ownBlock = some b ∨ w.heap.size ≤ b := by
  intro b e
  rcases k with k | k
  · exact .inl (k.symm.trans e)
  · exact .inr (by rw [e] at k; simp only [Option.some.injEq] at k; omega)

/-- One reference appended to a list of the call's own. -/
theorem run_append_rfr {w : World} {base : Nat} {v : Value} {l : List Rfr} (hown : OwnR 57 w base v l) {ad : Addr} {c : Nat} {x : Rfr} (hnews : ∀ j u, (rfr4 x)[j]? = some u → w.cell? (ad.add j) = some u) (hX : In4 x) (hb : l.length ≤ 1000000) (hbase : base ≤ w.heap.size) (ty : TypeId) :
    ∃ v' w', (Builtin.append_ #[36, 36] ty #[v, .slice (some ad) 1 c]).run Try.prog w = .ok v' w' ∧ OwnR 57 w' base v' (l ++ [x]) ∧ Grew w w' v v' := by
  obtain ⟨ht, i, z, hi, hz, hsize, hby, hzs, hpos⟩ := elem_rfr
  obtain ⟨v', w', hr, k1, k2, -, k4⟩ := run_append_own_at (P := Try.prog) w base 36 ty 57 i z 4 32 ht hi hz hsize hby hzs (by decide) v l.length (rfrCells l) hown.row ad 1 c (rfr4 x) rfl hnews (rRfr.one (rRfr_rd.2 ⟨rfl, hX⟩ : rRfr.rd w (fun _ => True) _ x)) (by unfold maxLen; omega) (by omega) hbase
  refine ⟨v', w', hr, ⟨?_, fun y hy => ?_⟩, ⟨k2, place_of k4⟩⟩
  · rw [rfrCells_append, List.length_append]
    simpa [rfrCells] using k1
  · rcases List.mem_append.1 hy with hy | hy
    · exact hown.fit y hy
    · rw [List.mem_singleton.1 hy]; exact hX

/-- One count appended. -/
theorem run_append_cnr {w : World} {base : Nat} {v : Value} {l : List Ext} (hown : OwnE 35 w base v l) {ad : Addr} {c : Nat} {x : Ext} (hnews : ∀ j u, (ext3 x)[j]? = some u → w.cell? (ad.add j) = some u) (hX : In3 x) (hb : l.length ≤ 1000000) (hbase : base ≤ w.heap.size) (ty : TypeId) :
    ∃ v' w', (Builtin.append_ #[26, 26] ty #[v, .slice (some ad) 1 c]).run Try.prog w = .ok v' w' ∧ OwnE 35 w' base v' (l ++ [x]) ∧ Grew w w' v v' := by
  obtain ⟨ht, i, z, hi, hz, hsize, hby, hzs, hpos⟩ := elem_cnr
  obtain ⟨v', w', hr, k1, k2, -, k4⟩ := run_append_own_at (P := Try.prog) w base 26 ty 35 i z 3 24 ht hi hz hsize hby hzs (by decide) v l.length (extCells l) hown.row ad 1 c (ext3 x) rfl hnews (rExt.one (rExt_rd.2 ⟨rfl, hX⟩ : rExt.rd w (fun _ => True) _ x)) (by unfold maxLen; omega) (by omega) hbase
  exact ⟨v', w', hr, OwnE.push k1 hown.fit hX, ⟨k2, place_of k4⟩⟩

/-- Two edges appended. -/
theorem run_append_edg2 {w : World} {base : Nat} {v : Value} {l : List Spn} (hown : OwnS 59 w base v l) {ad : Addr} {c : Nat} {x y : Spn} (hnews : ∀ j u, (spnCells [x, y])[j]? = some u → w.cell? (ad.add j) = some u) (hX : In2 x) (hY : In2 y) (hb : l.length ≤ 1000000) (hbase : base ≤ w.heap.size) (ty : TypeId) :
    ∃ v' w', (Builtin.append_ #[55, 55] ty #[v, .slice (some ad) 2 c]).run Try.prog w = .ok v' w' ∧ OwnS 59 w' base v' (l ++ [x, y]) ∧ Grew w w' v v' := by
  obtain ⟨ht, i, z, hi, hz, hsize, hby, hzs, hpos⟩ := elem_edg
  have hin : ∀ u ∈ [x, y], In2 u := by
    intro u hu
    simp only [List.mem_cons, List.not_mem_nil, or_false] at hu
    rcases hu with rfl | rfl
    · exact hX
    · exact hY
  obtain ⟨v', w', hr, k1, k2, -, k4⟩ := run_append_own_at (P := Try.prog) w base 55 ty 59 i z 2 16 ht hi hz hsize hby hzs (by decide) v l.length (spnCells l) hown.row ad 2 c (spnCells [x, y]) rfl hnews
    (fun u hu => by
      obtain ⟨s, hs, hus⟩ := List.mem_flatMap.1 hu
      exact rSpn.one (rSpn_rd.2 ⟨rfl, hin s hs⟩ : rSpn.rd w (fun _ => True) _ s) u hus) (by unfold maxLen; omega) (by omega) hbase
  exact ⟨v', w', hr, OwnS.app k1 hown.fit hin, ⟨k2, place_of k4⟩⟩

end Go.Proofs.Ytinlgoljaiolnab
