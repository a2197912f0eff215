/-
  Facts that the proof rests on, part 5. Conditions: those that each of them names.
-/
import Derived.Deep.OwnRows
import Derived.Laws.CopyOwn
import Derived.OwnWalk
import Derived.Test.YtinlgoljaiolnaaRows
import Derived.Test.YtinlgoljaiolnaaBK02
import Derived.Test.YtinlgoljaiolnaaBK03
namespace Go.Proofs.Ytinlgoljaiolnaa
open Go.RowKit
set_option linter.unusedVariables false
structure Row (w : World) (g : Nat) (t : TypeId) (xs : List Value) : Prop where
  eq : w.heap[g]? = some (.cells xs.toArray t (0, 0))
theorem Row.cell {w : World} {g : Nat} {t : TypeId} {xs : List Value} (h : Row w g t xs) {j : Nat} {v : Value} (hj : xs[j]? = some v) : w.cell? ⟨g, j, none⟩ = some v := by
  simp [World.cell?, h.eq, hj]
theorem Row.frozen {w : World} {g : Nat} {t : TypeId} {xs : List Value} (h : Row w g t xs) (j : Nat) : w.frozen? ⟨g, j, none⟩ = false := by
  simp [World.frozen?, h.eq]
theorem Row.keep {w w' : World} {g : Nat} {t : TypeId} {xs : List Value} (h : Row w g t xs) (hb : w'.heap[g]? = w.heap[g]?) : Row w' g t xs := ⟨hb.trans h.eq⟩
theorem Row.lt {w : World} {g : Nat} {t : TypeId} {xs : List Value} (h : Row w g t xs) : g < w.heap.size := (Array.getElem?_eq_some_iff.1 h.eq).1
theorem Row.below {w w' : World} {g : Nat} {t : TypeId} {xs : List Value} (h : Row w g t xs) (k : Below w.heap.size w w') : Row w' g t xs := h.keep (k.block g h.lt)
theorem Row.set {w : World} {g : Nat} {t : TypeId} {xs : List Value} (h : Row w g t xs) (j : Nat) (v : Value) : Row (w.setCell ⟨g, j, none⟩ v) g t (xs.set j v) := by
  refine ⟨?_⟩
  rw [setCell_eq_setRow w g j xs.toArray t (0, 0) v h.eq, setRow_heap w g _ _ t _ h.eq]
  simp
theorem row_new (w : World) (t : TypeId) (xs : List Value) : Row (w.alloc (.cells xs.toArray t)) w.heap.size t xs := by
  refine ⟨?_⟩
  unfold World.alloc
  simp
theorem make_row {Pr : Program} (w : World) {ops : Array Oper} {rest : List Oper} {o : Oper} {a : Go.Act} {Q : Exit → Go.Act → World → Prop}
    (hg : o.guard = none) (l c : Operand) (t : TypeId) (hop : o.op = Op.makeSlice t l c)
    (e : TypeId) (z : Value) (bytes : Nat) (ht : Pr.underlying t = some (.slice e)) (hinfo : (Pr.info? e).map (fun i => (i.zero, i.size, i.bytes)) = some (some z, 1, bytes)) (hz1 : z.cells = #[z])
    (n : Nat) (C : Int) (hC : C = (n : Int)) (hl : a.eval l = .int .i64 C) (hc : a.eval c = .int .i64 C) (hbytes : bytes * n ≤ 281474976710656) (h63 : n ≤ 9223372036854775807)
    (hK : ∀ w', Hid (Row w' w.heap.size e (List.replicate n z)) → Below w.heap.size w w' → w'.heap.size = w.heap.size + 1 → wpList Pr ops Q rest (a.put o.dst (.slice (some ⟨w.heap.size, 0, none⟩) n n)) w') :
    wpList Pr ops Q (o :: rest) a w := by
  subst hC
  obtain ⟨i, hi, hz0, hz1', hz2⟩ := info_parts hinfo
  refine wpList_make_row w hg l c t hop e i z ht hi hz0 hz1' hz1 .i64 .i64 n hl hc (by rw [hz2]; exact hbytes) h63 ?_
  refine hK _ ?_ ((Below.refl _ _).alloc (Nat.le_refl _) _) (by simp)
  have := row_new w e (List.replicate n z)
  rw [← toList_madeCells_one, Array.toArray_toList] at this
  rw [← toList_madeCells_one]
  exact this
end Go.Proofs.Ytinlgoljaiolnaa
namespace Go.Proofs.Ytinlgoljaiolnaa
open Go.RowKit
set_option linter.unusedVariables false
def In64 (n : Int) : Prop := -9223372036854775808 ≤ n ∧ n ≤ 9223372036854775807
def In3 (x : Ext) : Prop := In64 x.1 ∧ In64 x.2.1 ∧ In64 x.2.2
def In2 (x : Spn) : Prop := In64 x.1 ∧ In64 x.2
def ext3 (x : Ext) : List Value := [.int .i64 x.1, .int .i64 x.2.1, .int .i64 x.2.2]
def spn2 (x : Spn) : List Value := [.int .i64 x.1, .int .i64 x.2]
def extCells (l : List Ext) : List Value := l.flatMap ext3
def spnCells (l : List Spn) : List Value := l.flatMap spn2
theorem rExt_rd {w : World} {P : Nat → Prop} {cs : List Value} {x : Ext} : rExt.rd w P cs x ↔ cs = ext3 x ∧ In3 x := by
  constructor
  · rintro ⟨_, _, rfl, ⟨rfl, h1⟩, _, _, rfl, ⟨rfl, h2⟩, rfl, h3⟩
    exact ⟨rfl, h1, h2, h3⟩
  · rintro ⟨rfl, h1, h2, h3⟩
    exact ⟨[_], [_, _], rfl, ⟨rfl, h1⟩, [_], [_], rfl, ⟨rfl, h2⟩, rfl, h3⟩
theorem rSpn_rd {w : World} {P : Nat → Prop} {cs : List Value} {x : Spn} : rSpn.rd w P cs x ↔ cs = spn2 x ∧ In2 x := by
  constructor
  · rintro ⟨_, _, rfl, ⟨rfl, h1⟩, rfl, h2⟩
    exact ⟨rfl, h1, h2⟩
  · rintro ⟨rfl, h1, h2⟩
    exact ⟨[_], [_], rfl, ⟨rfl, h1⟩, rfl, h2⟩
theorem rExts_all {w : World} {P : Nat → Prop} : ∀ {l : List Ext} {xs : List Value}, rdAll rExt w P xs l ↔ xs = extCells l ∧ ∀ x ∈ l, In3 x
  | [], xs => ⟨fun h => ⟨h, fun x hx => by cases hx⟩, fun h => h.1⟩
  | y :: l, xs => by
    constructor
    · rintro ⟨c, r, rfl, h1, h2⟩
      obtain ⟨rfl, k1⟩ := rExt_rd.1 h1
      obtain ⟨rfl, k2⟩ := rExts_all.1 h2
      exact ⟨rfl, fun x hx => (List.mem_cons.1 hx).elim (fun e => e ▸ k1) (fun hx => k2 x hx)⟩
    · rintro ⟨rfl, h⟩
      exact ⟨ext3 y, extCells l, rfl, rExt_rd.2 ⟨rfl, h y (by simp)⟩, rExts_all.2 ⟨rfl, fun x hx => h x (by simp [hx])⟩⟩
theorem rSpns_all {w : World} {P : Nat → Prop} : ∀ {l : List Spn} {xs : List Value}, rdAll rSpn w P xs l ↔ xs = spnCells l ∧ ∀ x ∈ l, In2 x
  | [], xs => ⟨fun h => ⟨h, fun x hx => by cases hx⟩, fun h => h.1⟩
  | y :: l, xs => by
    constructor
    · rintro ⟨c, r, rfl, h1, h2⟩
      obtain ⟨rfl, k1⟩ := rSpn_rd.1 h1
      obtain ⟨rfl, k2⟩ := rSpns_all.1 h2
      exact ⟨rfl, fun x hx => (List.mem_cons.1 hx).elim (fun e => e ▸ k1) (fun hx => k2 x hx)⟩
    · rintro ⟨rfl, h⟩
      exact ⟨spn2 y, spnCells l, rfl, rSpn_rd.2 ⟨rfl, h y (by simp)⟩, rSpns_all.2 ⟨rfl, fun x hx => h x (by simp [hx])⟩⟩
theorem rExts_at {w : World} {P : Nat → Prop} {a : Option Addr} {n c : Nat} {l : List Ext} (h : rExts.rd w P [.slice a n c] l) (hn : 0 < n) :
    ∃ b off, a = some ⟨b, off, none⟩ ∧ P b ∧ b < w.heap.size ∧ ∀ (j : Nat) (hj : j < l.length),
      w.cell? ⟨b, off + j * 3, none⟩ = some (.int .i64 l[j].1) ∧ w.cell? ⟨b, off + j * 3 + 1, none⟩ = some (.int .i64 l[j].2.1) ∧ w.cell? ⟨b, off + j * 3 + 2, none⟩ = some (.int .i64 l[j].2.2) ∧ In3 l[j] := by
  obtain ⟨b, off, e1, e2, e3, e4⟩ := rList_at h hn
  refine ⟨b, off, e1, e2, e3, fun j hj => ?_⟩
  obtain ⟨cj, g1, g2⟩ := e4 j hj
  obtain ⟨rfl, k⟩ := rExt_rd.1 g1
  have g0 := g2 0 _ rfl
  have g1 := g2 1 _ rfl
  have g3 := g2 2 _ rfl
  rw [show rExt.size = 3 from rfl] at g0 g1 g3
  rw [Nat.add_zero] at g0
  rw [← Nat.add_assoc] at g1 g3
  exact ⟨g0, g1, g3, k⟩
theorem rSpns_at {w : World} {P : Nat → Prop} {a : Option Addr} {n c : Nat} {l : List Spn} (h : rSpns.rd w P [.slice a n c] l) (hn : 0 < n) :
    ∃ b off, a = some ⟨b, off, none⟩ ∧ P b ∧ b < w.heap.size ∧ ∀ (j : Nat) (hj : j < l.length),
      w.cell? ⟨b, off + j * 2, none⟩ = some (.int .i64 l[j].1) ∧ w.cell? ⟨b, off + j * 2 + 1, none⟩ = some (.int .i64 l[j].2) ∧ In2 l[j] := by
  obtain ⟨b, off, e1, e2, e3, e4⟩ := rList_at h hn
  refine ⟨b, off, e1, e2, e3, fun j hj => ?_⟩
  obtain ⟨cj, g1, g2⟩ := e4 j hj
  obtain ⟨rfl, k⟩ := rSpn_rd.1 g1
  have g0 := g2 0 _ rfl
  have g1 := g2 1 _ rfl
  rw [show rSpn.size = 2 from rfl] at g0 g1
  rw [Nat.add_zero] at g0
  rw [← Nat.add_assoc] at g1
  exact ⟨g0, g1, k⟩
theorem rList_len {α : Type} {A : Rep α} {hs : 0 < A.size} {w : World} {P : Nat → Prop} {a : Option Addr} {n c : Nat} {l : List α} (h : (rList A hs).rd w P [.slice a n c] l) : l.length = n ∧ n ≤ c ∧ (a = none → c = 0) ∧ n * A.bytes ≤ 140737488351232 := by
  obtain ⟨a', n', c', e, h1, h2, h3, h4, -⟩ := h
  simp only [List.cons.injEq, Value.slice.injEq, and_true] at e
  obtain ⟨rfl, rfl, rfl⟩ := e
  exact ⟨h1, h2, h3, h4⟩
theorem extCells_append (l m : List Ext) : extCells (l ++ m) = extCells l ++ extCells m := by simp [extCells]
structure OwnE (e : TypeId) (w : World) (base : Nat) (v : Value) (l : List Ext) : Prop where
  row : w.ownsRow base e 3 v l.length (extCells l)
  fit : ∀ x ∈ l, In3 x
theorem OwnE.nil (e : TypeId) (w : World) (base : Nat) : OwnE e w base (.slice none 0 0) [] := ⟨World.ownsRow_nil w base e 3, fun x hx => by cases hx⟩
theorem OwnE.keep {e : TypeId} {w w' : World} {base : Nat} {v : Value} {l : List Ext} (h : OwnE e w base v l) (hk : ∀ b, base ≤ b → b < w.heap.size → w'.heap[b]? = w.heap[b]?) : OwnE e w' base v l := by
  refine ⟨⟨h.row.1, ?_⟩, h.fit⟩
  rcases h.row.2 with h0 | ⟨g, cap, cur, rfl, g1, g2, g3⟩
  · exact .inl h0
  · exact .inr ⟨g, cap, cur, rfl, g1, by rw [hk g g1 (Array.getElem?_eq_some_iff.1 g2).1]; exact g2, g3⟩
theorem OwnE.below {e : TypeId} {w w' : World} {base : Nat} {v : Value} {l : List Ext} (h : OwnE e w base v l) (k : Below w.heap.size w w') : OwnE e w' base v l := h.keep fun b _ hl => k.block b hl
theorem OwnE.mono {e : TypeId} {w : World} {base base' : Nat} {v : Value} {l : List Ext} (h : OwnE e w base v l) (hb : base' ≤ base) : OwnE e w base' v l := by
  refine ⟨⟨h.row.1, ?_⟩, h.fit⟩
  rcases h.row.2 with h2 | ⟨g, cap, cur, hv, hg, r⟩
  · exact .inl h2
  · exact .inr ⟨g, cap, cur, hv, by omega, r⟩
theorem OwnE.slice {e : TypeId} {w : World} {base : Nat} {v : Value} {l : List Ext} (h : OwnE e w base v l) : ∃ a c, v = .slice a l.length c ∧ l.length ≤ c ∧ (a = none → c = 0) := by
  rcases h.row.2 with ⟨rfl, h0⟩ | ⟨g, cap, cur, rfl, g1, g2, g3, g4, g5, g6⟩
  · exact ⟨none, 0, by rw [h0], by omega, fun _ => rfl⟩
  · exact ⟨_, _, rfl, g3, fun e => by cases e⟩
theorem OwnE.rd {e : TypeId} {w : World} {base : Nat} {a : Option Addr} {n c : Nat} {l : List Ext} (h : OwnE e w base (.slice a n c) l) (hb : l.length ≤ 5864062014634) : rExts.rd w (fun b => base ≤ b) [.slice a n c] l := by
  obtain ⟨a', c', e1, hr⟩ := rd_owned (A := rExt) (hs := by decide) h.row (rExts_all.2 ⟨rfl, h.fit⟩ : rdAll rExt w (fun b => base ≤ b) _ l) rfl (by show l.length * 24 ≤ _; omega) (fun b e => (h.row.lt b e).1)
  simp only [Value.slice.injEq] at e1
  obtain ⟨rfl, rfl, rfl⟩ := e1
  exact hr
theorem OwnE.at {e : TypeId} {w : World} {base : Nat} {a : Option Addr} {n c : Nat} {l : List Ext} (h : OwnE e w base (.slice a n c) l) (hl : 0 < l.length) : ∃ g, a = some ⟨g, 0, none⟩ ∧ base ≤ g ∧ g < w.heap.size ∧ n = l.length ∧
    ∀ (j : Nat) (hj : j < l.length), w.cell? ⟨g, j * 3, none⟩ = some (.int .i64 l[j].1) ∧ w.cell? ⟨g, j * 3 + 1, none⟩ = some (.int .i64 l[j].2.1) ∧ w.cell? ⟨g, j * 3 + 2, none⟩ = some (.int .i64 l[j].2.2) ∧ ∀ k, w.frozen? ⟨g, k, none⟩ = false := by
  rcases h.row.2 with ⟨h1, h0⟩ | ⟨g, cap, cur, e1, g1, g2, g3, g4, g5, g6⟩
  · omega
  · have e2 := e1
    simp only [Value.slice.injEq] at e2
    obtain ⟨rfl, rfl, rfl⟩ := e2
    refine ⟨g, rfl, g1, (Array.getElem?_eq_some_iff.1 g2).1, rfl, fun j hj => ?_⟩
    have hc := h.row.cells (g := g) rfl
    have get : ∀ k u, (ext3 l[j])[k]? = some u → (extCells l)[j * 3 + k]? = some u := by
      intro k u hu
      obtain ⟨cj, r1, r2⟩ := rdAll_get (w := w) (P := fun _ => True) (rExts_all.2 ⟨rfl, h.fit⟩ : rdAll rExt w (fun _ => True) (extCells l) l) j hj
      obtain ⟨rfl, -⟩ := rExt_rd.1 r1
      exact r2 k u hu
    have a0 := hc _ _ (get 0 _ rfl)
    have a1 := hc _ _ (get 1 _ rfl)
    have a2 := hc _ _ (get 2 _ rfl)
    rw [Addr.add_lit, Nat.zero_add] at a0 a1 a2
    exact ⟨a0, a1, a2, fun k => by simp [World.frozen?, g2]⟩
theorem extCells_set : ∀ (l : List Ext) (j : Nat) (hj : j < l.length) (n : Int), (extCells l).set (j * 3 + 2) (.int .i64 n) = extCells (l.set j (l[j].1, l[j].2.1, n))
  | x :: l, 0, _, n => rfl
  | x :: l, j + 1, hj, n => by
    have ih := extCells_set l j (by simpa using hj) n
    have e : extCells (x :: l) = ext3 x ++ extCells l := rfl
    rw [e, show (j + 1) * 3 + 2 = (ext3 x).length + (j * 3 + 2) from by show _ = 3 + _; omega, List.set_append_right _ _ (by omega), Nat.add_sub_cancel_left, ih]
    rfl
theorem OwnE.setLen {e : TypeId} {w : World} {base g c : Nat} {l : List Ext} (h : OwnE e w base (.slice (some ⟨g, 0, none⟩) l.length c) l) {j : Nat} (hj : j < l.length) {m : Int} (hm : In64 m) :
    OwnE e (w.setCell ⟨g, j * 3 + 2, none⟩ (.int .i64 m)) base (.slice (some ⟨g, 0, none⟩) l.length c) (l.set j (l[j].1, l[j].2.1, m)) := by
  have hs := (h.row.stored (j * 3 + 2) (.int .i64 m)).1
  rw [extCells_set l j hj m] at hs
  refine ⟨by rw [List.length_set]; exact hs, fun x hx => ?_⟩
  rcases List.mem_or_eq_of_mem_set hx with hx | rfl
  · exact h.fit x hx
  · have := h.fit l[j] (List.getElem_mem hj)
    exact ⟨this.1, this.2.1, hm⟩
theorem OwnE.push {e : TypeId} {w : World} {base : Nat} {v : Value} {l : List Ext} {x : Ext} (h : w.ownsRow base e 3 v (l.length + 1) (extCells l ++ ext3 x)) (hl : ∀ y ∈ l, In3 y) (hx : In3 x) : OwnE e w base v (l ++ [x]) := by
  refine ⟨?_, fun y hy => ?_⟩
  · rw [extCells_append, List.length_append]
    simpa [extCells] using h
  · rcases List.mem_append.1 hy with hy | hy
    · exact hl y hy
    · simp only [List.mem_singleton] at hy
      subst hy
      exact hx
end Go.Proofs.Ytinlgoljaiolnaa
namespace Go.Proofs.Ytinlgoljaiolnaa
open Go.RowKit
set_option linter.unusedVariables false
theorem elem_ext : ElemOf Try.prog 70 80 rExt := elemOf (z := .agg #[.int .i64 0, .int .i64 0, .int .i64 0]) Try.underlying70 (by kernel_rfl) rfl rfl rfl (by decide)
theorem ext_cells_new (w : World) (x : Ext) (t : TypeId) : ∀ j u, (ext3 x)[j]? = some u → (w.alloc (.cells #[.int .i64 x.1, .int .i64 x.2.1, .int .i64 x.2.2] t)).cell? ((⟨w.heap.size, 0, none⟩ : Addr).add j) = some u := by
  intro j u hj
  rw [Addr.add_lit, Nat.zero_add]
  match j, hj with
  | 0, hj => simp [ext3] at hj; subst hj; simp
  | 1, hj => simp [ext3] at hj; subst hj; simp
  | 2, hj => simp [ext3] at hj; subst hj; simp
structure Grew (w w' : World) (v v' : Value) : Prop where
  grown : w.grownBy w' v.ownBlock
  place : ∀ b, v'.ownBlock = some b → v.ownBlock = some b ∨ w.heap.size ≤ b
theorem Grew.block {w w' : World} {v v' : Value} (g : Grew w w' v v') : ∀ k, k < w.heap.size → some k ≠ v.ownBlock → w'.heap[k]? = w.heap[k]? := g.grown.block
theorem append_ext {w : World} {ops : Array Oper} {rest : List Oper} {o : Oper} {a : Go.Act} {Q : Exit → Go.Act → World → Prop} (hgd : o.guard = none) (s y : Operand)
    (ho : o.op = .call { callee := .builtin .append, args := #[s, y], argTypes := #[70, 70] })
    (base : Nat) (v : Value) (l : List Ext) (hs : a.eval s = v) (hown : OwnE 80 w base v l)
    (x : Ext) (ad : Addr) (hx : a.eval y = .slice (some ad) 1 1) (hnews : ∀ j u, (ext3 x)[j]? = some u → w.cell? (ad.add j) = some u) (hX : In3 x) (hl : l.length ≤ 1000000) (hbase : base ≤ w.heap.size)
    (h : ∀ b d w', OwnE 80 w' base (.slice b (l.length + 1) d) (l ++ [x]) → Grew w w' v (.slice b (l.length + 1) d) → wpList Try.prog ops Q rest (a.put o.dst (.slice b (l.length + 1) d)) w') :
    wpList Try.prog ops Q (o :: rest) a w := by
  refine wpList_plain hgd fun K hK => ?_
  obtain ⟨ht, i, z, hi, hz, hsize, hby, hzs, hpos⟩ := elem_ext
  obtain ⟨v', w', hr, k1, k2, -, k4⟩ := run_append_own_at (P := Try.prog) w base 70 o.type 80 i z 3 24 ht hi hz hsize hby hzs (by decide) v l.length (extCells l) hown.row ad 1 1 (ext3 x) rfl hnews (rExt.one (rExt_rd.2 ⟨rfl, hX⟩ : rExt.rd w (fun _ => True) _ x)) (by unfold maxLen; omega) (by omega) hbase
  obtain ⟨b, d, rfl⟩ : ∃ b d, v' = .slice b (l.length + 1) d := by
    rcases k1.2 with ⟨_, h0⟩ | ⟨g, cap, cur, rfl, _⟩
    · omega
    · exact ⟨_, _, rfl⟩
  unfold Oper.wp execOp
  simp only [ho, resolve, invoke, builtin, Sem.run_bind, Sem.run_pure, Result.andThen_ok, List.map_toArray, List.map_cons, List.map_nil, hs, hx, hr]
  refine hK _ _ (h b d w' (OwnE.push k1 hown.fit hX) ⟨k2, fun b' e => ?_⟩)
  rcases k4 with k | k
  · exact .inl (k.symm.trans e)
  · exact .inr (by rw [e] at k; simp only [Option.some.injEq] at k; omega)
theorem grown_pre {w w1 w2 : World} {row : Option Nat} (h : Below w.heap.size w w1) (g : w1.grownBy w2 row) : w.grownBy w2 row :=
  ⟨g.os.trans h.os, g.tape.trans h.tape, g.output.trans h.output, Nat.le_trans h.size g.size, fun k hk hr => (g.block k (Nat.lt_of_lt_of_le hk h.size) hr).trans (h.block k hk)⟩
theorem Grew.pre {w w1 w2 : World} {v v' : Value} (h : Below w.heap.size w w1) (g : Grew w1 w2 v v') : Grew w w2 v v' :=
  ⟨grown_pre h g.grown, fun b e => (g.place b e).imp id (Nat.le_trans h.size)⟩
theorem Grew.len {w w' : World} {v : Value} {b : Option Addr} {n n' d : Nat} (g : Grew w w' v (.slice b n d)) : Grew w w' v (.slice b n' d) :=
  ⟨g.grown, fun k e => g.place k (by cases b <;> exact e)⟩
theorem OwnE.base_below {e : TypeId} {w w' : World} {base : Nat} {v v' : Value} {l : List Ext} (h : OwnE e w base v l) (hb : base ≤ w.heap.size) (g : Grew w w' v v') : Below base w w' :=
  (Below.refl base w).grown g.grown hb (fun k hk => (h.row.lt k hk).1)
end Go.Proofs.Ytinlgoljaiolnaa
namespace Go.Proofs.Ytinlgoljaiolnaa
open Go.RowKit
set_option linter.unusedVariables false
theorem spnCells_append (l m : List Spn) : spnCells (l ++ m) = spnCells l ++ spnCells m := by simp [spnCells]
structure OwnS (e : TypeId) (w : World) (base : Nat) (v : Value) (l : List Spn) : Prop where
  row : w.ownsRow base e 2 v l.length (spnCells l)
  fit : ∀ x ∈ l, In2 x
theorem OwnS.nil (e : TypeId) (w : World) (base : Nat) : OwnS e w base (.slice none 0 0) [] := ⟨World.ownsRow_nil w base e 2, fun x hx => by cases hx⟩
theorem OwnS.keep {e : TypeId} {w w' : World} {base : Nat} {v : Value} {l : List Spn} (h : OwnS e w base v l) (hk : ∀ b, base ≤ b → b < w.heap.size → w'.heap[b]? = w.heap[b]?) : OwnS e w' base v l := by
  refine ⟨⟨h.row.1, ?_⟩, h.fit⟩
  rcases h.row.2 with h0 | ⟨g, cap, cur, rfl, g1, g2, g3⟩
  · exact .inl h0
  · exact .inr ⟨g, cap, cur, rfl, g1, by rw [hk g g1 (Array.getElem?_eq_some_iff.1 g2).1]; exact g2, g3⟩
theorem OwnS.below {e : TypeId} {w w' : World} {base : Nat} {v : Value} {l : List Spn} (h : OwnS e w base v l) (k : Below w.heap.size w w') : OwnS e w' base v l := h.keep fun b _ hl => k.block b hl
theorem OwnS.slice {e : TypeId} {w : World} {base : Nat} {v : Value} {l : List Spn} (h : OwnS e w base v l) : ∃ a c, v = .slice a l.length c ∧ l.length ≤ c ∧ (a = none → c = 0) := by
  rcases h.row.2 with ⟨rfl, h0⟩ | ⟨g, cap, cur, rfl, g1, g2, g3, g4, g5, g6⟩
  · exact ⟨none, 0, by rw [h0], by omega, fun _ => rfl⟩
  · exact ⟨_, _, rfl, g3, fun e => by cases e⟩
theorem OwnS.rd {e : TypeId} {w : World} {base : Nat} {a : Option Addr} {n c : Nat} {l : List Spn} (h : OwnS e w base (.slice a n c) l) (hb : l.length ≤ 8796093021952) : rSpns.rd w (fun b => base ≤ b) [.slice a n c] l := by
  obtain ⟨a', c', e1, hr⟩ := rd_owned (A := rSpn) (hs := by decide) h.row (rSpns_all.2 ⟨rfl, h.fit⟩ : rdAll rSpn w (fun b => base ≤ b) _ l) rfl (by show l.length * 16 ≤ _; omega) (fun b e => (h.row.lt b e).1)
  simp only [Value.slice.injEq] at e1
  obtain ⟨rfl, rfl, rfl⟩ := e1
  exact hr
theorem OwnS.at {e : TypeId} {w : World} {base : Nat} {a : Option Addr} {n c : Nat} {l : List Spn} (h : OwnS e w base (.slice a n c) l) (hl : 0 < l.length) : ∃ g, a = some ⟨g, 0, none⟩ ∧ base ≤ g ∧ g < w.heap.size ∧ n = l.length ∧
    ∀ (j : Nat) (hj : j < l.length), w.cell? ⟨g, j * 2, none⟩ = some (.int .i64 l[j].1) ∧ w.cell? ⟨g, j * 2 + 1, none⟩ = some (.int .i64 l[j].2) ∧ ∀ k, w.frozen? ⟨g, k, none⟩ = false := by
  rcases h.row.2 with ⟨h1, h0⟩ | ⟨g, cap, cur, e1, g1, g2, g3, g4, g5, g6⟩
  · omega
  · have e2 := e1
    simp only [Value.slice.injEq] at e2
    obtain ⟨rfl, rfl, rfl⟩ := e2
    refine ⟨g, rfl, g1, (Array.getElem?_eq_some_iff.1 g2).1, rfl, fun j hj => ?_⟩
    have hc := h.row.cells (g := g) rfl
    have get : ∀ k u, (spn2 l[j])[k]? = some u → (spnCells l)[j * 2 + k]? = some u := by
      intro k u hu
      obtain ⟨cj, r1, r2⟩ := rdAll_get (w := w) (P := fun _ => True) (rSpns_all.2 ⟨rfl, h.fit⟩ : rdAll rSpn w (fun _ => True) (spnCells l) l) j hj
      obtain ⟨rfl, -⟩ := rSpn_rd.1 r1
      exact r2 k u hu
    have a0 := hc _ _ (get 0 _ rfl)
    have a1 := hc _ _ (get 1 _ rfl)
    rw [Addr.add_lit, Nat.zero_add] at a0 a1
    exact ⟨a0, a1, fun k => by simp [World.frozen?, g2]⟩
theorem OwnS.app {e : TypeId} {w : World} {base : Nat} {v : Value} {l m : List Spn} (h : w.ownsRow base e 2 v (l.length + m.length) (spnCells l ++ spnCells m)) (hl : ∀ y ∈ l, In2 y) (hm : ∀ y ∈ m, In2 y) : OwnS e w base v (l ++ m) := by
  refine ⟨?_, fun y hy => ?_⟩
  · rw [spnCells_append, List.length_append]
    exact h
  · rcases List.mem_append.1 hy with hy | hy
    · exact hl y hy
    · exact hm y hy
theorem OwnS.base_below {e : TypeId} {w w' : World} {base : Nat} {v v' : Value} {l : List Spn} (h : OwnS e w base v l) (hb : base ≤ w.heap.size) (g : Grew w w' v v') : Below base w w' :=
  (Below.refl base w).grown g.grown hb (fun k hk => (h.row.lt k hk).1)
end Go.Proofs.Ytinlgoljaiolnaa
namespace Go.Proofs.Ytinlgoljaiolnaa
open Go.RowKit
set_option linter.unusedVariables false
def In4 (x : Rfr) : Prop := In64 x.1 ∧ In64 x.2.1 ∧ In64 x.2.2.1 ∧ In64 x.2.2.2
def rfr4 (x : Rfr) : List Value := [.int .i64 x.1, .int .i64 x.2.1, .int .i64 x.2.2.1, .int .i64 x.2.2.2]
def rfrCells (l : List Rfr) : List Value := l.flatMap rfr4
theorem rRfr_rd {w : World} {P : Nat → Prop} {cs : List Value} {x : Rfr} : rRfr.rd w P cs x ↔ cs = rfr4 x ∧ In4 x := by
  constructor
  · rintro ⟨_, _, rfl, ⟨rfl, h1⟩, _, _, rfl, ⟨rfl, h2⟩, _, _, rfl, ⟨rfl, h3⟩, rfl, h4⟩
    exact ⟨rfl, h1, h2, h3, h4⟩
  · rintro ⟨rfl, h1, h2, h3, h4⟩
    exact ⟨[_], [_, _, _], rfl, ⟨rfl, h1⟩, [_], [_, _], rfl, ⟨rfl, h2⟩, [_], [_], rfl, ⟨rfl, h3⟩, rfl, h4⟩
theorem rRfrs_all {w : World} {P : Nat → Prop} : ∀ {l : List Rfr} {xs : List Value}, rdAll rRfr w P xs l ↔ xs = rfrCells l ∧ ∀ x ∈ l, In4 x
  | [], xs => ⟨fun h => ⟨h, fun x hx => by cases hx⟩, fun h => h.1⟩
  | y :: l, xs => by
    constructor
    · rintro ⟨c, r, rfl, h1, h2⟩
      obtain ⟨rfl, k1⟩ := rRfr_rd.1 h1
      obtain ⟨rfl, k2⟩ := rRfrs_all.1 h2
      exact ⟨rfl, fun x hx => (List.mem_cons.1 hx).elim (fun e => e ▸ k1) (fun hx => k2 x hx)⟩
    · rintro ⟨rfl, h⟩
      exact ⟨rfr4 y, rfrCells l, rfl, rRfr_rd.2 ⟨rfl, h y (by simp)⟩, rRfrs_all.2 ⟨rfl, fun x hx => h x (by simp [hx])⟩⟩
theorem rRfrs_at {w : World} {P : Nat → Prop} {a : Option Addr} {n c : Nat} {l : List Rfr} (h : rRfrs.rd w P [.slice a n c] l) (hn : 0 < n) :
    ∃ b off, a = some ⟨b, off, none⟩ ∧ P b ∧ b < w.heap.size ∧ ∀ (j : Nat) (hj : j < l.length),
      w.cell? ⟨b, off + j * 4, none⟩ = some (.int .i64 l[j].1) ∧ w.cell? ⟨b, off + j * 4 + 1, none⟩ = some (.int .i64 l[j].2.1) ∧ w.cell? ⟨b, off + j * 4 + 2, none⟩ = some (.int .i64 l[j].2.2.1) ∧ w.cell? ⟨b, off + j * 4 + 3, none⟩ = some (.int .i64 l[j].2.2.2) ∧ In4 l[j] := by
  obtain ⟨b, off, e1, e2, e3, e4⟩ := rList_at h hn
  refine ⟨b, off, e1, e2, e3, fun j hj => ?_⟩
  obtain ⟨cj, g1, g2⟩ := e4 j hj
  obtain ⟨rfl, k⟩ := rRfr_rd.1 g1
  have g0 := g2 0 _ rfl
  have g1 := g2 1 _ rfl
  have g3 := g2 2 _ rfl
  have g4 := g2 3 _ rfl
  rw [show rRfr.size = 4 from rfl] at g0 g1 g3 g4
  rw [Nat.add_zero] at g0
  rw [← Nat.add_assoc] at g1 g3 g4
  exact ⟨g0, g1, g3, g4, k⟩
theorem rfrCells_append (l m : List Rfr) : rfrCells (l ++ m) = rfrCells l ++ rfrCells m := by simp [rfrCells]
structure OwnR (e : TypeId) (w : World) (base : Nat) (v : Value) (l : List Rfr) : Prop where
  row : w.ownsRow base e 4 v l.length (rfrCells l)
  fit : ∀ x ∈ l, In4 x
theorem OwnR.nil (e : TypeId) (w : World) (base : Nat) : OwnR e w base (.slice none 0 0) [] := ⟨World.ownsRow_nil w base e 4, fun x hx => by cases hx⟩
theorem OwnR.keep {e : TypeId} {w w' : World} {base : Nat} {v : Value} {l : List Rfr} (h : OwnR e w base v l) (hk : ∀ b, base ≤ b → b < w.heap.size → w'.heap[b]? = w.heap[b]?) : OwnR e w' base v l := by
  refine ⟨⟨h.row.1, ?_⟩, h.fit⟩
  rcases h.row.2 with h0 | ⟨g, cap, cur, rfl, g1, g2, g3⟩
  · exact .inl h0
  · exact .inr ⟨g, cap, cur, rfl, g1, by rw [hk g g1 (Array.getElem?_eq_some_iff.1 g2).1]; exact g2, g3⟩
theorem OwnR.below {e : TypeId} {w w' : World} {base : Nat} {v : Value} {l : List Rfr} (h : OwnR e w base v l) (k : Below w.heap.size w w') : OwnR e w' base v l := h.keep fun b _ hl => k.block b hl
theorem OwnR.mono {e : TypeId} {w : World} {base base' : Nat} {v : Value} {l : List Rfr} (h : OwnR e w base v l) (hb : base' ≤ base) : OwnR e w base' v l := by
  refine ⟨⟨h.row.1, ?_⟩, h.fit⟩
  rcases h.row.2 with h2 | ⟨g, cap, cur, hv, hg, r⟩
  · exact .inl h2
  · exact .inr ⟨g, cap, cur, hv, by omega, r⟩
theorem OwnR.slice {e : TypeId} {w : World} {base : Nat} {v : Value} {l : List Rfr} (h : OwnR e w base v l) : ∃ a c, v = .slice a l.length c ∧ l.length ≤ c ∧ (a = none → c = 0) := by
  rcases h.row.2 with ⟨rfl, h0⟩ | ⟨g, cap, cur, rfl, g1, g2, g3, g4, g5, g6⟩
  · exact ⟨none, 0, by rw [h0], by omega, fun _ => rfl⟩
  · exact ⟨_, _, rfl, g3, fun e => by cases e⟩
theorem OwnR.rd {e : TypeId} {w : World} {base : Nat} {a : Option Addr} {n c : Nat} {l : List Rfr} (h : OwnR e w base (.slice a n c) l) (hb : l.length ≤ 4398046510976) : rRfrs.rd w (fun b => base ≤ b) [.slice a n c] l := by
  obtain ⟨a', c', e1, hr⟩ := rd_owned (A := rRfr) (hs := by decide) h.row (rRfrs_all.2 ⟨rfl, h.fit⟩ : rdAll rRfr w (fun b => base ≤ b) _ l) rfl (by show l.length * 32 ≤ _; omega) (fun b e => (h.row.lt b e).1)
  simp only [Value.slice.injEq] at e1
  obtain ⟨rfl, rfl, rfl⟩ := e1
  exact hr
theorem OwnR.at {e : TypeId} {w : World} {base : Nat} {a : Option Addr} {n c : Nat} {l : List Rfr} (h : OwnR e w base (.slice a n c) l) (hl : 0 < l.length) : ∃ g, a = some ⟨g, 0, none⟩ ∧ base ≤ g ∧ g < w.heap.size ∧ n = l.length ∧
    ∀ (j : Nat) (hj : j < l.length), w.cell? ⟨g, j * 4, none⟩ = some (.int .i64 l[j].1) ∧ w.cell? ⟨g, j * 4 + 1, none⟩ = some (.int .i64 l[j].2.1) ∧ w.cell? ⟨g, j * 4 + 2, none⟩ = some (.int .i64 l[j].2.2.1) ∧ w.cell? ⟨g, j * 4 + 3, none⟩ = some (.int .i64 l[j].2.2.2) ∧ ∀ k, w.frozen? ⟨g, k, none⟩ = false := by
  rcases h.row.2 with ⟨h1, h0⟩ | ⟨g, cap, cur, e1, g1, g2, g3, g4, g5, g6⟩
  · omega
  · have e2 := e1
    simp only [Value.slice.injEq] at e2
    obtain ⟨rfl, rfl, rfl⟩ := e2
    refine ⟨g, rfl, g1, (Array.getElem?_eq_some_iff.1 g2).1, rfl, fun j hj => ?_⟩
    have hc := h.row.cells (g := g) rfl
    have get : ∀ k u, (rfr4 l[j])[k]? = some u → (rfrCells l)[j * 4 + k]? = some u := by
      intro k u hu
      obtain ⟨cj, r1, r2⟩ := rdAll_get (w := w) (P := fun _ => True) (rRfrs_all.2 ⟨rfl, h.fit⟩ : rdAll rRfr w (fun _ => True) (rfrCells l) l) j hj
      obtain ⟨rfl, -⟩ := rRfr_rd.1 r1
      exact r2 k u hu
    have a0 := hc _ _ (get 0 _ rfl)
    have a1 := hc _ _ (get 1 _ rfl)
    have a2 := hc _ _ (get 2 _ rfl)
    have a3 := hc _ _ (get 3 _ rfl)
    rw [Addr.add_lit, Nat.zero_add] at a0 a1 a2 a3
    exact ⟨a0, a1, a2, a3, fun k => by simp [World.frozen?, g2]⟩
theorem OwnR.base_below {e : TypeId} {w w' : World} {base : Nat} {v v' : Value} {l : List Rfr} (h : OwnR e w base v l) (hb : base ≤ w.heap.size) (g : Grew w w' v v') : Below base w w' :=
  (Below.refl base w).grown g.grown hb (fun k hk => (h.row.lt k hk).1)
theorem elem_rfr : ElemOf Try.prog 27 63 rRfr := elemOf (z := .agg #[.int .i64 0, .int .i64 0, .int .i64 0, .int .i64 0]) Try.underlying27 (by kernel_rfl) rfl rfl rfl (by decide)
theorem elem_edg : ElemOf Try.prog 106 108 rSpn := elemOf (z := .agg #[.int .i64 0, .int .i64 0]) Try.underlying106 (by kernel_rfl) rfl rfl rfl (by decide)
theorem elem_cnr : ElemOf Try.prog 34 56 rExt := elemOf (z := .agg #[.int .i64 0, .int .i64 0, .int .i64 0]) Try.underlying34 (by kernel_rfl) rfl rfl rfl (by decide)
theorem place_of {w : World} {v v' : Value} (k : v'.ownBlock = v.ownBlock ∨ v'.ownBlock = some w.heap.size) : ∀ b, v'.ownBlock = some b → v.ownBlock = some b ∨ w.heap.size ≤ b := by
  intro b e
  rcases k with k | k
  · exact .inl (k.symm.trans e)
  · exact .inr (by rw [e] at k; simp only [Option.some.injEq] at k; omega)
theorem run_append_rfr {w : World} {base : Nat} {v : Value} {l : List Rfr} (hown : OwnR 63 w base v l) {ad : Addr} {c : Nat} {x : Rfr} (hnews : ∀ j u, (rfr4 x)[j]? = some u → w.cell? (ad.add j) = some u) (hX : In4 x) (hb : l.length ≤ 1000000) (hbase : base ≤ w.heap.size) (ty : TypeId) :
    ∃ v' w', (Builtin.append_ #[27, 27] ty #[v, .slice (some ad) 1 c]).run Try.prog w = .ok v' w' ∧ OwnR 63 w' base v' (l ++ [x]) ∧ Grew w w' v v' := by
  obtain ⟨ht, i, z, hi, hz, hsize, hby, hzs, hpos⟩ := elem_rfr
  obtain ⟨v', w', hr, k1, k2, -, k4⟩ := run_append_own_at (P := Try.prog) w base 27 ty 63 i z 4 32 ht hi hz hsize hby hzs (by decide) v l.length (rfrCells l) hown.row ad 1 c (rfr4 x) rfl hnews (rRfr.one (rRfr_rd.2 ⟨rfl, hX⟩ : rRfr.rd w (fun _ => True) _ x)) (by unfold maxLen; omega) (by omega) hbase
  refine ⟨v', w', hr, ⟨?_, fun y hy => ?_⟩, ⟨k2, place_of k4⟩⟩
  · rw [rfrCells_append, List.length_append]
    simpa [rfrCells] using k1
  · rcases List.mem_append.1 hy with hy | hy
    · exact hown.fit y hy
    · rw [List.mem_singleton.1 hy]; exact hX
theorem run_append_cnr {w : World} {base : Nat} {v : Value} {l : List Ext} (hown : OwnE 56 w base v l) {ad : Addr} {c : Nat} {x : Ext} (hnews : ∀ j u, (ext3 x)[j]? = some u → w.cell? (ad.add j) = some u) (hX : In3 x) (hb : l.length ≤ 1000000) (hbase : base ≤ w.heap.size) (ty : TypeId) :
    ∃ v' w', (Builtin.append_ #[34, 34] ty #[v, .slice (some ad) 1 c]).run Try.prog w = .ok v' w' ∧ OwnE 56 w' base v' (l ++ [x]) ∧ Grew w w' v v' := by
  obtain ⟨ht, i, z, hi, hz, hsize, hby, hzs, hpos⟩ := elem_cnr
  obtain ⟨v', w', hr, k1, k2, -, k4⟩ := run_append_own_at (P := Try.prog) w base 34 ty 56 i z 3 24 ht hi hz hsize hby hzs (by decide) v l.length (extCells l) hown.row ad 1 c (ext3 x) rfl hnews (rExt.one (rExt_rd.2 ⟨rfl, hX⟩ : rExt.rd w (fun _ => True) _ x)) (by unfold maxLen; omega) (by omega) hbase
  exact ⟨v', w', hr, OwnE.push k1 hown.fit hX, ⟨k2, place_of k4⟩⟩
theorem run_append_edg2 {w : World} {base : Nat} {v : Value} {l : List Spn} (hown : OwnS 108 w base v l) {ad : Addr} {c : Nat} {x y : Spn} (hnews : ∀ j u, (spnCells [x, y])[j]? = some u → w.cell? (ad.add j) = some u) (hX : In2 x) (hY : In2 y) (hb : l.length ≤ 1000000) (hbase : base ≤ w.heap.size) (ty : TypeId) :
    ∃ v' w', (Builtin.append_ #[106, 106] ty #[v, .slice (some ad) 2 c]).run Try.prog w = .ok v' w' ∧ OwnS 108 w' base v' (l ++ [x, y]) ∧ Grew w w' v v' := by
  obtain ⟨ht, i, z, hi, hz, hsize, hby, hzs, hpos⟩ := elem_edg
  have hin : ∀ u ∈ [x, y], In2 u := by
    intro u hu
    simp only [List.mem_cons, List.not_mem_nil, or_false] at hu
    rcases hu with rfl | rfl
    · exact hX
    · exact hY
  obtain ⟨v', w', hr, k1, k2, -, k4⟩ := run_append_own_at (P := Try.prog) w base 106 ty 108 i z 2 16 ht hi hz hsize hby hzs (by decide) v l.length (spnCells l) hown.row ad 2 c (spnCells [x, y]) rfl hnews
    (fun u hu => by
      obtain ⟨s, hs, hus⟩ := List.mem_flatMap.1 hu
      exact rSpn.one (rSpn_rd.2 ⟨rfl, hin s hs⟩ : rSpn.rd w (fun _ => True) _ s) u hus) (by unfold maxLen; omega) (by omega) hbase
  exact ⟨v', w', hr, OwnS.app k1 hown.fit hin, ⟨k2, place_of k4⟩⟩
end Go.Proofs.Ytinlgoljaiolnaa
namespace Go.Proofs.Ytinlgoljaiolnaa
open Go.RowKit
set_option linter.unusedVariables false
theorem boxedRow (w : World) (T : TypeId) (xs : List Value) : ∃ w0, w.alloc (.cells xs.toArray T) = w0 ∧ Row w0 w.heap.size T xs ∧ Below w.heap.size w w0 ∧ w0.heap.size = w.heap.size + 1 :=
  ⟨_, rfl, row_new _ _ _, (Below.refl _ _).alloc (Nat.le_refl _) _, by simp⟩
theorem Row.range {w : World} {g : Nat} {t : TypeId} {xs : List Value} (h : Row w g t xs) : w.rangeAt g 0 xs := by
  intro j v hv
  rw [Nat.zero_add]
  exact h.cell hv
theorem results_row {Pr : Program} {fn : Func} {p : Tmp} {ty t : TypeId} {tmps : Array Value} {w : World} {b : Nat} {xs : List Value} {d : TypeDesc} (h : fn.results = #[.cell p ty]) (hp : tmps.getD p undef = .pointer (some ⟨b, 0, none⟩))
    (V : Row w b t xs) (hu : Pr.underlying ty = some d) (hd : d.isRow = true) (hi : (Pr.info? ty).map (·.size) = some xs.length) : (results fn tmps).run Pr w = .ok (.agg xs.toArray) w := by
  have hp' : tmps[p]?.getD undef = .pointer (some ⟨b, 0, none⟩) := by simpa using hp
  simp [results, h, hp', asAddr, run_loadVar_mid w b 0 ty xs d V.range hu hd hi]
end Go.Proofs.Ytinlgoljaiolnaa
