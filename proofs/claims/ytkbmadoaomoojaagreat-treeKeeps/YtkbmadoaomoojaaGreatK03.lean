/-
  Facts that the proof rests on, part 4. Conditions: those that each of them names.
-/
import Derived.Lib.AppendZeros
import Derived.Test.YtkbmadoaomoojaaGreatRows
import Derived.Test.YtkbmadoaomoojaaGreatK00
import Derived.Test.YtkbmadoaomoojaaGreatK02
namespace Go.Proofs.YtkbmadoaomoojaaGreat
set_option maxRecDepth 20000
open Go.RowKit
set_option linter.unusedVariables false
def itm2 (x : Itm) : List Value := [.int .u64 (x.1.toNat : Int), .int .u64 (x.2.toNat : Int)]
def itmCells (l : List Itm) : List Value := l.flatMap itm2
theorem rItm_rd {w : World} {P : Nat → Prop} {cs : List Value} {x : Itm} : rItm.rd w P cs x ↔ cs = itm2 x := by
 constructor
 · rintro ⟨_, _, rfl, rfl, rfl⟩
   rfl
 · rintro rfl
   exact ⟨[_], [_], rfl, rfl, rfl⟩
theorem rItms_all {w : World} {P : Nat → Prop} : ∀ {l : List Itm} {xs : List Value}, rdAll rItm w P xs l ↔ xs = itmCells l
 | [], xs => ⟨fun h => h, fun h => h⟩
 | y :: l, xs => by
   constructor
   · rintro ⟨c, r, rfl, h1, h2⟩
     obtain rfl := rItm_rd.1 h1
     obtain rfl := rItms_all.1 h2
     rfl
   · rintro rfl
     exact ⟨itm2 y, itmCells l, rfl, rItm_rd.2 rfl, rItms_all.2 rfl⟩
theorem rItms_at {w : World} {P : Nat → Prop} {a : Option Addr} {n c : Nat} {l : List Itm} (h : rItms.rd w P [.slice a n c] l) (hn : 0 < n) :
 ∃ b off, a = some ⟨b, off, none⟩ ∧ P b ∧ b < w.heap.size ∧ ∀ (j : Nat) (hj : j < l.length),
   w.cell? ⟨b, off + j * 2, none⟩ = some (.int .u64 (l[j].1.toNat : Int)) ∧ w.cell? ⟨b, off + j * 2 + 1, none⟩ = some (.int .u64 (l[j].2.toNat : Int)) := by
 obtain ⟨b, off, e1, e2, e3, e4⟩ := rList_at h hn
 refine ⟨b, off, e1, e2, e3, fun j hj => ?_⟩
 obtain ⟨cj, g1, g2⟩ := e4 j hj
 obtain rfl := rItm_rd.1 g1
 have g0 := g2 0 _ rfl
 have g1 := g2 1 _ rfl
 rw [show rItm.size = 2 from rfl] at g0 g1
 rw [Nat.add_zero] at g0
 rw [← Nat.add_assoc] at g1
 exact ⟨g0, g1⟩
theorem rList_len {α : Type} {A : Rep α} {hs : 0 < A.size} {w : World} {P : Nat → Prop} {a : Option Addr} {n c : Nat} {l : List α} (h : (rList A hs).rd w P [.slice a n c] l) : l.length = n ∧ n ≤ c ∧ (a = none → c = 0) ∧ n * A.bytes ≤ 140737488351232 := by
 obtain ⟨a', n', c', e, h1, h2, h3, h4, -⟩ := h
 simp only [List.cons.injEq, Value.slice.injEq, and_true] at e
 obtain ⟨rfl, rfl, rfl⟩ := e
 exact ⟨h1, h2, h3, h4⟩
theorem itmCells_length (l : List Itm) : (itmCells l).length = l.length * 2 := by
 induction l with
 | nil => rfl
 | cons x l ih => simp only [itmCells, List.flatMap_cons, List.length_append, List.length_cons] at *; rw [ih]; simp [itm2]; omega
theorem itmCells_append (l m : List Itm) : itmCells (l ++ m) = itmCells l ++ itmCells m := by simp [itmCells]
structure OwnI (e : TypeId) (w : World) (base : Nat) (v : Value) (l : List Itm) : Prop where
 row : w.ownsRow base e 2 v l.length (itmCells l)
theorem OwnI.nil (e : TypeId) (w : World) (base : Nat) : OwnI e w base (.slice none 0 0) [] := ⟨World.ownsRow_nil w base e 2⟩
theorem OwnI.keep {e : TypeId} {w w' : World} {base : Nat} {v : Value} {l : List Itm} (h : OwnI e w base v l) (hk : ∀ b, base ≤ b → b < w.heap.size → w'.heap[b]? = w.heap[b]?) : OwnI e w' base v l := by
 refine ⟨⟨h.row.1, ?_⟩⟩
 rcases h.row.2 with h0 | ⟨g, cap, cur, rfl, g1, g2, g3⟩
 · exact .inl h0
 · exact .inr ⟨g, cap, cur, rfl, g1, by rw [hk g g1 (Array.getElem?_eq_some_iff.1 g2).1]; exact g2, g3⟩
theorem OwnI.keep1 {e : TypeId} {w w' : World} {base : Nat} {v : Value} {l : List Itm} (h : OwnI e w base v l) (hk : ∀ b, v.ownBlock = some b → w'.heap[b]? = w.heap[b]?) : OwnI e w' base v l := by
 refine ⟨⟨h.row.1, ?_⟩⟩
 rcases h.row.2 with h0 | ⟨g, cap, cur, rfl, g1, g2, g3⟩
 · exact .inl h0
 · exact .inr ⟨g, cap, cur, rfl, g1, by rw [hk g rfl]; exact g2, g3⟩
theorem OwnI.below {e : TypeId} {w w' : World} {base : Nat} {v : Value} {l : List Itm} (h : OwnI e w base v l) (k : Below w.heap.size w w') : OwnI e w' base v l := h.keep fun b _ hl => k.block b hl
theorem OwnI.mono {e : TypeId} {w : World} {base base' : Nat} {v : Value} {l : List Itm} (h : OwnI e w base v l) (hb : base' ≤ base) : OwnI e w base' v l := by
 refine ⟨⟨h.row.1, ?_⟩⟩
 rcases h.row.2 with h2 | ⟨g, cap, cur, hv, hg, r⟩
 · exact .inl h2
 · exact .inr ⟨g, cap, cur, hv, by omega, r⟩
theorem OwnI.slice {e : TypeId} {w : World} {base : Nat} {v : Value} {l : List Itm} (h : OwnI e w base v l) : ∃ a c, v = .slice a l.length c ∧ l.length ≤ c ∧ (a = none → c = 0) := by
 rcases h.row.2 with ⟨rfl, h0⟩ | ⟨g, cap, cur, rfl, g1, g2, g3, g4, g5, g6⟩
 · exact ⟨none, 0, by rw [h0], by omega, fun _ => rfl⟩
 · exact ⟨_, _, rfl, g3, fun e => by cases e⟩
theorem OwnI.rd {e : TypeId} {w : World} {base : Nat} {a : Option Addr} {n c : Nat} {l : List Itm} (h : OwnI e w base (.slice a n c) l) (hb : l.length ≤ 8796093021952) : rItms.rd w (fun b => base ≤ b) [.slice a n c] l := by
 obtain ⟨a', c', e1, hr⟩ := rd_owned (A := rItm) (hs := by decide) h.row (rItms_all.2 rfl : rdAll rItm w (fun b => base ≤ b) _ l) rfl (by show l.length * 16 ≤ _; omega) (fun b e => (h.row.lt b e).1)
 simp only [Value.slice.injEq] at e1
 obtain ⟨rfl, rfl, rfl⟩ := e1
 exact hr
theorem elem_itm : ElemOf Tryz.prog 36 45 rItm := elemOf (z := .agg #[.int .u64 0, .int .u64 0]) Tryz.underlying36 (by kernel_rfl) rfl rfl rfl (by decide)
theorem itmCells_at : ∀ (l : List Itm) (j : Nat) (u : Value), (itmCells l)[j]? = some u → ∃ q, ∃ hq : q < l.length, ∃ r, j = q * 2 + r ∧ (itm2 l[q])[r]? = some u
 | [], j, u, h => by simp [itmCells] at h
 | x :: l, j, u, h => by
   rw [show itmCells (x :: l) = itm2 x ++ itmCells l from List.flatMap_cons] at h
   by_cases hj : j < 2
   · rw [List.getElem?_append_left (show j < 2 from hj)] at h
     exact ⟨0, by simp, j, by omega, h⟩
   · rw [List.getElem?_append_right (show 2 ≤ j by omega)] at h
     obtain ⟨q, hq, r, e, k⟩ := itmCells_at l (j - 2) u h
     exact ⟨q + 1, by simpa using hq, r, by omega, by simpa using k⟩
theorem rItms_cells {w : World} {P : Nat → Prop} {ad : Addr} {n c : Nat} {l : List Itm} (h : rItms.rd w P [.slice (some ad) n c] l) (hn : 0 < n) : ∀ j u, (itmCells l)[j]? = some u → w.cell? (ad.add j) = some u := by
 obtain ⟨b, off, e, -, -, hat⟩ := rItms_at h hn
 simp only [Option.some.injEq] at e
 subst e
 intro j u hj
 obtain ⟨q, hq, r, rfl, k⟩ := itmCells_at l j u hj
 obtain ⟨c0, c1⟩ := hat q hq
 rw [Addr.add_lit, ← Nat.add_assoc]
 match r, k with
 | 0, k => simp only [itm2, List.getElem?_cons_zero, Option.some.injEq] at k; rw [← k]; exact c0
 | 1, k => simp only [itm2, List.getElem?_cons_succ, List.getElem?_cons_zero, Option.some.injEq] at k; rw [← k]; exact c1
 | r + 2, k => simp [itm2] at k
theorem OwnI.app {e : TypeId} {w : World} {base : Nat} {v : Value} {l m : List Itm} (h : w.ownsRow base e 2 v (l.length + m.length) (itmCells l ++ itmCells m)) : OwnI e w base v (l ++ m) :=
 ⟨by rw [itmCells_append, List.length_append]; exact h⟩
structure Grew (w w' : World) (v v' : Value) : Prop where
 grown : w.grownBy w' v.ownBlock
 place : ∀ b, v'.ownBlock = some b → v.ownBlock = some b ∨ w.heap.size ≤ b
theorem run_append_itms {w : World} {base : Nat} {v : Value} {l : List Itm} (hown : OwnI 45 w base v l) {P : Nat → Prop} {a : Option Addr} {n c : Nat} {m : List Itm} (h : rItms.rd w P [.slice a n c] m) (hb : l.length + n ≤ 1000000) (hbase : base ≤ w.heap.size) (ty : TypeId) :
 ∃ v' w', (Builtin.append_ #[36, 36] ty #[v, .slice a n c]).run Tryz.prog w = .ok v' w' ∧ OwnI 45 w' base v' (l ++ m) ∧ Grew w w' v v' := by
 obtain ⟨ht, i, z, hi, hz, hsize, hby, hzs, hpos⟩ := elem_itm
 obtain ⟨hl, hnc, hnil, -⟩ := rList_len h
 cases a with
 | none =>
   obtain rfl := hnil rfl
   obtain rfl : n = 0 := by omega
   obtain rfl : m = [] := List.length_eq_zero_iff.1 hl
   exact ⟨v, w, run_append_owned_none (P := Tryz.prog) (w := w) base 36 ty 45 i 2 ht hi v l.length (itmCells l) hown.row, by rw [List.append_nil]; exact hown, ⟨World.grownBy.refl _ _, fun b e => .inl e⟩⟩
 | some ad =>
   obtain ⟨v', w', hr, k1, k2, -, k4⟩ := run_append_own_at (P := Tryz.prog) w base 36 ty 45 i z 2 16 ht hi hz hsize hby hzs (by decide) v l.length (itmCells l) hown.row ad n c (itmCells m) (by rw [itmCells_length, hl])
    (fun j u hj => by
     by_cases h0 : 0 < n
     · exact rItms_cells h h0 j u hj
     · obtain rfl : n = 0 := by omega
       obtain rfl : m = [] := List.length_eq_zero_iff.1 hl
       simp [itmCells] at hj)
    (fun u hu => by
     obtain ⟨x, hx, hux⟩ := List.mem_flatMap.1 hu
     exact rItm.one (rItm_rd.2 rfl : rItm.rd w (fun _ => True) _ x) u hux) (by unfold maxLen; omega) (by omega) hbase
   refine ⟨v', w', hr, OwnI.app (by rw [hl]; exact k1), ⟨k2, fun b' e => ?_⟩⟩
   rcases k4 with k | k
   · exact .inl (k.symm.trans e)
   · exact .inr (by rw [e] at k; simp only [Option.some.injEq] at k; omega)
theorem OwnI.lit (e : TypeId) (w : World) (base : Nat) (hb : base ≤ w.heap.size) (x : Itm) :
 OwnI e (w.alloc (.cells #[.int .u64 (x.1.toNat : Int), .int .u64 (x.2.toNat : Int)] e)) base (.slice (some ⟨w.heap.size, 0, none⟩) 1 1) [x] :=
 ⟨⟨rfl, .inr ⟨w.heap.size, 1, _, rfl, hb, heap_alloc_new w _, Nat.le_refl 1, by decide, rfl, rfl⟩⟩⟩
theorem OwnI.base_below {e : TypeId} {w w' : World} {base : Nat} {v v' : Value} {l : List Itm} (h : OwnI e w base v l) (hb : base ≤ w.heap.size) (g : Grew w w' v v') : Below base w w' :=
 (Below.refl base w).grown g.grown hb (fun k hk => (h.row.lt k hk).1)
theorem Row.whole2 {w : World} {b : Nat} {t : TypeId} {x0 x1 : Value} (V : Row w b t [x0, x1]) (u0 u1 : Value) :
 ∃ w', (w.setCell ⟨b, 0, none⟩ u0).setCell ⟨b, 1, none⟩ u1 = w' ∧ Row w' b t [u0, u1] ∧ Kept (· ≠ b) w w' :=
 ⟨_, rfl, (V.set 0 u0).set 1 u1, ((Kept.refl _ w).setCell (p := ⟨b, 0, none⟩) (fun h => h rfl) u0).setCell (p := ⟨b, 1, none⟩) (fun h => h rfl) u1⟩
theorem st_ret {Pr : Program} {fn : Func} {p q : Tmp} {ty t : TypeId} {tmps : Array Value} {w w2 : World} {b : Nat} {d : TypeDesc} {x0 x1 : Value} (V : Row w2 b t [x0, x1]) (bel : Below w.heap.size w w2) (hb : w.heap.size ≤ b)
 (u0 u1 : Value) (err : Int) (h : fn.results = #[.cell p ty, .tmp q]) (hp : tmps.getD p undef = .pointer (some ⟨b, 0, none⟩)) (hq : tmps.getD q undef = .int .i64 err)
 (hu : Pr.underlying ty = some d) (hd : d.isRow = true) (hi : (Pr.info? ty).map (·.size) = some 2) {R : Ending → World → Prop}
 (hR : ∀ w', Kept (· ≠ b) w2 w' → Below w.heap.size w w' → R (.returned (.tuple #[.agg #[u0, u1], .int .i64 err])) w') :
 bodyPost Pr fn R .ret { tmps := tmps, defers := [] } ((w2.setCell ⟨b, 0, none⟩ u0).setCell ⟨b, 1, none⟩ u1) := by
 obtain ⟨w', hw, V', K'⟩ := V.whole2 u0 u1
 rw [hw]
 have hr := results_rowt (Pr := Pr) (fn := fn) h hp V' hu hd hi
 rw [hq] at hr
 exact bodyPost_ret hr rfl (hR w' K' (Kept.belowOf bel K' hb))
theorem st_ret1 {Pr : Program} {fn : Func} {p : Tmp} {ty t : TypeId} {tmps : Array Value} {w w2 : World} {b : Nat} {d : TypeDesc} {x0 x1 : Value} (V : Row w2 b t [x0, x1]) (bel : Below w.heap.size w w2) (hb : w.heap.size ≤ b)
 (u0 u1 : Value) (h : fn.results = #[.cell p ty]) (hp : tmps.getD p undef = .pointer (some ⟨b, 0, none⟩))
 (hu : Pr.underlying ty = some d) (hd : d.isRow = true) (hi : (Pr.info? ty).map (·.size) = some 2) {R : Ending → World → Prop}
 (hR : ∀ w', Kept (· ≠ b) w2 w' → Below w.heap.size w w' → R (.returned (.agg #[u0, u1])) w') :
 bodyPost Pr fn R .ret { tmps := tmps, defers := [] } ((w2.setCell ⟨b, 0, none⟩ u0).setCell ⟨b, 1, none⟩ u1) := by
 obtain ⟨w', hw, V', K'⟩ := V.whole2 u0 u1
 rw [hw]
 have hr := results_row (Pr := Pr) (fn := fn) h hp V' hu hd hi
 exact bodyPost_ret hr rfl (hR w' K' (Kept.belowOf bel K' hb))
end Go.Proofs.YtkbmadoaomoojaaGreat
