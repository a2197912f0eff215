/-
  Lists that a call makes for itself, element by element: what is appended, and what stays. It imports no program. Conditions: those that each lemma names.
-/
import Derived.Test.YtinlgoljaiolnabRep
import Derived.Laws.AppendOwnNone
import Derived.Deep.RegionLaw
namespace Go.Proofs.Ytinlgoljaiolnab
open Go.RowKit
set_option linter.unusedVariables false

/-- A list of the call's own, in blocks from base on: no element lies in the list's own row. -/
def Owns {α : Type} (A : Rep α) (e : TypeId) (w : World) (base : Nat) (v : Value) (l : List α) : Prop :=
  ∃ xs, w.ownsRow base e A.size v l.length xs ∧ rdAll A w (fun b => base ≤ b ∧ v.ownBlock ≠ some b) xs l

theorem Owns.nil {α : Type} (A : Rep α) (e : TypeId) (w : World) (base : Nat) : Owns A e w base (.slice none 0 0) ([] : List α) := ⟨[], World.ownsRow_nil w base e A.size, rfl⟩

theorem Owns.keep {α : Type} {A : Rep α} {e : TypeId} {w w' : World} {base : Nat} {v : Value} {l : List α} (h : Owns A e w base v l) (hk : ∀ b, base ≤ b → b < w.heap.size → w'.heap[b]? = w.heap[b]?) : Owns A e w' base v l := by
  obtain ⟨xs, h1, h2⟩ := h
  refine ⟨xs, ⟨h1.1, ?_⟩, rdAll_keep (fun b hb hl => hk b hb.1 hl) h2⟩
  rcases h1.2 with h0 | ⟨g, cap, cur, rfl, g1, g2, g3⟩
  · exact .inl h0
  · exact .inr ⟨g, cap, cur, rfl, g1, by rw [hk g g1 (Array.getElem?_eq_some_iff.1 g2).1]; exact g2, g3⟩

theorem Owns.below {α : Type} {A : Rep α} {e : TypeId} {w w' : World} {base : Nat} {v : Value} {l : List α} (h : Owns A e w base v l) (k : Below w.heap.size w w') : Owns A e w' base v l := h.keep fun b _ hl => k.block b hl

theorem Owns.setCell {α : Type} {A : Rep α} {e : TypeId} {w : World} {base : Nat} {v : Value} {l : List α} (h : Owns A e w base v l) {p : Addr} (hp : p.block < base) (u : Value) : Owns A e (w.setCell p u) base v l :=
  h.keep fun b hb _ => Below.heap_setCell _ _ _ _ (by omega)

theorem Owns.row {α : Type} {A : Rep α} {e : TypeId} {w : World} {base : Nat} {v : Value} {l : List α} (h : Owns A e w base v l) : ∀ k, v.ownBlock = some k → base ≤ k ∧ k < w.heap.size := by
  obtain ⟨xs, h1, _⟩ := h
  exact h1.lt

theorem Owns.rd {α : Type} {A : Rep α} {hs : 0 < A.size} {e : TypeId} {w : World} {base : Nat} {v : Value} {l : List α} (h : Owns A e w base v l) (hb : l.length * A.bytes ≤ 140737488351232) :
    ∃ a c, v = .slice a l.length c ∧ (rList A hs).rd w (fun b => base ≤ b) [.slice a l.length c] l := by
  obtain ⟨xs, h1, h2⟩ := h
  exact rd_owned h1 (rdAll_weaken (fun b hb _ => hb.1) h2) rfl hb (fun b e => (h1.lt b e).1)

/-- One element more. -/
theorem Owns.push {α : Type} {A : Rep α} {e : TypeId} {w w' : World} {base : Nat} {v v' : Value} {l : List α} {xs c : List Value} {x : α}
    (h2 : rdAll A w (fun b => base ≤ b ∧ v.ownBlock ≠ some b) xs l) (hc : A.rd w (fun b => base ≤ b ∧ v.ownBlock ≠ some b) c x)
    (ho : w'.ownsRow base e A.size v' (l.length + 1) (xs ++ c)) (hg : w.grownBy w' v.ownBlock) (hat : v'.ownBlock = v.ownBlock ∨ v'.ownBlock = some w.heap.size) : Owns A e w' base v' (l ++ [x]) := by
  refine ⟨xs ++ c, by simpa using ho, ?_⟩
  have h3 := rdAll_append h2 (rdAll_one_elem hc)
  have h6 : rdAll A w (fun b => (base ≤ b ∧ v'.ownBlock ≠ some b) ∧ v.ownBlock ≠ some b) (xs ++ c) (l ++ [x]) := rdAll_weaken (fun b hb hl => ⟨⟨hb.1, fun e => by
    rcases hat with h | h
    · exact hb.2 (h ▸ e)
    · rw [h] at e; cases e; omega⟩, hb.2⟩) h3
  have h7 := rdAll_keep (w' := w') (fun b hb hl => hg.block b hl (fun e => hb.2 e.symm)) h6
  exact rdAll_weaken (fun b hb _ => hb.1) h7

/-- What the model must know of an element's type. -/
def ElemOf {α : Type} (Pr : Program) (t e : TypeId) (A : Rep α) : Prop :=
  Pr.underlying t = some (.slice e) ∧ ∃ i z, Pr.info? e = some i ∧ i.zero = some z ∧ i.size = A.size ∧ i.bytes = A.bytes ∧ z.cells.size = A.size ∧ 0 < A.size

theorem elemOf {α : Type} {Pr : Program} {t e : TypeId} {A : Rep α} {z : Value} {s b : Nat} (h1 : Pr.underlying t = some (.slice e)) (h2 : (Pr.info? e).map (fun i => (i.zero, i.size, i.bytes)) = some (some z, s, b)) (h3 : A.size = s) (h4 : A.bytes = b) (h5 : z.cells.size = s) (h6 : 0 < s) : ElemOf Pr t e A := by
  obtain ⟨i0, hi, hz0, hz1, hz2⟩ := info_parts h2
  exact ⟨h1, i0, z, hi, hz0, by rw [hz1, h3], by rw [hz2, h4], by rw [h5, h3], by omega⟩

theorem run_append_rep {α : Type} {Pr : Program} {t e ty : TypeId} {A : Rep α} (hE : ElemOf Pr t e A) {w : World} {base : Nat} {v : Value} {l : List α} (hown : Owns A e w base v l)
    {ad : Addr} {c : List Value} {x : α} (hnews : ∀ j u, c[j]? = some u → w.cell? (ad.add j) = some u) (hc : A.rd w (fun b => base ≤ b ∧ v.ownBlock ≠ some b) c x)
    (hb : (l.length + 1) * A.bytes ≤ 140737488355328) (hm : l.length + 1 ≤ maxLen) (hbase : base ≤ w.heap.size) :
    ∃ v' w', (Builtin.append_ #[t, t] ty #[v, .slice (some ad) 1 1]).run Pr w = .ok v' w' ∧ Owns A e w' base v' (l ++ [x]) ∧ w.grownBy w' v.ownBlock ∧ ∃ b d, v' = .slice b (l.length + 1) d := by
  obtain ⟨ht, i, z, hi, hz, hsize, hby, hzs, hpos⟩ := hE
  obtain ⟨xs, h1, h2⟩ := hown
  obtain ⟨v', w', hr, k1, k2, k3, k4⟩ := run_append_own_at (P := Pr) w base t ty e i z A.size A.bytes ht hi hz hsize hby hzs hpos v l.length xs h1 ad 1 1 c (by rw [A.len hc, Nat.one_mul]) hnews (A.one hc) hm hb hbase
  refine ⟨v', w', hr, Owns.push h2 hc k1 k2 k4, k2, ?_⟩
  rcases k1.2 with ⟨_, h0⟩ | ⟨g, cap, cur, rfl, _⟩
  · omega
  · exact ⟨_, _, rfl⟩

/-- One element appended, as one step of a region that draws its order. -/
theorem step_append_rep {α : Type} {Pr : Program} {t e : TypeId} {A : Rep α} (hE : ElemOf Pr t e A) {w : World} {ops : Array Oper} {o : Oper} {a : Act} {K : Act → World → Prop} {Q : Exit → Act → World → Prop} {E : Prop} (hgd : o.guard = none) (s y : Operand)
    (ho : o.op = .call { callee := .builtin .append, args := #[s, y], argTypes := #[t, t] })
    (base : Nat) (v : Value) (l : List α) (hs : a.eval s = v) (hown : Owns A e w base v l)
    (ad : Addr) (c : List Value) (x : α) (hx : a.eval y = .slice (some ad) 1 1) (hnews : ∀ j u, c[j]? = some u → w.cell? (ad.add j) = some u) (hc : A.rd w (fun b => base ≤ b ∧ v.ownBlock ≠ some b) c x)
    (hb : (l.length + 1) * A.bytes ≤ 140737488355328) (hm : l.length + 1 ≤ maxLen) (hbase : base ≤ w.heap.size)
    (h : ∀ b d w', Owns A e w' base (.slice b (l.length + 1) d) (l ++ [x]) → w.grownBy w' v.ownBlock → K (a.put o.dst (.slice b (l.length + 1) d)) w') :
    if Region.wanted o (yielded ops a.tmps) = true then Oper.wp Pr o a w K Q else E := by
  have hw : Region.wanted o (yielded ops a.tmps) = true := by simp [Region.wanted, hgd]
  rw [if_pos hw]
  obtain ⟨v', w', hr, k1, k2, b, d, rfl⟩ := run_append_rep (ty := o.type) hE hown hnews hc hb hm hbase
  unfold Oper.wp execOp
  simp only [ho, resolve, invoke, builtin, Sem.run_bind, Sem.run_pure, Result.andThen_ok, List.map_toArray, List.map_cons, List.map_nil, hs, hx, hr]
  exact h b d w' k1 k2

/-- The same where the order is the text's. -/
theorem append_rep {α : Type} {Pr : Program} {t e : TypeId} {A : Rep α} (hE : ElemOf Pr t e A) {w : World} {ops : Array Oper} {rest : List Oper} {o : Oper} {a : Act} {Q : Exit → Act → World → Prop} (hgd : o.guard = none) (s y : Operand)
    (ho : o.op = .call { callee := .builtin .append, args := #[s, y], argTypes := #[t, t] })
    (base : Nat) (v : Value) (l : List α) (hs : a.eval s = v) (hown : Owns A e w base v l)
    (ad : Addr) (c : List Value) (x : α) (hx : a.eval y = .slice (some ad) 1 1) (hnews : ∀ j u, c[j]? = some u → w.cell? (ad.add j) = some u) (hc : A.rd w (fun b => base ≤ b ∧ v.ownBlock ≠ some b) c x)
    (hb : (l.length + 1) * A.bytes ≤ 140737488355328) (hm : l.length + 1 ≤ maxLen) (hbase : base ≤ w.heap.size)
    (h : ∀ b d w', Owns A e w' base (.slice b (l.length + 1) d) (l ++ [x]) → w.grownBy w' v.ownBlock → wpList Pr ops Q rest (a.put o.dst (.slice b (l.length + 1) d)) w') :
    wpList Pr ops Q (o :: rest) a w := by
  refine wpList_plain hgd fun K hK => ?_
  obtain ⟨v', w', hr, k1, k2, b, d, rfl⟩ := run_append_rep (ty := o.type) hE hown hnews hc hb hm hbase
  unfold Oper.wp execOp
  simp only [ho, resolve, invoke, builtin, Sem.run_bind, Sem.run_pure, Result.andThen_ok, List.map_toArray, List.map_cons, List.map_nil, hs, hx, hr]
  exact hK _ _ (h b d w' k1 k2)

/-- A variable of three cells that the call has made for itself, at block v. -/
structure Var3 (w : World) (v : Nat) (x y z : Value) : Prop where
  c0 : w.cell? ⟨v, 0, none⟩ = some x
  c1 : w.cell? ⟨v, 1, none⟩ = some y
  c2 : w.cell? ⟨v, 2, none⟩ = some z
  f : ∀ k, w.frozen? ⟨v, k, none⟩ = false

theorem var3_new (w : World) (T : TypeId) (x y z : Value) : Var3 (w.alloc (.cells #[x, y, z] T)) w.heap.size x y z := ⟨by simp, by simp, by simp, fun k => by simp⟩

theorem Var3.keep {w w' : World} {v : Nat} {x y z : Value} (h : Var3 w v x y z) (hb : w'.heap[v]? = w.heap[v]?) : Var3 w' v x y z :=
  ⟨by rw [World.cell?_of_block (w := w) hb]; exact h.c0, by rw [World.cell?_of_block (w := w) hb]; exact h.c1, by rw [World.cell?_of_block (w := w) hb]; exact h.c2, fun k => by rw [World.frozen?_of_block (w := w) hb]; exact h.f k⟩

theorem Var3.lt {w : World} {v : Nat} {x y z : Value} (h : Var3 w v x y z) : v < w.heap.size := World.block_lt_of_cell? w _ h.c0

theorem Var3.below {w w' : World} {v : Nat} {x y z : Value} (h : Var3 w v x y z) (k : Below w.heap.size w w') : Var3 w' v x y z := h.keep (k.block v h.lt)

theorem Var3.set0 {w : World} {v : Nat} {x y z : Value} (h : Var3 w v x y z) (u : Value) : Var3 (w.setCell ⟨v, 0, none⟩ u) v u y z :=
  ⟨World.cell?_setCell_same _ _ _ h.c0, by rw [World.cell?_setCell_other _ _ _ _ (by simp)]; exact h.c1, by rw [World.cell?_setCell_other _ _ _ _ (by simp)]; exact h.c2, fun k => by rw [World.frozen?_setCell]; exact h.f k⟩

theorem Var3.set1 {w : World} {v : Nat} {x y z : Value} (h : Var3 w v x y z) (u : Value) : Var3 (w.setCell ⟨v, 1, none⟩ u) v x u z :=
  ⟨by rw [World.cell?_setCell_other _ _ _ _ (by simp)]; exact h.c0, World.cell?_setCell_same _ _ _ h.c1, by rw [World.cell?_setCell_other _ _ _ _ (by simp)]; exact h.c2, fun k => by rw [World.frozen?_setCell]; exact h.f k⟩

/-- A list that grows, kept in a variable of its own at block vb; all else that was there at the start stays. -/
structure Fill {α : Type} (A : Rep α) (e : TypeId) (wS wr : World) (vb : Nat) (v : Value) (l : List α) : Prop where
  own : Owns A e wr wS.heap.size v l
  kept : Kept (fun b => b < wS.heap.size ∧ b ≠ vb) wS wr

theorem Fill.start {α : Type} (A : Rep α) (e : TypeId) (w : World) (vb : Nat) : Fill A e w w vb (.slice none 0 0) ([] : List α) := ⟨Owns.nil _ _ _ _, Kept.refl _ _⟩

theorem Fill.owns {α : Type} {A : Rep α} {e : TypeId} {wS wr w5 : World} {vb : Nat} {v : Value} {l : List α} (F : Fill A e wS wr vb v l) (bb : Below wr.heap.size wr w5) (o : Obj) : Owns A e (w5.alloc o) wS.heap.size v l :=
  (F.own.below bb).below ((Below.refl _ _).alloc (Nat.le_refl _) _)

theorem Fill.elem {α β : Type} {A : Rep α} {C : Rep β} {e : TypeId} {wS wr w5 : World} {vb : Nat} {v : Value} {l : List α} (F : Fill A e wS wr vb v l) {cs : List Value} {x : β} {P : Nat → Prop} (h : C.rd w5 P cs x) (hP : ∀ b, P b → wr.heap.size ≤ b) (o : Obj) :
    C.rd (w5.alloc o) (fun b => wS.heap.size ≤ b ∧ v.ownBlock ≠ some b) cs x :=
  C.weaken (Rep.below h ((Below.refl _ _).alloc (Nat.le_refl _) _)) (fun b hb _ => ⟨by have := F.kept.size; have := hP b hb; omega, fun e => by have := F.own.row b e; have := hP b hb; omega⟩)

theorem Fill.size {α : Type} {A : Rep α} {e : TypeId} {wS wr w5 : World} {vb : Nat} {v : Value} {l : List α} (F : Fill A e wS wr vb v l) (bb : Below wr.heap.size wr w5) (o : Obj) : wS.heap.size ≤ (w5.alloc o).heap.size := by
  have h1 := F.kept.size
  have h2 := bb.size
  simp only [World.size_alloc]
  omega

/-- The variable behind the append. -/
theorem Fill.var {α : Type} {A : Rep α} {e : TypeId} {wS wr w5 w6 : World} {vb : Nat} {v : Value} {l : List α} {o : Obj} {x y z : Value} (F : Fill A e wS wr vb v l) (V : Var3 wr vb x y z) (hvb : vb < wS.heap.size) (bb : Below wr.heap.size wr w5)
    (g : (w5.alloc o).grownBy w6 v.ownBlock) : Var3 w6 vb x y z := by
  have h1 : Var3 (w5.alloc o) vb x y z := (V.below bb).below ((Below.refl _ _).alloc (Nat.le_refl _) _)
  exact h1.keep (g.block vb h1.lt (fun e => by have := (F.own.row vb e.symm).1; omega))

/-- The list, when the variable has been written. -/
theorem Fill.next {α : Type} {A : Rep α} {e : TypeId} {wS wr w5 w6 : World} {vb i : Nat} {v v' : Value} {l l' : List α} {o : Obj} (F : Fill A e wS wr vb v l) (hvb : vb < wS.heap.size) (bb : Below wr.heap.size wr w5)
    (g : (w5.alloc o).grownBy w6 v.ownBlock) (ho : Owns A e w6 wS.heap.size v' l') : Fill A e wS (w6.setCell ⟨vb, i, none⟩ v') vb v' l' := by
  refine ⟨ho.setCell hvb _, ?_⟩
  have hS : ∀ b, b < wS.heap.size ∧ b ≠ vb → b < wr.heap.size := fun b hb => by have := F.kept.size; omega
  have k5 := F.kept.on hS bb
  have hS5 : ∀ b, b < wS.heap.size ∧ b ≠ vb → b < w5.heap.size := fun b hb => by have := hS b hb; have := bb.size; omega
  have k6 := (k5.alloc hS5 o).grown g (fun b hb => by have := hS5 b hb; simp only [World.size_alloc]; omega) (fun k hk hb => by have := (F.own.row k hk).1; omega)
  exact k6.setCell (fun h => h.2 rfl) _

end Go.Proofs.Ytinlgoljaiolnab
