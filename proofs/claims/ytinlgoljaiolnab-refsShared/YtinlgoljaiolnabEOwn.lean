/-
  Lists of extents and of spans that the call appends to. Conditions: those that each lemma names.
-/
import Derived.Test.YtinlgoljaiolnabRows
import Derived.Test.YtinlgoljaiolnabEBase
namespace Go.Proofs.Ytinlgoljaiolnab
open Go.RowKit
set_option linter.unusedVariables false

theorem elem_ext : ElemOf Try.prog 22 43 rExt := elemOf (z := .agg #[.int .i64 0, .int .i64 0, .int .i64 0]) Try.underlying22 (by kernel_rfl) rfl rfl rfl (by decide)

theorem OwnE.owns {e : TypeId} {w : World} {base : Nat} {v : Value} {l : List Ext} (h : OwnE e w base v l) : Owns rExt e w base v l := ⟨extCells l, h.row, rExts_all.2 ⟨rfl, h.fit⟩⟩

theorem OwnE.of {e : TypeId} {w : World} {base : Nat} {v : Value} {l : List Ext} (h : Owns rExt e w base v l) : OwnE e w base v l := by
  obtain ⟨xs, h1, h2⟩ := h
  obtain ⟨rfl, h3⟩ := rExts_all.1 h2
  exact ⟨h1, h3⟩

theorem ext_cells_new (w : World) (x : Ext) (t : TypeId) : ∀ j u, (ext3 x)[j]? = some u → (w.alloc (.cells #[.int .i64 x.1, .int .i64 x.2.1, .int .i64 x.2.2] t)).cell? ((⟨w.heap.size, 0, none⟩ : Addr).add j) = some u := by
  intro j u hj
  rw [Addr.add_lit, Nat.zero_add]
  match j, hj with
  | 0, hj => simp [ext3] at hj; subst hj; simp
  | 1, hj => simp [ext3] at hj; subst hj; simp
  | 2, hj => simp [ext3] at hj; subst hj; simp

/-- What an append to a list of the call's own leaves: the rest as it was, and where the new list lies. -/
structure Grew (w w' : World) (v v' : Value) : Prop where
  grown : w.grownBy w' v.ownBlock
  place : ∀ b, v'.ownBlock = some b → v.ownBlock = some b ∨ w.heap.size ≤ b

theorem Grew.block {w w' : World} {v v' : Value} (g : Grew w w' v v') : ∀ k, k < w.heap.size → some k ≠ v.ownBlock → w'.heap[k]? = w.heap[k]? := g.grown.block

/-- One extent appended to a list of the call's own. -/
theorem append_ext {w : World} {ops : Array Oper} {rest : List Oper} {o : Oper} {a : Go.Act} {Q : Exit → Go.Act → World → Prop} (hgd : o.guard = none) (s y : Operand)
    (ho : o.op = .call { callee := .builtin .append, args := #[s, y], argTypes := #[22, 22] })
    (base : Nat) (v : Value) (l : List Ext) (hs : a.eval s = v) (hown : OwnE 43 w base v l)
    (x : Ext) (ad : Addr) (hx : a.eval y = .slice (some ad) 1 1) (hnews : ∀ j u, (ext3 x)[j]? = some u → w.cell? (ad.add j) = some u) (hX : In3 x) (hl : l.length ≤ 1000000) (hbase : base ≤ w.heap.size)
    (h : ∀ b d w', OwnE 43 w' base (.slice b (l.length + 1) d) (l ++ [x]) → Grew w w' v (.slice b (l.length + 1) d) → wpList Try.prog ops Q rest (a.put o.dst (.slice b (l.length + 1) d)) w') :
    wpList Try.prog ops Q (o :: rest) a w := by
  refine wpList_plain hgd fun K hK => ?_
  obtain ⟨ht, i, z, hi, hz, hsize, hby, hzs, hpos⟩ := elem_ext
  obtain ⟨v', w', hr, k1, k2, -, k4⟩ := run_append_own_at (P := Try.prog) w base 22 o.type 43 i z 3 24 ht hi hz hsize hby hzs (by decide) v l.length (extCells l) hown.row ad 1 1 (ext3 x) rfl hnews (rExt.one (rExt_rd.2 ⟨rfl, hX⟩ : rExt.rd w (fun _ => True) _ x)) (by unfold maxLen; omega) (by omega) hbase
  obtain ⟨b, d, rfl⟩ : ∃ b d, v' = .slice b (l.length + 1) d := by
    rcases k1.2 with ⟨_, h0⟩ | ⟨g, cap, cur, rfl, _⟩
    · omega
    · exact ⟨_, _, rfl⟩
  unfold Oper.wp execOp
  simp only [ho, resolve, invoke, builtin, Sem.run_bind, Sem.run_pure, Result.andThen_ok, List.map_toArray, List.map_cons, List.map_nil, hs, hx, hr]
  refine hK _ _ (h b d w' (OwnE.push k1 hown.fit hX) ⟨k2, fun b' e => ?_⟩)
  rcases k4 with k | k
  · exact .inl (k.symm.trans e)
  · exact .inr (by rw [e] at k; simp only [Option.some.injEq] at k; omega)

theorem grown_pre {w w1 w2 : World} {row : Option Nat} (h : Below w.heap.size w w1) (g : w1.grownBy w2 row) : w.grownBy w2 row :=
  ⟨g.os.trans h.os, g.tape.trans h.tape, g.output.trans h.output, Nat.le_trans h.size g.size, fun k hk hr => (g.block k (Nat.lt_of_lt_of_le hk h.size) hr).trans (h.block k hk)⟩

/-- What a call that grows a list of the call's own leaves: all below the base, and all but the list's own row. -/
theorem Grew.pre {w w1 w2 : World} {v v' : Value} (h : Below w.heap.size w w1) (g : Grew w1 w2 v v') : Grew w w2 v v' :=
  ⟨grown_pre h g.grown, fun b e => (g.place b e).imp id (Nat.le_trans h.size)⟩

theorem Grew.len {w w' : World} {v : Value} {b : Option Addr} {n n' d : Nat} (g : Grew w w' v (.slice b n d)) : Grew w w' v (.slice b n' d) :=
  ⟨g.grown, fun k e => g.place k (by cases b <;> exact e)⟩

theorem OwnE.base_below {e : TypeId} {w w' : World} {base : Nat} {v v' : Value} {l : List Ext} (h : OwnE e w base v l) (hb : base ≤ w.heap.size) (g : Grew w w' v v') : Below base w w' :=
  (Below.refl base w).grown g.grown hb (fun k hk => (h.row.lt k hk).1)

end Go.Proofs.Ytinlgoljaiolnab
