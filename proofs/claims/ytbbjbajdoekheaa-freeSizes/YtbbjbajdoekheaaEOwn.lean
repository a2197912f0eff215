/-
  Lists of extents and of spans that the call appends to. Conditions: those that each lemma names.
-/
import Derived.Test.YtbbjbajdoekheaaRows
import Derived.Test.YtbbjbajdoekheaaEBase
namespace Go.Proofs.Ytbbjbajdoekheaa
open Go.RowKit
set_option linter.unusedVariables false

theorem OwnE.owns {e : TypeId} {w : World} {base : Nat} {v : Value} {l : List Ext} (h : OwnE e w base v l) : Owns rExt e w base v l := ⟨extCells l, h.row, rExts_all.2 ⟨rfl, h.fit⟩⟩

theorem OwnE.of {e : TypeId} {w : World} {base : Nat} {v : Value} {l : List Ext} (h : Owns rExt e w base v l) : OwnE e w base v l := by
  obtain ⟨xs, h1, h2⟩ := h
  obtain ⟨rfl, h3⟩ := rExts_all.1 h2
  exact ⟨h1, h3⟩

theorem ext_cells_new (w : World) (x : Ext) (t : TypeId) : ∀ j u, (ext3 x)[j]? = some u → (w.alloc (.cells #[.int .i64 x.1, .int .i64 x.2.1, .int .i64 x.2.2] t)).cell? ((⟨w.heap.size, 0, none⟩ : Addr).add j) = some u := by
  intro j u hj
  rw [Addr.add_lit, Nat.zero_add]
  match j, hj with
  | 0, hj => simp [ext3] at hj; subst hj; simp
  | 1, hj => simp [ext3] at hj; subst hj; simp
  | 2, hj => simp [ext3] at hj; subst hj; simp

/-- What an append to a list of the call's own leaves: the rest as it was, and where the new list lies. -/
structure Grew (w w' : World) (v v' : Value) : Prop where
  grown : w.grownBy w' v.ownBlock
  place : ∀ b, v'.ownBlock = some b → v.ownBlock = some b ∨ w.heap.size ≤ b

theorem Grew.block {w w' : World} {v v' : Value} (g : Grew w w' v v') : ∀ k, k < w.heap.size → some k ≠ v.ownBlock → w'.heap[k]? = w.heap[k]? := g.grown.block

theorem grown_pre {w w1 w2 : World} {row : Option Nat} (h : Below w.heap.size w w1) (g : w1.grownBy w2 row) : w.grownBy w2 row :=
  ⟨g.os.trans h.os, g.tape.trans h.tape, g.output.trans h.output, Nat.le_trans h.size g.size, fun k hk hr => (g.block k (Nat.lt_of_lt_of_le hk h.size) hr).trans (h.block k hk)⟩

/-- What a call that grows a list of the call's own leaves: all below the base, and all but the list's own row. -/
theorem Grew.pre {w w1 w2 : World} {v v' : Value} (h : Below w.heap.size w w1) (g : Grew w1 w2 v v') : Grew w w2 v v' :=
  ⟨grown_pre h g.grown, fun b e => (g.place b e).imp id (Nat.le_trans h.size)⟩

theorem Grew.len {w w' : World} {v : Value} {b : Option Addr} {n n' d : Nat} (g : Grew w w' v (.slice b n d)) : Grew w w' v (.slice b n' d) :=
  ⟨g.grown, fun k e => g.place k (by cases b <;> exact e)⟩

theorem OwnE.base_below {e : TypeId} {w w' : World} {base : Nat} {v v' : Value} {l : List Ext} (h : OwnE e w base v l) (hb : base ≤ w.heap.size) (g : Grew w w' v v') : Below base w w' :=
  (Below.refl base w).grown g.grown hb (fun k hk => (h.row.lt k hk).1)

end Go.Proofs.Ytbbjbajdoekheaa
