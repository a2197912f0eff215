/-
  Facts that the proof rests on, part 2. Conditions: those that each of them names.
-/
import Derived.Deep.RegionLaw
import Derived.Laws.AppendOwnNone
import Derived.Test.YtkbmadoaomoojaaGreatK00
namespace Go.Proofs.YtkbmadoaomoojaaGreat
set_option maxRecDepth 20000
open Go.RowKit
set_option linter.unusedVariables false
def Owns {α : Type} (A : Rep α) (e : TypeId) (w : World) (base : Nat) (v : Value) (l : List α) : Prop :=
 ∃ xs, w.ownsRow base e A.size v l.length xs ∧ rdAll A w (fun b => base ≤ b ∧ v.ownBlock ≠ some b) xs l
theorem Owns.nil {α : Type} (A : Rep α) (e : TypeId) (w : World) (base : Nat) : Owns A e w base (.slice none 0 0) ([] : List α) := ⟨[], World.ownsRow_nil w base e A.size, rfl⟩
theorem Owns.keep {α : Type} {A : Rep α} {e : TypeId} {w w' : World} {base : Nat} {v : Value} {l : List α} (h : Owns A e w base v l) (hk : ∀ b, base ≤ b → b < w.heap.size → w'.heap[b]? = w.heap[b]?) : Owns A e w' base v l := by
 obtain ⟨xs, h1, h2⟩ := h
 refine ⟨xs, ⟨h1.1, ?_⟩, rdAll_keep (fun b hb hl => hk b hb.1 hl) h2⟩
 rcases h1.2 with h0 | ⟨g, cap, cur, rfl, g1, g2, g3⟩
 · exact .inl h0
 · exact .inr ⟨g, cap, cur, rfl, g1, by rw [hk g g1 (Array.getElem?_eq_some_iff.1 g2).1]; exact g2, g3⟩
theorem Owns.below {α : Type} {A : Rep α} {e : TypeId} {w w' : World} {base : Nat} {v : Value} {l : List α} (h : Owns A e w base v l) (k : Below w.heap.size w w') : Owns A e w' base v l := h.keep fun b _ hl => k.block b hl
theorem Owns.row {α : Type} {A : Rep α} {e : TypeId} {w : World} {base : Nat} {v : Value} {l : List α} (h : Owns A e w base v l) : ∀ k, v.ownBlock = some k → base ≤ k ∧ k < w.heap.size := by
 obtain ⟨xs, h1, _⟩ := h
 exact h1.lt
theorem Owns.rd {α : Type} {A : Rep α} {hs : 0 < A.size} {e : TypeId} {w : World} {base : Nat} {v : Value} {l : List α} (h : Owns A e w base v l) (hb : l.length * A.bytes ≤ 140737488351232) :
 ∃ a c, v = .slice a l.length c ∧ (rList A hs).rd w (fun b => base ≤ b) [.slice a l.length c] l := by
 obtain ⟨xs, h1, h2⟩ := h
 exact rd_owned h1 (rdAll_weaken (fun b hb _ => hb.1) h2) rfl hb (fun b e => (h1.lt b e).1)
theorem Owns.push {α : Type} {A : Rep α} {e : TypeId} {w w' : World} {base : Nat} {v v' : Value} {l : List α} {xs c : List Value} {x : α}
 (h2 : rdAll A w (fun b => base ≤ b ∧ v.ownBlock ≠ some b) xs l) (hc : A.rd w (fun b => base ≤ b ∧ v.ownBlock ≠ some b) c x)
 (ho : w'.ownsRow base e A.size v' (l.length + 1) (xs ++ c)) (hg : w.grownBy w' v.ownBlock) (hat : v'.ownBlock = v.ownBlock ∨ v'.ownBlock = some w.heap.size) : Owns A e w' base v' (l ++ [x]) := by
 refine ⟨xs ++ c, by simpa using ho, ?_⟩
 have h3 := rdAll_append h2 (rdAll_one_elem hc)
 have h6 : rdAll A w (fun b => (base ≤ b ∧ v'.ownBlock ≠ some b) ∧ v.ownBlock ≠ some b) (xs ++ c) (l ++ [x]) := rdAll_weaken (fun b hb hl => ⟨⟨hb.1, fun e => by
  rcases hat with h | h
  · exact hb.2 (h ▸ e)
  · rw [h] at e; cases e; omega⟩, hb.2⟩) h3
 have h7 := rdAll_keep (w' := w') (fun b hb hl => hg.block b hl (fun e => hb.2 e.symm)) h6
 exact rdAll_weaken (fun b hb _ => hb.1) h7
def ElemOf {α : Type} (Pr : Program) (t e : TypeId) (A : Rep α) : Prop :=
 Pr.underlying t = some (.slice e) ∧ ∃ i z, Pr.info? e = some i ∧ i.zero = some z ∧ i.size = A.size ∧ i.bytes = A.bytes ∧ z.cells.size = A.size ∧ 0 < A.size
theorem elemOf {α : Type} {Pr : Program} {t e : TypeId} {A : Rep α} {z : Value} {s b : Nat} (h1 : Pr.underlying t = some (.slice e)) (h2 : (Pr.info? e).map (fun i => (i.zero, i.size, i.bytes)) = some (some z, s, b)) (h3 : A.size = s) (h4 : A.bytes = b) (h5 : z.cells.size = s) (h6 : 0 < s) : ElemOf Pr t e A := by
 obtain ⟨i0, hi, hz0, hz1, hz2⟩ := info_parts h2
 exact ⟨h1, i0, z, hi, hz0, by rw [hz1, h3], by rw [hz2, h4], by rw [h5, h3], by omega⟩
theorem run_append_rep {α : Type} {Pr : Program} {t e ty : TypeId} {A : Rep α} (hE : ElemOf Pr t e A) {w : World} {base : Nat} {v : Value} {l : List α} (hown : Owns A e w base v l)
 {ad : Addr} {c : List Value} {x : α} (hnews : ∀ j u, c[j]? = some u → w.cell? (ad.add j) = some u) (hc : A.rd w (fun b => base ≤ b ∧ v.ownBlock ≠ some b) c x)
 (hb : (l.length + 1) * A.bytes ≤ 140737488355328) (hm : l.length + 1 ≤ maxLen) (hbase : base ≤ w.heap.size) :
 ∃ v' w', (Builtin.append_ #[t, t] ty #[v, .slice (some ad) 1 1]).run Pr w = .ok v' w' ∧ Owns A e w' base v' (l ++ [x]) ∧ w.grownBy w' v.ownBlock ∧ ∃ b d, v' = .slice b (l.length + 1) d := by
 obtain ⟨ht, i, z, hi, hz, hsize, hby, hzs, hpos⟩ := hE
 obtain ⟨xs, h1, h2⟩ := hown
 obtain ⟨v', w', hr, k1, k2, k3, k4⟩ := run_append_own_at (P := Pr) w base t ty e i z A.size A.bytes ht hi hz hsize hby hzs hpos v l.length xs h1 ad 1 1 c (by rw [A.len hc, Nat.one_mul]) hnews (A.one hc) hm hb hbase
 refine ⟨v', w', hr, Owns.push h2 hc k1 k2 k4, k2, ?_⟩
 rcases k1.2 with ⟨_, h0⟩ | ⟨g, cap, cur, rfl, _⟩
 · omega
 · exact ⟨_, _, rfl⟩
theorem append_rep {α : Type} {Pr : Program} {t e : TypeId} {A : Rep α} (hE : ElemOf Pr t e A) {w : World} {ops : Array Oper} {rest : List Oper} {o : Oper} {a : Go.Act} {Q : Exit → Go.Act → World → Prop} (hgd : o.guard = none) (s y : Operand)
 (ho : o.op = .call { callee := .builtin .append, args := #[s, y], argTypes := #[t, t] })
 (base : Nat) (v : Value) (l : List α) (hs : a.eval s = v) (hown : Owns A e w base v l)
 (ad : Addr) (c : List Value) (x : α) (hx : a.eval y = .slice (some ad) 1 1) (hnews : ∀ j u, c[j]? = some u → w.cell? (ad.add j) = some u) (hc : A.rd w (fun b => base ≤ b ∧ v.ownBlock ≠ some b) c x)
 (hb : (l.length + 1) * A.bytes ≤ 140737488355328) (hm : l.length + 1 ≤ maxLen) (hbase : base ≤ w.heap.size)
 (h : ∀ b d w', Owns A e w' base (.slice b (l.length + 1) d) (l ++ [x]) → w.grownBy w' v.ownBlock → wpList Pr ops Q rest (a.put o.dst (.slice b (l.length + 1) d)) w') :
 wpList Pr ops Q (o :: rest) a w := by
 refine wpList_plain hgd fun K hK => ?_
 obtain ⟨v', w', hr, k1, k2, b, d, rfl⟩ := run_append_rep (ty := o.type) hE hown hnews hc hb hm hbase
 unfold Oper.wp execOp
 simp only [ho, resolve, invoke, builtin, Sem.run_bind, Sem.run_pure, Result.andThen_ok, List.map_toArray, List.map_cons, List.map_nil, hs, hx, hr]
 exact hK _ _ (h b d w' k1 k2)
end Go.Proofs.YtkbmadoaomoojaaGreat
