/-
  One element appended to a list of the call's own, in a region that draws its order or not, and where the row then lies. It imports no program. Conditions: those that each lemma names.
-/
import Derived.Test.YtckcicomkapdeaaROwnQ
namespace Go.Proofs.Ytckcicomkapdeaa
open Go.RowKit
set_option linter.unusedVariables false

theorem run_append_q {α : Type} {Pr : Program} {t e ty : TypeId} {A : Rep α} (hE : ElemOf Pr t e A) {w : World} {base : Nat} {Qb : Nat → Prop} {v : Value} {l : List α} (hown : OwnsQ A e w base Qb v l)
    {ad : Addr} {c : List Value} {x : α} (hnews : ∀ j u, c[j]? = some u → w.cell? (ad.add j) = some u) (hc : A.rd w (fun b => Qb b ∧ v.ownBlock ≠ some b) c x)
    (hb : (l.length + 1) * A.bytes ≤ 140737488355328) (hm : l.length + 1 ≤ maxLen) (hbase : base ≤ w.heap.size) :
    ∃ b d w', (Builtin.append_ #[t, t] ty #[v, .slice (some ad) 1 1]).run Pr w = .ok (.slice b (l.length + 1) d) w' ∧ OwnsQ A e w' base Qb (.slice b (l.length + 1) d) (l ++ [x]) ∧ w.grownBy w' v.ownBlock ∧ ((Value.slice b (l.length + 1) d).ownBlock = v.ownBlock ∨ (Value.slice b (l.length + 1) d).ownBlock = some w.heap.size) := by
  obtain ⟨ht, i, z, hi, hz, hsize, hby, hzs, hpos⟩ := hE
  obtain ⟨xs, h1, h2⟩ := hown
  obtain ⟨v', w', hr, k1, k2, k3, k4⟩ := run_append_own_at (P := Pr) w base t ty e i z A.size A.bytes ht hi hz hsize hby hzs hpos v l.length xs h1 ad 1 1 c (by rw [A.len hc, Nat.one_mul]) hnews (A.one hc) hm hb hbase
  have hO : OwnsQ A e w' base Qb v' (l ++ [x]) := by
    refine ⟨xs ++ c, by simpa using k1, ?_⟩
    have h3 := rdAll_append h2 (rdAll_one_elem hc)
    have h6 : rdAll A w (fun b => (Qb b ∧ v'.ownBlock ≠ some b) ∧ v.ownBlock ≠ some b) (xs ++ c) (l ++ [x]) := rdAll_weaken (fun b hb hl => ⟨⟨hb.1, fun e => by
      rcases k4 with h | h
      · exact hb.2 (h ▸ e)
      · rw [h] at e; cases e; omega⟩, hb.2⟩) h3
    exact rdAll_weaken (fun b hb _ => hb.1) (rdAll_keep (w' := w') (fun b hb hl => k2.block b hl (fun e => hb.2 e.symm)) h6)
  obtain ⟨b, d, hv⟩ := hO.slice
  rw [List.length_append] at hv
  have hv' : v' = .slice b (l.length + 1) d := hv
  subst hv'
  exact ⟨b, d, w', hr, hO, k2, k4⟩

theorem append_at_q {α : Type} {Pr : Program} {t e : TypeId} {A : Rep α} (hE : ElemOf Pr t e A) {w : World} {ops : Array Oper} {rest : List Oper} {o : Oper} {a : Act} {Q : Exit → Act → World → Prop} (hgd : o.guard = none) (s y : Operand)
    (ho : o.op = .call { callee := .builtin .append, args := #[s, y], argTypes := #[t, t] })
    (base : Nat) (Qb : Nat → Prop) (v : Value) (l : List α) (hs : a.eval s = v) (hown : OwnsQ A e w base Qb v l)
    (ad : Addr) (c : List Value) (x : α) (hx : a.eval y = .slice (some ad) 1 1) (hnews : ∀ j u, c[j]? = some u → w.cell? (ad.add j) = some u) (hc : A.rd w (fun b => Qb b ∧ v.ownBlock ≠ some b) c x)
    (hb : (l.length + 1) * A.bytes ≤ 140737488355328) (hm : l.length + 1 ≤ maxLen) (hbase : base ≤ w.heap.size)
    (h : ∀ b d w', OwnsQ A e w' base Qb (.slice b (l.length + 1) d) (l ++ [x]) → w.grownBy w' v.ownBlock → ((Value.slice b (l.length + 1) d).ownBlock = v.ownBlock ∨ (Value.slice b (l.length + 1) d).ownBlock = some w.heap.size) → wpList Pr ops Q rest (a.put o.dst (.slice b (l.length + 1) d)) w') :
    wpList Pr ops Q (o :: rest) a w := by
  refine wpList_plain hgd fun K hK => ?_
  obtain ⟨b, d, w', hr, k1, k2, k3⟩ := run_append_q (ty := o.type) hE hown hnews hc hb hm hbase
  unfold Oper.wp execOp
  simp only [ho, resolve, invoke, builtin, Sem.run_bind, Sem.run_pure, Result.andThen_ok, List.map_toArray, List.map_cons, List.map_nil, hs, hx, hr]
  exact hK _ _ (h b d w' k1 k2 k3)

theorem step_append_q {α : Type} {Pr : Program} {t e : TypeId} {A : Rep α} (hE : ElemOf Pr t e A) {w : World} {ops : Array Oper} {o : Oper} {a : Act} {K : Act → World → Prop} {Q : Exit → Act → World → Prop} {E : Prop} (hgd : o.guard = none) (s y : Operand)
    (ho : o.op = .call { callee := .builtin .append, args := #[s, y], argTypes := #[t, t] })
    (base : Nat) (Qb : Nat → Prop) (v : Value) (l : List α) (hs : a.eval s = v) (hown : OwnsQ A e w base Qb v l)
    (ad : Addr) (c : List Value) (x : α) (hx : a.eval y = .slice (some ad) 1 1) (hnews : ∀ j u, c[j]? = some u → w.cell? (ad.add j) = some u) (hc : A.rd w (fun b => Qb b ∧ v.ownBlock ≠ some b) c x)
    (hb : (l.length + 1) * A.bytes ≤ 140737488355328) (hm : l.length + 1 ≤ maxLen) (hbase : base ≤ w.heap.size)
    (h : ∀ b d w', OwnsQ A e w' base Qb (.slice b (l.length + 1) d) (l ++ [x]) → w.grownBy w' v.ownBlock → ((Value.slice b (l.length + 1) d).ownBlock = v.ownBlock ∨ (Value.slice b (l.length + 1) d).ownBlock = some w.heap.size) → K (a.put o.dst (.slice b (l.length + 1) d)) w') :
    if Region.wanted o (yielded ops a.tmps) = true then Oper.wp Pr o a w K Q else E := by
  have hw : Region.wanted o (yielded ops a.tmps) = true := by simp [Region.wanted, hgd]
  rw [if_pos hw]
  obtain ⟨b, d, w', hr, k1, k2, k3⟩ := run_append_q (ty := o.type) hE hown hnews hc hb hm hbase
  unfold Oper.wp execOp
  simp only [ho, resolve, invoke, builtin, Sem.run_bind, Sem.run_pure, Result.andThen_ok, List.map_toArray, List.map_cons, List.map_nil, hs, hx, hr]
  exact h b d w' k1 k2 k3

/-- A list of the call's own, of which no part lies at vb. -/
theorem Owns.toQ {α : Type} {A : Rep α} {e : TypeId} {w w' : World} {base vb : Nat} {v : Value} {l : List α} (h : Owns A e w base v l) (hv : w.heap.size ≤ vb) (k : Below w.heap.size w w') : OwnsQ A e w' base (fun b => base ≤ b ∧ b ≠ vb) v l := by
  obtain ⟨xs, h1, h2⟩ := h
  have h3 : OwnsQ A e w base (fun b => base ≤ b ∧ b ≠ vb) v l := ⟨xs, h1, rdAll_weaken (fun b hb hl => ⟨⟨hb.1, by omega⟩, hb.2⟩) h2⟩
  exact h3.below k

/-- Read, where the row is not at vb either. -/
theorem OwnsQ.rdAt {α : Type} {A : Rep α} {hs : 0 < A.size} {e : TypeId} {w : World} {base vb : Nat} {a : Option Addr} {n c : Nat} {l : List α} (h : OwnsQ A e w base (fun b => base ≤ b ∧ b ≠ vb) (.slice a n c) l) (hn : l.length = n) (hb : n * A.bytes ≤ 140737488351232) (hr : ∀ k, (Value.slice a n c).ownBlock = some k → k ≠ vb) :
    (rList A hs).rd w (fun b => base ≤ b ∧ b ≠ vb) [.slice a n c] l := by
  obtain ⟨xs, h1, h2⟩ := h
  obtain ⟨a', c', e1, e2⟩ := rd_owned (hs := hs) (P := fun b => base ≤ b ∧ b ≠ vb) h1 (rdAll_weaken (fun b hb _ => hb.1) h2) rfl (by rw [hn]; exact hb) (fun b e => ⟨(h1.lt b e).1, hr b e⟩)
  rw [hn] at e1 e2
  simp only [Value.slice.injEq, true_and] at e1
  obtain ⟨rfl, rfl⟩ := e1
  exact e2

end Go.Proofs.Ytckcicomkapdeaa
