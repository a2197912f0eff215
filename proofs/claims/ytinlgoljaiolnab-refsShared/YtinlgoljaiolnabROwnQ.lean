/-
  Lists of the call's own whose elements lie elsewhere too: what is appended. It imports no program. Conditions: those that each lemma names.
-/
import Derived.Test.YtinlgoljaiolnabRRow
import Derived.Test.YtinlgoljaiolnabREach
namespace Go.Proofs.Ytinlgoljaiolnab
open Go.RowKit
set_option linter.unusedVariables false

/-- A list whose row is the call's own; its elements lie in blocks of which Q holds, none in the row. -/
def OwnsQ {α : Type} (A : Rep α) (e : TypeId) (w : World) (base : Nat) (Q : Nat → Prop) (v : Value) (l : List α) : Prop :=
  ∃ xs, w.ownsRow base e A.size v l.length xs ∧ rdAll A w (fun b => Q b ∧ v.ownBlock ≠ some b) xs l

theorem OwnsQ.keep {α : Type} {A : Rep α} {e : TypeId} {w w' : World} {base : Nat} {Q : Nat → Prop} {v : Value} {l : List α} (h : OwnsQ A e w base Q v l) (hk : ∀ b, b < w.heap.size → w'.heap[b]? = w.heap[b]?) : OwnsQ A e w' base Q v l := by
  obtain ⟨xs, h1, h2⟩ := h
  refine ⟨xs, ⟨h1.1, ?_⟩, rdAll_keep (fun b hb hl => hk b hl) h2⟩
  rcases h1.2 with h0 | ⟨g, cap, cur, rfl, g1, g2, g3⟩
  · exact .inl h0
  · exact .inr ⟨g, cap, cur, rfl, g1, by rw [hk g (Array.getElem?_eq_some_iff.1 g2).1]; exact g2, g3⟩

theorem OwnsQ.below {α : Type} {A : Rep α} {e : TypeId} {w w' : World} {base : Nat} {Q : Nat → Prop} {v : Value} {l : List α} (h : OwnsQ A e w base Q v l) (k : Below w.heap.size w w') : OwnsQ A e w' base Q v l := h.keep fun b hl => k.block b hl

theorem OwnsQ.weaken {α : Type} {A : Rep α} {e : TypeId} {w : World} {base : Nat} {Q Q' : Nat → Prop} {v : Value} {l : List α} (h : OwnsQ A e w base Q v l) (hq : ∀ b, Q b → Q' b) : OwnsQ A e w base Q' v l := by
  obtain ⟨xs, h1, h2⟩ := h
  exact ⟨xs, h1, rdAll_weaken (fun b hb _ => ⟨hq b hb.1, hb.2⟩) h2⟩

theorem OwnsQ.row {α : Type} {A : Rep α} {e : TypeId} {w : World} {base : Nat} {Q : Nat → Prop} {v : Value} {l : List α} (h : OwnsQ A e w base Q v l) : ∀ k, v.ownBlock = some k → base ≤ k ∧ k < w.heap.size := by
  obtain ⟨xs, h1, _⟩ := h
  exact h1.lt

theorem OwnsQ.rd {α : Type} {A : Rep α} {hs : 0 < A.size} {e : TypeId} {w : World} {base : Nat} {Q : Nat → Prop} {v : Value} {l : List α} (h : OwnsQ A e w base Q v l) (hb : l.length * A.bytes ≤ 140737488351232) :
    ∃ a c, v = .slice a l.length c ∧ (rList A hs).rd w (fun b => Q b ∨ base ≤ b) [.slice a l.length c] l := by
  obtain ⟨xs, h1, h2⟩ := h
  exact rd_owned h1 (rdAll_weaken (fun b hb _ => .inl hb.1) h2) rfl hb (fun b e => .inr (h1.lt b e).1)

theorem OwnsQ.slice {α : Type} {A : Rep α} {e : TypeId} {w : World} {base : Nat} {Q : Nat → Prop} {v : Value} {l : List α} (h : OwnsQ A e w base Q v l) : ∃ b d, v = .slice b l.length d := by
  obtain ⟨xs, h1, _⟩ := h
  rcases h1.2 with ⟨rfl, h0⟩ | ⟨g, cap, cur, rfl, _⟩
  · exact ⟨none, 0, by rw [h0]⟩
  · exact ⟨_, _, rfl⟩

/-- 'append(nil, l...)', l a list that lies anywhere, or a part of it. -/
theorem run_append_all {α : Type} {Pr : Program} {t e ty : TypeId} {A : Rep α} {hs : 0 < A.size} (hE : ElemOf Pr t e A) (h1 : A.size = 1) {w : World} {P : Nat → Prop} {a : Option Addr} {n c k c' : Nat} {L : List α} (hL : (rList A hs).rd w P [.slice a n c] L) (hk : k ≤ n) (hc : a = none → c' = 0)
    (hb : k * A.bytes ≤ 140737488355328) (hm : k ≤ maxLen) :
    ∃ v' w', (Builtin.append_ #[t, t] ty #[.slice none 0 0, .slice a k c']).run Pr w = .ok v' w' ∧ OwnsQ A e w' w.heap.size (fun b => P b ∧ b < w.heap.size) v' (L.take k) ∧ w.grownBy w' none ∧ ∃ b d, v' = .slice b k d := by
  obtain ⟨ht, i, z, hi, hz, hsize, hby, hzs, hpos⟩ := hE
  have hLl : L.length = n := by
    obtain ⟨a', n', c'', e1, g1, _⟩ := hL
    simp only [List.cons.injEq, Value.slice.injEq, and_true] at e1
    obtain ⟨rfl, rfl, rfl⟩ := e1
    exact g1
  obtain ⟨xs, hE1, hone, hcell⟩ := values_of h1 hL
  have hxl : xs.length = n := by rw [hE1.len]; exact hLl
  have hnil : w.ownsRow w.heap.size e A.size (.slice none 0 0) 0 [] := World.ownsRow_nil w w.heap.size e A.size
  have hrd : rdAll A w (fun b => (P b ∧ b < w.heap.size)) (xs.take k) (L.take k) := rdAll_weaken (fun b hb hl => ⟨hb, hl⟩) (hE1.take k).all
  cases a with
  | none =>
    have hn0 : n = 0 := by
      obtain ⟨a', n', c'', e1, g1, g2, g3, _⟩ := hL
      simp only [List.cons.injEq, Value.slice.injEq, and_true] at e1
      obtain ⟨rfl, rfl, rfl⟩ := e1
      have := g3 rfl
      omega
    obtain rfl : k = 0 := by omega
    obtain rfl := hc rfl
    refine ⟨.slice none 0 0, w, run_append_owned_none (P := Pr) (w := w) w.heap.size t ty e i A.size ht hi (.slice none 0 0) 0 [] hnil, ?_, World.grownBy.refl _ _, none, 0, rfl⟩
    rw [List.take_zero]
    exact ⟨[], hnil, rfl⟩
  | some ad =>
    obtain ⟨v', w', hr, k1, k2, k3, k4⟩ := run_append_own_at (P := Pr) w w.heap.size t ty e i z A.size A.bytes ht hi hz hsize hby hzs hpos (.slice none 0 0) 0 [] hnil ad k c' (xs.take k) (by rw [List.length_take, h1]; omega)
      (fun j u hj => by
        rw [List.getElem?_take] at hj
        split at hj
        · obtain ⟨ad', e1, h3⟩ := hcell (by have := (List.getElem?_eq_some_iff.1 hj).1; omega)
          cases e1
          exact h3 j u hj
        · cases hj) (fun u hu => hone u (List.mem_of_mem_take hu)) (by omega) (by simpa using hb) (Nat.le_refl _)
    rw [Nat.zero_add, List.nil_append] at k1
    refine ⟨v', w', hr, ⟨xs.take k, by rw [List.length_take, hLl, Nat.min_eq_left hk]; exact k1, ?_⟩, k2, ?_⟩
    · refine rdAll_weaken (P := fun b => P b ∧ b < w.heap.size) (fun b hb hl => ⟨hb, fun e1 => ?_⟩) (rdAll_keep (fun b hb hl => k2.block b hl (fun e1 => by cases e1)) hrd)
      rcases k4 with h | h
      · rw [h] at e1; cases e1
      · rw [h] at e1; cases e1; omega
    · rcases k1.2 with ⟨rfl, h0⟩ | ⟨g, cap, cur, rfl, _⟩
      · exact ⟨none, 0, by rw [h0]⟩
      · exact ⟨_, _, rfl⟩

/-- The same as a law for the walk. -/
theorem append_all {α : Type} {Pr : Program} {t e : TypeId} {A : Rep α} {hs : 0 < A.size} (hE : ElemOf Pr t e A) (h1 : A.size = 1) {w : World} {ops : Array Oper} {rest : List Oper} {o : Oper} {a : Act} {Q : Exit → Act → World → Prop} (hgd : o.guard = none) (s y : Operand)
    (ho : o.op = .call { callee := .builtin .append, args := #[s, y], argTypes := #[t, t] })
    (P : Nat → Prop) (x : Option Addr) (n c k c' : Nat) (L : List α) (hs' : a.eval s = .slice none 0 0) (hy : a.eval y = .slice x k c') (hL : (rList A hs).rd w P [.slice x n c] L) (hk : k ≤ n) (hc : x = none → c' = 0)
    (hb : k * A.bytes ≤ 140737488355328) (hm : k ≤ maxLen)
    (h : ∀ b d w', OwnsQ A e w' w.heap.size (fun b => P b ∧ b < w.heap.size) (.slice b k d) (L.take k) → w.grownBy w' none → wpList Pr ops Q rest (a.put o.dst (.slice b k d)) w') :
    wpList Pr ops Q (o :: rest) a w := by
  refine wpList_plain hgd fun K hK => ?_
  obtain ⟨v', w', hr, k1, k2, b, d, rfl⟩ := run_append_all (ty := o.type) hE h1 hL hk hc hb hm
  unfold Oper.wp execOp
  simp only [ho, resolve, invoke, builtin, Sem.run_bind, Sem.run_pure, Result.andThen_ok, List.map_toArray, List.map_cons, List.map_nil, hs', hy, hr]
  exact hK _ _ (h b d w' k1 k2)

/-- One element more. -/
theorem append_q {α : Type} {Pr : Program} {t e : TypeId} {A : Rep α} (hE : ElemOf Pr t e A) {w : World} {ops : Array Oper} {rest : List Oper} {o : Oper} {a : Act} {Q : Exit → Act → World → Prop} (hgd : o.guard = none) (s y : Operand)
    (ho : o.op = .call { callee := .builtin .append, args := #[s, y], argTypes := #[t, t] })
    (base : Nat) (Qb : Nat → Prop) (v : Value) (l : List α) (hs : a.eval s = v) (hown : OwnsQ A e w base Qb v l)
    (ad : Addr) (c : List Value) (x : α) (hx : a.eval y = .slice (some ad) 1 1) (hnews : ∀ j u, c[j]? = some u → w.cell? (ad.add j) = some u) (hc : A.rd w (fun b => Qb b ∧ v.ownBlock ≠ some b) c x)
    (hb : (l.length + 1) * A.bytes ≤ 140737488355328) (hm : l.length + 1 ≤ maxLen) (hbase : base ≤ w.heap.size)
    (h : ∀ b d w', OwnsQ A e w' base Qb (.slice b (l.length + 1) d) (l ++ [x]) → w.grownBy w' v.ownBlock → wpList Pr ops Q rest (a.put o.dst (.slice b (l.length + 1) d)) w') :
    wpList Pr ops Q (o :: rest) a w := by
  refine wpList_plain hgd fun K hK => ?_
  obtain ⟨ht, i, z, hi, hz, hsize, hby, hzs, hpos⟩ := hE
  obtain ⟨xs, h1, h2⟩ := hown
  obtain ⟨v', w', hr, k1, k2, k3, k4⟩ := run_append_own_at (P := Pr) w base t o.type e i z A.size A.bytes ht hi hz hsize hby hzs hpos v l.length xs h1 ad 1 1 c (by rw [A.len hc, Nat.one_mul]) hnews (A.one hc) hm hb hbase
  have hO : OwnsQ A e w' base Qb v' (l ++ [x]) := by
    refine ⟨xs ++ c, by simpa using k1, ?_⟩
    have h3 := rdAll_append h2 (rdAll_one_elem hc)
    have h6 : rdAll A w (fun b => (Qb b ∧ v'.ownBlock ≠ some b) ∧ v.ownBlock ≠ some b) (xs ++ c) (l ++ [x]) := rdAll_weaken (fun b hb hl => ⟨⟨hb.1, fun e => by
      rcases k4 with h | h
      · exact hb.2 (h ▸ e)
      · rw [h] at e; cases e; omega⟩, hb.2⟩) h3
    exact rdAll_weaken (fun b hb _ => hb.1) (rdAll_keep (w' := w') (fun b hb hl => k2.block b hl (fun e => hb.2 e.symm)) h6)
  obtain ⟨b, d, hv⟩ := hO.slice
  rw [List.length_append] at hv
  have hv' : v' = .slice b (l.length + 1) d := hv
  subst hv'
  unfold Oper.wp execOp
  simp only [ho, resolve, invoke, builtin, Sem.run_bind, Sem.run_pure, Result.andThen_ok, List.map_toArray, List.map_cons, List.map_nil, hs, hx, hr]
  exact hK _ _ (h b d w' hO k2)

/-- The row of such a list, known whole. -/
theorem OwnsQ.at {α : Type} {A : Rep α} {e : TypeId} {w : World} {base : Nat} {Q : Nat → Prop} {a : Option Addr} {n c : Nat} {l : List α} (h1 : A.size = 1) (h : OwnsQ A e w base Q (.slice a n c) l) (hn : l.length = n) (h0 : 0 < n) :
    ∃ g cur, a = some ⟨g, 0, none⟩ ∧ base ≤ g ∧ n ≤ c ∧ Row w g e cur ∧ n ≤ cur.length ∧ rdAll A w (fun b => Q b ∧ b ≠ g) (cur.take n) l := by
  obtain ⟨xs, g1, g2⟩ := h
  rcases g1.2 with ⟨e1, e2⟩ | ⟨g, cap, cur, e1, e2, e3, e4, e5, e6, e7⟩
  · omega
  · simp only [Value.slice.injEq] at e1
    obtain ⟨rfl, e8, rfl⟩ := e1
    rw [h1, Nat.mul_one] at e6
    rw [hn, h1, Nat.mul_one] at e7
    rw [hn] at e4
    refine ⟨g, cur.toList, rfl, e2, e4, ⟨by rw [Array.toArray_toList]; exact e3⟩, by rw [Array.length_toList]; omega, ?_⟩
    rw [e7]
    exact rdAll_weaken (fun b hb _ => ⟨hb.1, fun e => hb.2 (by rw [e]; rfl)⟩) g2

end Go.Proofs.Ytinlgoljaiolnab
