/-
  Octets and numbers as cells; what is owned, carried on; octets and numbers appended to what the call itself made. Conditions: those that each lemma names.
-/
import Derived.Test.YtomfplmkbdalhaaCalls
import Derived.Test.YtomfplmkbdalhaaFrame
namespace Go.Proofs.Ytomfplmkbdalhaa
open Go.RowKit
set_option linter.unusedVariables false

theorem isB_cells {w : World} {x : Addr} {n : Nat} {l : List UInt8} (h : IsB w (some x) n l) : ∀ j u, (cellsOf l)[j]? = some u → w.cell? (x.add j) = some u := by
  intro j u hj
  have hlt : j < l.length := by have := (List.getElem?_eq_some_iff.1 hj).1; simpa [cellsOf] using this
  have := h.2.2 x rfl j hlt
  rw [this]
  simp [cellsOf, List.getElem?_eq_getElem hlt] at hj
  rw [← hj]

theorem cellsOf_oneCell (l : List UInt8) : ∀ u ∈ cellsOf l, u.oneCell' = true := by
  intro u hu
  simp only [cellsOf, List.mem_map] at hu
  obtain ⟨b, _, rfl⟩ := hu
  rfl

theorem cellsOf_append (l k : List UInt8) : cellsOf (l ++ k) = cellsOf l ++ cellsOf k := by simp [cellsOf]

/-- The row that an owned value stands in is one of the call's own. -/
theorem own_base {w : World} {base n e s : Nat} {v : Value} {xs : List Value} (h : w.ownsRow base e s v n xs) : ∀ k, v.ownBlock = some k → base ≤ k := by
  intro k hk
  rcases h.2 with ⟨rfl, _⟩ | ⟨g, cap, cur, rfl, hb, _⟩
  · cases hk
  · cases hk; exact hb

/-- From a world to a later one, and on. -/
theorem on {w w1 w2 : World} (h : Below w.heap.size w w1) (k : Below w1.heap.size w1 w2) : Below w.heap.size w w2 := h.trans (k.mono h.size)

theorem owns_isB {w : World} {base n c : Nat} {a : Option Addr} {l : List UInt8} (h : w.ownsRow base 5 1 (.slice a n c) n (cellsOf l)) : IsB w a n l ∧ n ≤ c ∧ (a = none → c = 0) := by
  have hl : l.length = n := by have := h.1; simpa [cellsOf] using this
  rcases h.2 with ⟨e, rfl⟩ | ⟨g, cap, cur, e, _, _, hc, _⟩
  · cases e
    have : l = [] := List.length_eq_zero_iff.1 hl
    subst this
    exact ⟨⟨rfl, fun _ => rfl, fun _ e => by cases e⟩, Nat.le_refl _, fun _ => rfl⟩
  · cases e
    exact ⟨isB_of_owns h, hc, fun e => by cases e⟩

/-- What is owned stays owned behind a call that writes nothing old. -/
theorem owns_below {w w1 : World} {base n e s : Nat} {v : Value} {xs : List Value} (h : w.ownsRow base e s v n xs) (hb : Below w.heap.size w w1) : w1.ownsRow base e s v n xs := by
  obtain ⟨h1, h2⟩ := h
  refine ⟨h1, ?_⟩
  rcases h2 with h2 | ⟨g, cap, cur, hv, hg, hh, r⟩
  · exact .inl h2
  · refine .inr ⟨g, cap, cur, hv, hg, ?_, r⟩
    have hlt : g < w.heap.size := by
      by_cases hx : g < w.heap.size
      · exact hx
      · rw [Array.getElem?_eq_none (by omega)] at hh; cases hh
    rw [hb.block g hlt]; exact hh

theorem append_two {w : World} {ops : Array Oper} {rest : List Oper} {o : Oper} {a : Act} {Q : Exit → Act → World → Prop} (hgd : o.guard = none) (s x : Operand)
    (ho : o.op = .call { callee := .builtin .append, args := #[s, x], argTypes := #[23, 23] })
    (base : Nat) (v : Value) (n : Nat) (l : List UInt8) (hs : a.eval s = v) (hown : w.ownsRow base 5 1 v n (cellsOf l))
    (xa : Option Addr) (m c : Nat) (k : List UInt8) (hx : a.eval x = .slice xa m c) (hB : IsB w xa m k) (hnil : xa = none → c = 0)
    (hbytes : n + m ≤ 140737488355328) (hbase : base ≤ w.heap.size)
    (h : ∀ b d w', w'.ownsRow base 5 1 (.slice b (n + m) d) (n + m) (cellsOf (l ++ k)) → w.grownBy w' v.ownBlock → wpList Try.prog ops Q rest (a.put o.dst (.slice b (n + m) d)) w') :
    wpList Try.prog ops Q (o :: rest) a w := by
  obtain ⟨i0, hi, hz0, hz1, hz2⟩ := info_parts info_u8
  have hk := hB.1
  cases xa with
  | none =>
    have hm := hB.2.1 rfl
    have hc := hnil rfl
    subst hm
    subst hc
    have : k = [] := List.length_eq_zero_iff.1 hk
    subst this
    obtain ⟨b, d, e, _⟩ := owns_slice hown
    refine wpList_append_own_none hgd s x 23 ho base 5 i0 1 Try.underlying23 hi v n _ hs hown hx ?_
    have := h b d w (by simpa [e] using hown) (World.grownBy.refl _ _)
    rw [e]
    simpa using this
  | some y =>
    refine wpList_append_own w hgd s x 23 ho base 5 i0 (.int .u8 0) 1 1 Try.underlying23 hi hz0 hz1 hz2 rfl (by decide) v n _ hs hown y m c (cellsOf k) hx (by simp [cellsOf, hk]) (isB_cells hB) (cellsOf_oneCell k) (by unfold maxLen; omega) (by omega) hbase ?_
    intro v' w' ho' hg _
    rw [← cellsOf_append] at ho'
    obtain ⟨b, d, rfl, _⟩ := owns_slice ho'
    exact h b d w' ho' hg

theorem append_two_on {w : World} {ops : Array Oper} {rest : List Oper} {o : Oper} {a : Act} {Q : Exit → Act → World → Prop} (hw : Region.wanted o (yielded ops a.tmps) = true) (s x : Operand)
    (ho : o.op = .call { callee := .builtin .append, args := #[s, x], argTypes := #[23, 23] })
    (base : Nat) (v : Value) (n : Nat) (l : List UInt8) (hs : a.eval s = v) (hown : w.ownsRow base 5 1 v n (cellsOf l))
    (xa : Option Addr) (m c : Nat) (k : List UInt8) (hx : a.eval x = .slice xa m c) (hB : IsB w xa m k) (hnil : xa = none → c = 0)
    (hbytes : n + m ≤ 140737488355328) (hbase : base ≤ w.heap.size)
    (h : ∀ b d w', w'.ownsRow base 5 1 (.slice b (n + m) d) (n + m) (cellsOf (l ++ k)) → w.grownBy w' v.ownBlock → wpList Try.prog ops Q rest (a.put o.dst (.slice b (n + m) d)) w') :
    wpList Try.prog ops Q (o :: rest) a w := by
  obtain ⟨i0, hi, hz0, hz1, hz2⟩ := info_parts info_u8
  have hk := hB.1
  unfold wpList
  rw [if_pos hw]
  left
  cases xa with
  | none =>
    have hm := hB.2.1 rfl
    have hc := hnil rfl
    subst hm
    subst hc
    have : k = [] := List.length_eq_zero_iff.1 hk
    subst this
    obtain ⟨b, d, e, _⟩ := owns_slice hown
    have hrun := run_append_owned_none (P := Try.prog) (w := w) base 23 o.type 5 i0 1 Try.underlying23 hi v n _ hown
    have := h b d w (by simpa [e] using hown) (World.grownBy.refl _ _)
    unfold Oper.wp
    simp [execOp, ho, resolve, invoke, builtin, hs, hx, hrun, Result.andThen]
    rw [e]
    have h3 : wpList Try.prog ops Q rest (a.put o.dst (.slice b n d)) w := by simpa using this
    exact h3
  | some y =>
    refine wp_append_own w s x 23 ho base 5 i0 (.int .u8 0) 1 1 Try.underlying23 hi hz0 hz1 hz2 rfl (by decide) v n _ hs hown y m c (cellsOf k) hx (by simp [cellsOf, hk]) (isB_cells hB) (cellsOf_oneCell k) (by unfold maxLen; omega) (by omega) hbase ?_
    intro v' w' ho' hg _
    rw [← cellsOf_append] at ho'
    obtain ⟨b, d, rfl, _⟩ := owns_slice ho'
    exact h b d w' ho' hg

theorem isN_cells {k : IntKind} {w : World} {x : Addr} {n : Nat} {l : List Int} (h : IsN k w (some x) n l) : ∀ j u, (l.map (Value.int k))[j]? = some u → w.cell? (x.add j) = some u := by
  intro j u hj
  have hlt : j < l.length := by have := (List.getElem?_eq_some_iff.1 hj).1; simpa using this
  have := h.2.2 x rfl j hlt
  rw [this]
  simp [List.getElem?_eq_getElem hlt] at hj
  rw [← hj]

/-- Numbers that are owned, as a slice. -/
theorem owns_ints {k : IntKind} {e : TypeId} {w : World} {base n : Nat} {v : Value} {l : List Int} (h : w.ownsRow base e 1 v n (l.map (Value.int k))) :
    ∃ a c, v = .slice a n c ∧ n ≤ c ∧ n = l.length ∧ (a = none → c = 0) ∧ IsN k w a n l := by
  have hl : l.length = n := by have := h.1; simpa using this
  rcases h.2 with ⟨rfl, rfl⟩ | ⟨g, cap, cur, rfl, _, _, hc, _⟩
  · have : l = [] := List.length_eq_zero_iff.1 hl
    subst this
    exact ⟨none, 0, rfl, Nat.le_refl _, rfl, fun _ => rfl, rfl, fun _ => rfl, fun _ e => by cases e⟩
  · refine ⟨_, _, rfl, hc, hl.symm, fun (e : some _ = none) => (by cases e), hl, fun (e : some _ = none) => (by cases e), fun x hx j hj => ?_⟩
    simp only [Option.some.injEq] at hx
    subst hx
    rw [Addr.add_lit, Nat.zero_add, h.cellAt j (by omega)]
    simp [List.getElem?_eq_getElem hj]

theorem append_ints {t e : TypeId} {q : IntKind} {bytes : Nat} (hinfo : (Try.prog.info? e).map (fun i => (i.zero, i.size, i.bytes)) = some (some (.int q 0), 1, bytes)) (ht : Try.prog.underlying t = some (.slice e))
    {w : World} {ops : Array Oper} {rest : List Oper} {o : Oper} {a : Act} {Q : Exit → Act → World → Prop} (hgd : o.guard = none) (s x : Operand)
    (ho : o.op = .call { callee := .builtin .append, args := #[s, x], argTypes := #[t, t] })
    (base : Nat) (v : Value) (n : Nat) (l : List Int) (hs : a.eval s = v) (hown : w.ownsRow base e 1 v n (l.map (Value.int q)))
    (xa : Option Addr) (m c : Nat) (k : List Int) (hx : a.eval x = .slice xa m c) (hB : IsN q w xa m k) (hnil : xa = none → c = 0)
    (h63 : n + m ≤ maxLen) (hbytes : (n + m) * bytes ≤ 140737488355328) (hbase : base ≤ w.heap.size)
    (h : ∀ b d w', w'.ownsRow base e 1 (.slice b (n + m) d) (n + m) ((l ++ k).map (Value.int q)) → w.grownBy w' v.ownBlock → wpList Try.prog ops Q rest (a.put o.dst (.slice b (n + m) d)) w') :
    wpList Try.prog ops Q (o :: rest) a w := by
  obtain ⟨i0, hi, hz0, hz1, hz2⟩ := info_parts hinfo
  have hk := hB.1
  cases xa with
  | none =>
    have hm := hB.2.1 rfl
    have hc := hnil rfl
    subst hm
    subst hc
    have : k = [] := List.length_eq_zero_iff.1 hk
    subst this
    obtain ⟨b, d, e, _⟩ := owns_ints hown
    refine wpList_append_own_none hgd s x t ho base _ i0 1 ht hi v n _ hs hown hx ?_
    have := h b d w (by simpa [e] using hown) (World.grownBy.refl _ _)
    rw [e]
    simpa using this
  | some y =>
    refine wpList_append_own w hgd s x t ho base e i0 (.int q 0) 1 bytes ht hi hz0 hz1 hz2 rfl (by decide) v n _ hs hown y m c (k.map (Value.int q)) hx (by simp [hk]) (isN_cells hB) (ints_oneCell q k) h63 hbytes hbase ?_
    intro v' w' ho' hg _
    rw [← List.map_append] at ho'
    obtain ⟨b, d, rfl, _⟩ := owns_ints ho'
    exact h b d w' ho' hg

end Go.Proofs.Ytomfplmkbdalhaa
