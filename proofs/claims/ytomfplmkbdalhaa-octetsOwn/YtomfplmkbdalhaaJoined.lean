/-
  Octets appended to octets that the call itself made. Conditions: those that the law names.
-/
import Derived.Test.YtomfplmkbdalhaaRefs
namespace Go.Proofs.Ytomfplmkbdalhaa
open Go.RowKit
set_option linter.unusedVariables false

/-- From a world to a later one, and on. -/
theorem on {w w1 w2 : World} (h : Below w.heap.size w w1) (k : Below w1.heap.size w1 w2) : Below w.heap.size w w2 := h.trans (k.mono h.size)

theorem owns_isB {w : World} {base n c : Nat} {a : Option Addr} {l : List UInt8} (h : w.ownsRow base 5 1 (.slice a n c) n (cellsOf l)) : IsB w a n l ∧ n ≤ c ∧ (a = none → c = 0) := by
  have hl : l.length = n := by have := h.1; simpa [cellsOf] using this
  rcases h.2 with ⟨e, rfl⟩ | ⟨g, cap, cur, e, _, _, hc, _⟩
  · cases e
    have : l = [] := List.length_eq_zero_iff.1 hl
    subst this
    exact ⟨⟨rfl, fun _ => rfl, fun _ e => by cases e⟩, Nat.le_refl _, fun _ => rfl⟩
  · cases e
    exact ⟨isB_of_owns h, hc, fun e => by cases e⟩

/-- What is owned stays owned behind a call that writes nothing old. -/
theorem owns_below {w w1 : World} {base n e s : Nat} {v : Value} {xs : List Value} (h : w.ownsRow base e s v n xs) (hb : Below w.heap.size w w1) : w1.ownsRow base e s v n xs := by
  obtain ⟨h1, h2⟩ := h
  refine ⟨h1, ?_⟩
  rcases h2 with h2 | ⟨g, cap, cur, hv, hg, hh, r⟩
  · exact .inl h2
  · refine .inr ⟨g, cap, cur, hv, hg, ?_, r⟩
    have hlt : g < w.heap.size := by
      by_cases hx : g < w.heap.size
      · exact hx
      · rw [Array.getElem?_eq_none (by omega)] at hh; cases hh
    rw [hb.block g hlt]; exact hh

theorem append_two {w : World} {ops : Array Oper} {rest : List Oper} {o : Oper} {a : Act} {Q : Exit → Act → World → Prop} (hgd : o.guard = none) (s x : Operand)
    (ho : o.op = .call { callee := .builtin .append, args := #[s, x], argTypes := #[23, 23] })
    (base : Nat) (v : Value) (n : Nat) (l : List UInt8) (hs : a.eval s = v) (hown : w.ownsRow base 5 1 v n (cellsOf l))
    (xa : Option Addr) (m c : Nat) (k : List UInt8) (hx : a.eval x = .slice xa m c) (hB : IsB w xa m k) (hnil : xa = none → c = 0)
    (hbytes : n + m ≤ 140737488355328) (hbase : base ≤ w.heap.size)
    (h : ∀ b d w', w'.ownsRow base 5 1 (.slice b (n + m) d) (n + m) (cellsOf (l ++ k)) → w.grownBy w' v.ownBlock → wpList Try.prog ops Q rest (a.put o.dst (.slice b (n + m) d)) w') :
    wpList Try.prog ops Q (o :: rest) a w := by
  obtain ⟨i0, hi, hz0, hz1, hz2⟩ := info_parts info_u8
  have hk := hB.1
  cases xa with
  | none =>
    have hm := hB.2.1 rfl
    have hc := hnil rfl
    subst hm
    subst hc
    have : k = [] := List.length_eq_zero_iff.1 hk
    subst this
    obtain ⟨b, d, e, _⟩ := owns_slice hown
    refine wpList_append_own_none hgd s x 23 ho base 5 i0 1 Try.underlying23 hi v n _ hs hown hx ?_
    have := h b d w (by simpa [e] using hown) (World.grownBy.refl _ _)
    rw [e]
    simpa using this
  | some y =>
    refine wpList_append_own w hgd s x 23 ho base 5 i0 (.int .u8 0) 1 1 Try.underlying23 hi hz0 hz1 hz2 rfl (by decide) v n _ hs hown y m c (cellsOf k) hx (by simp [cellsOf, hk]) (isB_cells hB) (cellsOf_oneCell k) (by unfold maxLen; omega) (by omega) hbase ?_
    intro v' w' ho' hg _
    rw [← cellsOf_append] at ho'
    obtain ⟨b, d, rfl, _⟩ := owns_slice ho'
    exact h b d w' ho' hg

end Go.Proofs.Ytomfplmkbdalhaa
