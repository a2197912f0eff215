/-
  Octets in memory: how a slice of them reads, what is owned, carried on and appended. Conditions: those that each lemma names.
-/
import Derived.Test.YtbglgplfjhiafaaRows
import Derived.WalkKit
import Derived.WalkSpells
import Derived.WalkLawsBesides
import Derived.Laws.IdiomStrings
import Derived.Lib.AppendStr
import Derived.Laws.AppendOwnNone
namespace Go.Proofs.Ytbglgplfjhiafaa
open Go.RowKit
set_option linter.unusedVariables false

theorem info_u8 : (Try.prog.info? 5).map (fun i => (i.zero, i.size, i.bytes)) = some (some (.int .u8 0), 1, 1) := by kernel_rfl

/-- A slice of octets reads as l. -/
def IsB (w : World) (a : Option Addr) (n : Nat) (l : List UInt8) : Prop :=
  l.length = n ∧ (a = none → n = 0) ∧ ∀ x, a = some x → ∀ j (h : j < l.length), w.cell? (x.add j) = some (.int .u8 (l[j].toNat : Int))

theorem conv_bytes (w : World) (a : Option Addr) (n c : Nat) (l : List UInt8) (h : IsB w a n l) :
    (convert 26 9 (.slice a n c)).run Try.prog w = .ok (.string ⟨l.toArray⟩) w := by
  obtain ⟨rfl, h2, h3⟩ := h
  cases a with
  | none =>
    have : l = [] := List.length_eq_zero_iff.1 (h2 rfl)
    subst this
    rw [List.length_nil, run_convert_bytes_string w 26 9 5 none 0 c Try.underlying26 Try.underlying5 Try.underlying9]
    rfl
  | some x => exact run_convert_bytes_back w 26 9 5 x c l Try.underlying26 Try.underlying5 Try.underlying9 (h3 x rfl)

/-- Octets as cells. -/
def cellsOf (l : List UInt8) : List Value := l.map fun b => Value.int .u8 (b.toNat : Int)

theorem cellsOf_length (l : List UInt8) : (cellsOf l).length = l.length := by simp [cellsOf]

theorem IsB.place {w : World} {a : Option Addr} {n : Nat} {l : List UInt8} (h : IsB w a n l) (hn : 0 < n) :
    ∃ b off, a = some ⟨b, off, none⟩ ∧ ∀ j (hj : j < l.length), w.cell? ⟨b, off + j, none⟩ = some (.int .u8 (l[j].toNat : Int)) := by
  obtain ⟨h1, h2, h3⟩ := h
  cases a with
  | none => have := h2 rfl; omega
  | some x =>
    obtain ⟨b, off, spot⟩ := x
    have hc := h3 _ rfl 0 (by omega)
    have hspot : spot = none := by simpa [Addr.add] using World.cell?_spot hc
    subst hspot
    exact ⟨b, off, rfl, fun j hj => by rw [← Addr.add_lit]; exact h3 _ rfl j hj⟩

theorem IsB.below {w w1 : World} {a : Option Addr} {n : Nat} {l : List UInt8} (h : IsB w a n l) (hb : Below w.heap.size w w1) : IsB w1 a n l := by
  refine ⟨h.1, h.2.1, fun x hx j hj => ?_⟩
  have hc := h.2.2 x hx j hj
  rw [hb.cell (World.block_lt_of_cell? _ _ hc)]
  exact hc

/-- What is owned reads as octets. -/
theorem isB_of_owns {w : World} {base g n c : Nat} {l : List UInt8} (h : w.ownsRow base 5 1 (.slice (some ⟨g, 0, none⟩) n c) n (cellsOf l)) : IsB w (some ⟨g, 0, none⟩) n l := by
  have hl : l.length = n := by have := h.1; simpa [cellsOf] using this
  refine ⟨hl, fun (e : some _ = none) => (by cases e), fun x hx j hj => ?_⟩
  simp only [Option.some.injEq] at hx
  subst hx
  rw [Addr.add_lit, Nat.zero_add, h.cellAt j (by omega)]
  simp [cellsOf, List.getElem?_eq_getElem hj]

/-- What is owned is a slice. -/
theorem owns_slice {w : World} {base n : Nat} {v : Value} {l : List UInt8} (h : w.ownsRow base 5 1 v n (cellsOf l)) :
    ∃ a c, v = .slice a n c ∧ n ≤ c ∧ n = l.length ∧ IsB w a n l := by
  have hl : l.length = n := by have := h.1; simpa [cellsOf] using this
  rcases h.2 with ⟨rfl, rfl⟩ | ⟨g, cap, cur, rfl, _, _, hc, _⟩
  · have : l = [] := List.length_eq_zero_iff.1 hl
    subst this
    exact ⟨none, 0, rfl, Nat.le_refl _, rfl, rfl, fun _ => rfl, fun _ e => by cases e⟩
  · exact ⟨_, _, rfl, hc, hl.symm, isB_of_owns h⟩

theorem own_nil (w : World) (base : Nat) : w.ownsRow base 5 1 (.slice none 0 0) 0 (cellsOf []) := World.ownsRow_nil w base 5 1

theorem isB_cells {w : World} {x : Addr} {n : Nat} {l : List UInt8} (h : IsB w (some x) n l) : ∀ j u, (cellsOf l)[j]? = some u → w.cell? (x.add j) = some u := by
  intro j u hj
  have hlt : j < l.length := by have := (List.getElem?_eq_some_iff.1 hj).1; simpa [cellsOf] using this
  have := h.2.2 x rfl j hlt
  rw [this]
  simp [cellsOf, List.getElem?_eq_getElem hlt] at hj
  rw [← hj]

theorem cellsOf_oneCell (l : List UInt8) : ∀ u ∈ cellsOf l, u.oneCell' = true := by
  intro u hu
  simp only [cellsOf, List.mem_map] at hu
  obtain ⟨b, _, rfl⟩ := hu
  rfl

theorem cellsOf_append (l k : List UInt8) : cellsOf (l ++ k) = cellsOf l ++ cellsOf k := by simp [cellsOf]

/-- The row that an owned value stands in is one of the call's own. -/
theorem own_base {w : World} {base n e s : Nat} {v : Value} {xs : List Value} (h : w.ownsRow base e s v n xs) : ∀ k, v.ownBlock = some k → base ≤ k := by
  intro k hk
  rcases h.2 with ⟨rfl, _⟩ | ⟨g, cap, cur, rfl, hb, _⟩
  · cases hk
  · cases hk; exact hb

/-- From a world to a later one, and on. -/
theorem on {w w1 w2 : World} (h : Below w.heap.size w w1) (k : Below w1.heap.size w1 w2) : Below w.heap.size w w2 := h.trans (k.mono h.size)

theorem owns_isB {w : World} {base n c : Nat} {a : Option Addr} {l : List UInt8} (h : w.ownsRow base 5 1 (.slice a n c) n (cellsOf l)) : IsB w a n l ∧ n ≤ c ∧ (a = none → c = 0) := by
  have hl : l.length = n := by have := h.1; simpa [cellsOf] using this
  rcases h.2 with ⟨e, rfl⟩ | ⟨g, cap, cur, e, _, _, hc, _⟩
  · cases e
    have : l = [] := List.length_eq_zero_iff.1 hl
    subst this
    exact ⟨⟨rfl, fun _ => rfl, fun _ e => by cases e⟩, Nat.le_refl _, fun _ => rfl⟩
  · cases e
    exact ⟨isB_of_owns h, hc, fun e => by cases e⟩

/-- What is owned stays owned behind a call that writes nothing old. -/
theorem owns_below {w w1 : World} {base n e s : Nat} {v : Value} {xs : List Value} (h : w.ownsRow base e s v n xs) (hb : Below w.heap.size w w1) : w1.ownsRow base e s v n xs := by
  obtain ⟨h1, h2⟩ := h
  refine ⟨h1, ?_⟩
  rcases h2 with h2 | ⟨g, cap, cur, hv, hg, hh, r⟩
  · exact .inl h2
  · refine .inr ⟨g, cap, cur, hv, hg, ?_, r⟩
    have hlt : g < w.heap.size := by
      by_cases hx : g < w.heap.size
      · exact hx
      · rw [Array.getElem?_eq_none (by omega)] at hh; cases hh
    rw [hb.block g hlt]; exact hh

theorem owns_len {w : World} {base n c : Nat} {a : Option Addr} {l : List UInt8} (h : w.ownsRow base 5 1 (.slice a n c) n (cellsOf l)) : n = l.length := by
  have := h.1; simpa [cellsOf] using this.symm

/-- What is owned from 'base' on stays owned where a row below it is written. -/
theorem owns_grown {w w1 : World} {base n e s : Nat} {v : Value} {xs : List Value} {row : Option Nat} (h : w.ownsRow base e s v n xs) (hg : w.grownBy w1 row) (hr : ∀ k, row = some k → k < base) : w1.ownsRow base e s v n xs := by
  obtain ⟨h1, h2⟩ := h
  refine ⟨h1, ?_⟩
  rcases h2 with h2 | ⟨g, cap, cur, hv, hgb, hh, r⟩
  · exact .inl h2
  · refine .inr ⟨g, cap, cur, hv, hgb, ?_, r⟩
    have hlt : g < w.heap.size := by
      by_cases hx : g < w.heap.size
      · exact hx
      · rw [Array.getElem?_eq_none (by omega)] at hh; cases hh
    rw [hg.block g hlt (fun e => by have := hr g e.symm; omega)]; exact hh

/-- The row that an owned value stands in lies in the heap. -/
theorem own_lt {w : World} {base n e s : Nat} {v : Value} {xs : List Value} (h : w.ownsRow base e s v n xs) : ∀ k, v.ownBlock = some k → k < w.heap.size := by
  intro k hk
  rcases h.2 with ⟨rfl, _⟩ | ⟨g, cap, cur, rfl, hb, hh, _⟩
  · cases hk
  · cases hk
    by_cases hx : g < w.heap.size
    · exact hx
    · rw [Array.getElem?_eq_none (by omega)] at hh; cases hh

theorem owns_grown2 {w w1 : World} {base n e s : Nat} {v : Value} {xs : List Value} {row : Option Nat} (h : w.ownsRow base e s v n xs) (hg : w.grownBy w1 row) (hr : ∀ k, row = some k → v.ownBlock ≠ some k) : w1.ownsRow base e s v n xs := by
  obtain ⟨h1, h2⟩ := h
  refine ⟨h1, ?_⟩
  rcases h2 with h2 | ⟨g, cap, cur, hv, hgb, hh, r⟩
  · exact .inl h2
  · refine .inr ⟨g, cap, cur, hv, hgb, ?_, r⟩
    have hlt : g < w.heap.size := by
      by_cases hx : g < w.heap.size
      · exact hx
      · rw [Array.getElem?_eq_none (by omega)] at hh; cases hh
    rw [hg.block g hlt (fun e => hr g e.symm (by rw [hv]; rfl))]; exact hh

theorem grown_trans {w w1 w2 : World} {row : Option Nat} (h : w.grownBy w1 row) (k : w1.grownBy w2 row) : w.grownBy w2 row :=
  ⟨k.os.trans h.os, k.tape.trans h.tape, k.output.trans h.output, Nat.le_trans h.size k.size, fun i hi hr => (k.block i (Nat.lt_of_lt_of_le hi h.size) hr).trans (h.block i hi hr)⟩

theorem IsB.head {w : World} {a : Option Addr} {n : Nat} {l : List UInt8} (h : IsB w a n l) (k : Nat) (hk : k ≤ n) (hn : 0 < n) : IsB w a k (l.take k) := by
  have h1 := h.1
  refine ⟨by simp; omega, fun e => by have := h.2.1 e; omega, fun x hx j hj => ?_⟩
  have hj' : j < l.length := by simp at hj; omega
  rw [h.2.2 x hx j hj']
  simp

theorem owns_mono {w : World} {base base' n e s : Nat} {v : Value} {xs : List Value} (h : w.ownsRow base e s v n xs) (hb : base' ≤ base) : w.ownsRow base' e s v n xs := by
  obtain ⟨h1, h2⟩ := h
  refine ⟨h1, ?_⟩
  rcases h2 with h2 | ⟨g, cap, cur, hv, hg, r⟩
  · exact .inl h2
  · exact .inr ⟨g, cap, cur, hv, by omega, r⟩

theorem append_two {w : World} {ops : Array Oper} {rest : List Oper} {o : Oper} {a : Act} {Q : Exit → Act → World → Prop} (hgd : o.guard = none) (s x : Operand)
    (ho : o.op = .call { callee := .builtin .append, args := #[s, x], argTypes := #[26, 26] })
    (base : Nat) (v : Value) (n : Nat) (l : List UInt8) (hs : a.eval s = v) (hown : w.ownsRow base 5 1 v n (cellsOf l))
    (xa : Option Addr) (m c : Nat) (k : List UInt8) (hx : a.eval x = .slice xa m c) (hB : IsB w xa m k) (hnil : xa = none → c = 0)
    (hbytes : n + m ≤ 140737488355328) (hbase : base ≤ w.heap.size)
    (h : ∀ b d w', w'.ownsRow base 5 1 (.slice b (n + m) d) (n + m) (cellsOf (l ++ k)) → w.grownBy w' v.ownBlock → wpList Try.prog ops Q rest (a.put o.dst (.slice b (n + m) d)) w') :
    wpList Try.prog ops Q (o :: rest) a w := by
  obtain ⟨i0, hi, hz0, hz1, hz2⟩ := info_parts info_u8
  have hk := hB.1
  cases xa with
  | none =>
    have hm := hB.2.1 rfl
    have hc := hnil rfl
    subst hm
    subst hc
    have : k = [] := List.length_eq_zero_iff.1 hk
    subst this
    obtain ⟨b, d, e, _⟩ := owns_slice hown
    refine wpList_append_own_none hgd s x 26 ho base 5 i0 1 Try.underlying26 hi v n _ hs hown hx ?_
    have := h b d w (by simpa [e] using hown) (World.grownBy.refl _ _)
    rw [e]
    simpa using this
  | some y =>
    refine wpList_append_own w hgd s x 26 ho base 5 i0 (.int .u8 0) 1 1 Try.underlying26 hi hz0 hz1 hz2 rfl (by decide) v n _ hs hown y m c (cellsOf k) hx (by simp [cellsOf, hk]) (isB_cells hB) (cellsOf_oneCell k) (by unfold maxLen; omega) (by omega) hbase ?_
    intro v' w' ho' hg _
    rw [← cellsOf_append] at ho'
    obtain ⟨b, d, rfl, _⟩ := owns_slice ho'
    exact h b d w' ho' hg

theorem append_two_on {w : World} {ops : Array Oper} {rest : List Oper} {o : Oper} {a : Act} {Q : Exit → Act → World → Prop} (hw : Region.wanted o (yielded ops a.tmps) = true) (s x : Operand)
    (ho : o.op = .call { callee := .builtin .append, args := #[s, x], argTypes := #[26, 26] })
    (base : Nat) (v : Value) (n : Nat) (l : List UInt8) (hs : a.eval s = v) (hown : w.ownsRow base 5 1 v n (cellsOf l))
    (xa : Option Addr) (m c : Nat) (k : List UInt8) (hx : a.eval x = .slice xa m c) (hB : IsB w xa m k) (hnil : xa = none → c = 0)
    (hbytes : n + m ≤ 140737488355328) (hbase : base ≤ w.heap.size)
    (h : ∀ b d w', w'.ownsRow base 5 1 (.slice b (n + m) d) (n + m) (cellsOf (l ++ k)) → w.grownBy w' v.ownBlock → wpList Try.prog ops Q rest (a.put o.dst (.slice b (n + m) d)) w') :
    wpList Try.prog ops Q (o :: rest) a w := by
  obtain ⟨i0, hi, hz0, hz1, hz2⟩ := info_parts info_u8
  have hk := hB.1
  unfold wpList
  rw [if_pos hw]
  left
  cases xa with
  | none =>
    have hm := hB.2.1 rfl
    have hc := hnil rfl
    subst hm
    subst hc
    have : k = [] := List.length_eq_zero_iff.1 hk
    subst this
    obtain ⟨b, d, e, _⟩ := owns_slice hown
    have hrun := run_append_owned_none (P := Try.prog) (w := w) base 26 o.type 5 i0 1 Try.underlying26 hi v n _ hown
    have := h b d w (by simpa [e] using hown) (World.grownBy.refl _ _)
    unfold Oper.wp
    simp [execOp, ho, resolve, invoke, builtin, hs, hx, hrun, Result.andThen]
    rw [e]
    have h3 : wpList Try.prog ops Q rest (a.put o.dst (.slice b n d)) w := by simpa using this
    exact h3
  | some y =>
    refine wp_append_own w s x 26 ho base 5 i0 (.int .u8 0) 1 1 Try.underlying26 hi hz0 hz1 hz2 rfl (by decide) v n _ hs hown y m c (cellsOf k) hx (by simp [cellsOf, hk]) (isB_cells hB) (cellsOf_oneCell k) (by unfold maxLen; omega) (by omega) hbase ?_
    intro v' w' ho' hg _
    rw [← cellsOf_append] at ho'
    obtain ⟨b, d, rfl, _⟩ := owns_slice ho'
    exact h b d w' ho' hg

end Go.Proofs.Ytbglgplfjhiafaa
