/-
  Facts that the proof rests on, part 4. Conditions: those that each of them names.
-/
import Derived.Laws.AppendOwnNone
import Derived.Laws.IdiomStrings
import Derived.Lib.AppendStr
import Derived.Test.YtoophkmnppoppaaRows
import Derived.WalkKit
import Derived.WalkLawsBesides
import Derived.WalkSpells
namespace Go.Proofs.Ytoophkmnppoppaa
open Go.RowKit
set_option linter.unusedVariables false
theorem qFQ : (Try.prog.info? 5).map (fun i => (i.zero, i.size, i.bytes)) = some (some (.int .u8 0), 1, 1) := by kernel_rfl
def IsB (w : World) (a : Option Addr) (n : Nat) (l : List UInt8) : Prop :=
 l.length = n ∧ (a = none → n = 0) ∧ ∀ x, a = some x → ∀ j (h : j < l.length), w.cell? (x.add j) = some (.int .u8 (l[j].toNat : Int))
theorem q2J (w : World) (a : Option Addr) (n c : Nat) (l : List UInt8) (h : IsB w a n l) :
 (convert 26 9 (.slice a n c)).run Try.prog w = .ok (.string ⟨l.toArray⟩) w := by
 obtain ⟨rfl, h2, h3⟩ := h
 cases a with
 | none =>
   have : l = [] := List.length_eq_zero_iff.1 (h2 rfl)
   subst this
   rw [List.length_nil, run_convert_bytes_string w 26 9 5 none 0 c Try.underlying26 Try.underlying5 Try.underlying9]
   rfl
 | some x => exact run_convert_bytes_back w 26 9 5 x c l Try.underlying26 Try.underlying5 Try.underlying9 (h3 x rfl)
def cellsOf (l : List UInt8) : List Value := l.map fun b => Value.int .u8 (b.toNat : Int)
theorem q1x (l : List UInt8) : (cellsOf l).length = l.length := by simp [cellsOf]
theorem IsB.below {w w1 : World} {a : Option Addr} {n : Nat} {l : List UInt8} (h : IsB w a n l) (hb : Below w.heap.size w w1) : IsB w1 a n l := by
 refine ⟨h.1, h.2.1, fun x hx j hj => ?_⟩
 have hc := h.2.2 x hx j hj
 rw [hb.cell (World.block_lt_of_cell? _ _ hc)]
 exact hc
theorem isB_of_owns {w : World} {base g n c : Nat} {l : List UInt8} (h : w.ownsRow base 5 1 (.slice (some ⟨g, 0, none⟩) n c) n (cellsOf l)) : IsB w (some ⟨g, 0, none⟩) n l := by
 have hl : l.length = n := by have := h.1; simpa [cellsOf] using this
 refine ⟨hl, fun (e : some _ = none) => (by cases e), fun x hx j hj => ?_⟩
 simp only [Option.some.injEq] at hx
 subst hx
 rw [Addr.add_lit, Nat.zero_add, h.cellAt j (by omega)]
 simp [cellsOf, List.getElem?_eq_getElem hj]
theorem qHx {w : World} {base n : Nat} {v : Value} {l : List UInt8} (h : w.ownsRow base 5 1 v n (cellsOf l)) :
 ∃ a c, v = .slice a n c ∧ n ≤ c ∧ n = l.length ∧ IsB w a n l := by
 have hl : l.length = n := by have := h.1; simpa [cellsOf] using this
 rcases h.2 with ⟨rfl, rfl⟩ | ⟨g, cap, cur, rfl, _, _, hc, _⟩
 · have : l = [] := List.length_eq_zero_iff.1 hl
   subst this
   exact ⟨none, 0, rfl, Nat.le_refl _, rfl, rfl, fun _ => rfl, fun _ e => by cases e⟩
 · exact ⟨_, _, rfl, hc, hl.symm, isB_of_owns h⟩
theorem own_nil (w : World) (base : Nat) : w.ownsRow base 5 1 (.slice none 0 0) 0 (cellsOf []) := World.ownsRow_nil w base 5 1
theorem qBz {w : World} {x : Addr} {n : Nat} {l : List UInt8} (h : IsB w (some x) n l) : ∀ j u, (cellsOf l)[j]? = some u → w.cell? (x.add j) = some u := by
 intro j u hj
 have hlt : j < l.length := by have := (List.getElem?_eq_some_iff.1 hj).1; simpa [cellsOf] using this
 have := h.2.2 x rfl j hlt
 rw [this]
 simp [cellsOf, List.getElem?_eq_getElem hlt] at hj
 rw [← hj]
theorem q4x (l : List UInt8) : ∀ u ∈ cellsOf l, u.oneCell' = true := by
 intro u hu
 simp only [cellsOf, List.mem_map] at hu
 obtain ⟨b, _, rfl⟩ := hu
 rfl
theorem q9z (l k : List UInt8) : cellsOf (l ++ k) = cellsOf l ++ cellsOf k := by simp [cellsOf]
theorem on {w w1 w2 : World} (h : Below w.heap.size w w1) (k : Below w1.heap.size w1 w2) : Below w.heap.size w w2 := h.trans (k.mono h.size)
theorem qAj {w : World} {base base' n e s : Nat} {v : Value} {xs : List Value} (h : w.ownsRow base e s v n xs) (hb : base' ≤ base) : w.ownsRow base' e s v n xs := by
 obtain ⟨h1, h2⟩ := h
 refine ⟨h1, ?_⟩
 rcases h2 with h2 | ⟨g, cap, cur, hv, hg, r⟩
 · exact .inl h2
 · exact .inr ⟨g, cap, cur, hv, by omega, r⟩
end Go.Proofs.Ytoophkmnppoppaa
