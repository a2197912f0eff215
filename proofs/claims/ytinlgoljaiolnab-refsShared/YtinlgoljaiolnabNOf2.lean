/-
  The laws' own copies of maps, for the program. Conditions: those that each contract names.
-/
import Derived.Test.YtinlgoljaiolnabNOf
import Derived.Test.YtinlgoljaiolnabXD
namespace Go.Proofs.Ytinlgoljaiolnab
open Go.RowKit
set_option linter.unusedVariables false

theorem map_new (w : World) (O : Int) (v : Value) (t : TypeId) : ∀ j u, ([.int .i64 O, v] : List Value)[j]? = some u → (w.alloc (.cells #[.int .i64 O, v] t)).cell? ((⟨w.heap.size, 0, none⟩ : Addr).add j) = some u := by
  intro j u hj
  rw [Addr.add_lit, Nat.zero_add]
  match j, hj with
  | 0, hj => simp at hj; subst hj; simp
  | 1, hj => simp at hj; subst hj; simp

theorem map_rd {w : World} {P : Nat → Prop} {O : Int} {v : Value} {X : List Ext} (hO : In64 O) (h : rExts.rd w P [v] X) : rMp.rd w P [.int .i64 O, v] (O, X) := ⟨[.int .i64 O], [v], rfl, ⟨rfl, hO⟩, h⟩

theorem cell_grown {w w' : World} {r : Option Nat} (g : w.grownBy w' r) {p : Addr} (hp : p.block < w.heap.size) (hr : some p.block ≠ r) : w'.cell? p = w.cell? p := World.cell?_of_block (g.block p.block hp hr)

end Go.Proofs.Ytinlgoljaiolnab
