/-
  The language's own max and min of two numbers. Conditions: none.
-/
import Derived.Test.YtinlgoljaiolnabEAdd
namespace Go.Proofs.Ytinlgoljaiolnab
open Go.RowKit

theorem max_fact (T : TypeId) : ∀ (x y : Int) (w : World), (Builtin.max_ #[T, T] T #[.int .i64 x, .int .i64 y]).run Try.prog w = .ok (.int .i64 (max x y)) w := by
  intro x y w
  rw [run_max_int2]
  congr 2
  split <;> omega

theorem min_fact (T : TypeId) : ∀ (x y : Int) (w : World), (Builtin.min_ #[T, T] T #[.int .i64 x, .int .i64 y]).run Try.prog w = .ok (.int .i64 (min x y)) w := by
  intro x y w
  rw [run_min_int2]
  congr 2
  split <;> omega

end Go.Proofs.Ytinlgoljaiolnab
