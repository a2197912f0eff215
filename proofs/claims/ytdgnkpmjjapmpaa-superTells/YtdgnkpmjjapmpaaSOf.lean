/-
  The contract of the program's superOf: seven numbers as a superblock. Conditions: those that each contract names.
-/
import Derived.Test.YtdgnkpmjjapmpaaSBytes
import Derived.BigRegion
namespace Go.Proofs.Ytdgnkpmjjapmpaa
open Go.RowKit
set_option linter.unusedVariables false

set_option maxHeartbeats 4000000 in
theorem superOf_u (w : World) (q o c : Nat) (n0 n1 n2 n3 n4 n5 n6 : Nat) (hN : IsN .u64 w (some ⟨q, o, none⟩) 7 ([n0, n1, n2, n3, n4, n5, n6].map fun (v : Nat) => (v : Int))) :
    Calls Try.prog 35 #[.slice (some ⟨q, o, none⟩) 7 c] w fun e w' => e = .returned (.agg #[.int .i64 (wrap64 n0), .int .i64 (wrap64 n1), .int .i64 (wrap64 n2), .int .i64 (wrap64 n3), .int .i64 (wrap64 n4), .int .i64 (wrap64 n5), .int .i64 (wrap64 n6)]) ∧ Below w.heap.size w w' := by
  obtain ⟨w0, hw0, V, bw0, -⟩ := boxedRow w 29 [.int .i64 0, .int .i64 0, .int .i64 0, .int .i64 0, .int .i64 0, .int .i64 0, .int .i64 0]
  have g := fun (j : Nat) (hj : j < 7) => (hN.below bw0).2.2 _ rfl j hj
  have d0 : w0.cell? ⟨q, o, none⟩ = some (.int .u64 n0) := by have := g 0 (by decide); rw [Addr.add_lit] at this; exact this
  have d1 : w0.cell? ⟨q, o + 1, none⟩ = some (.int .u64 n1) := by have := g 1 (by decide); rw [Addr.add_lit] at this; exact this
  have d2 : w0.cell? ⟨q, o + 2, none⟩ = some (.int .u64 n2) := by have := g 2 (by decide); rw [Addr.add_lit] at this; exact this
  have d3 : w0.cell? ⟨q, o + 3, none⟩ = some (.int .u64 n3) := by have := g 3 (by decide); rw [Addr.add_lit] at this; exact this
  have d4 : w0.cell? ⟨q, o + 4, none⟩ = some (.int .u64 n4) := by have := g 4 (by decide); rw [Addr.add_lit] at this; exact this
  have d5 : w0.cell? ⟨q, o + 5, none⟩ = some (.int .u64 n5) := by have := g 5 (by decide); rw [Addr.add_lit] at this; exact this
  have d6 : w0.cell? ⟨q, o + 6, none⟩ = some (.int .u64 n6) := by have := g 6 (by decide); rw [Addr.add_lit] at this; exact this
  clear g hN
  have c0 := V.cell (j := 0) rfl
  have c1 := V.cell (j := 1) rfl
  have c2 := V.cell (j := 2) rfl
  have c3 := V.cell (j := 3) rfl
  have c4 := V.cell (j := 4) rfl
  have c5 := V.cell (j := 5) rfl
  have c6 := V.cell (j := 6) rfl
  have f0 := V.frozen 0
  have f1 := V.frozen 1
  have f2 := V.frozen 2
  have f3 := V.frozen 3
  have f4 := V.frozen 4
  have f5 := V.frozen 5
  have f6 := V.frozen 6
  go_enter Try.func35, Try.ntmps35
  go_wp2_with fail
  go_region
  go_wp2
  exact sup_ret1 V bw0 (Nat.le_refl _) _ _ _ _ _ _ _ rfl rfl Try.underlying29 rfl (by kernel_rfl) (fun w' _ b' => ⟨rfl, b'⟩)

end Go.Proofs.Ytdgnkpmjjapmpaa
