/-
  The contract of the document's own Add, whole. Conditions: those that each contract names.
-/
import Derived.Test.YtlpmfbinemmikaaREC
namespace Go.Proofs.Ytlpmfbinemmikaa
open Go.RowKit
set_option linter.unusedVariables false

set_option maxHeartbeats 2000000 in
theorem refAdd_none (w : World) (base : Nat) (v : Value) (l : List Ext) (x : Ext) (hO : OwnE 24 w base v l) (hbase : base ≤ w.heap.size) (h1 : x.2.2 < 1) :
    Calls Try.prog 36 #[v, .agg #[.int .i64 x.1, .int .i64 x.2.1, .int .i64 x.2.2]] w fun e w' => ∃ v', e = .returned v' ∧ OwnE 24 w' base v' (Ex.add l x) ∧ Grew w w' v v' := by
  obtain ⟨w0, hw0, V0, b0, z0⟩ := boxedRow w 24 [.int .i64 x.1, .int .i64 x.2.1, .int .i64 x.2.2]
  have d2 := V0.cell (j := 2) rfl
  have B0 : Hid (Below w.heap.size w w0) := b0
  have HO0 : Hid (OwnE _ _ _ _ _) := hO.below b0
  have HA : Hid _ := Ex.add_none (l := l) h1
  clear hO V0 b0 z0
  go_enter Try.func36, Try.ntmps36
  go_wp2
  go_ret
  exact ⟨_, rfl, by rw [HA.out]; exact HO0.out, ⟨grown_pre B0.out (World.grownBy.refl _ _), fun b e => .inl e⟩⟩

set_option maxHeartbeats 2000000 in
theorem refAdd_first (w : World) (base : Nat) (a : Option Addr) (c : Nat) (x : Ext) (hO : OwnE 24 w base (.slice a 0 c) []) (hbase : base ≤ w.heap.size) (hx : Small x) (h1 : ¬ x.2.2 < 1) :
    Calls Try.prog 36 #[.slice a 0 c, .agg #[.int .i64 x.1, .int .i64 x.2.1, .int .i64 x.2.2]] w fun e w' => ∃ v', e = .returned v' ∧ OwnE 24 w' base v' (Ex.add [] x) ∧ Grew w w' (.slice a 0 c) v' := by
  obtain ⟨w0, hw0, V0, b0, z0⟩ := boxedRow w 24 [.int .i64 x.1, .int .i64 x.2.1, .int .i64 x.2.2]
  have d0 := V0.cell (j := 0) rfl
  have d1 := V0.cell (j := 1) rfl
  have d2 := V0.cell (j := 2) rfl
  have B0 : Hid (Below w.heap.size w w0) := b0
  have HZ : Hid (base ≤ w0.heap.size) := (by omega : base ≤ w0.heap.size)
  have HO0 : Hid (OwnE _ _ _ _ _) := hO.below b0
  have HX3 : Hid _ := hx.in3
  have HA : Hid _ := Ex.add_first h1
  clear hO V0 b0 z0
  go_enter Try.func36, Try.ntmps36
  go_wp2_with fail
  go_quiet (fail)
  go_wp2_with (at_builtin; refine append_ext rfl _ _ rfl base _ [] rfl ((HO0.out.drewN nq).below ((Below.refl _ _).alloc (Nat.le_refl _) _)) x ⟨w0.heap.size, 0, none⟩ rfl (ext_cells_new (w0.drewN nq) x _) HX3.out (by decide) (Nat.le_trans HZ.out (by simp)) ?_; intro b6 d6 w6 ho6 bb6)
  go_ret
  exact ⟨_, rfl, by rw [HA.out]; exact ho6, Grew.pre ((same_drewN B0.out nq).alloc B0.out.size _) bb6⟩

theorem refAdd_u (w : World) (base : Nat) (v : Value) (l : List Ext) (x : Ext) (hO : OwnE 24 w base v l) (hbase : base ≤ w.heap.size) (hl : l.length ≤ 1000000) (hS : ∀ y ∈ l, Small y) (hx : Small x) :
    Calls Try.prog 36 #[v, .agg #[.int .i64 x.1, .int .i64 x.2.1, .int .i64 x.2.2]] w fun e w' => ∃ v', e = .returned v' ∧ OwnE 24 w' base v' (Ex.add l x) ∧ Grew w w' v v' := by
  by_cases h1 : x.2.2 < 1
  · exact refAdd_none w base v l x hO hbase h1
  obtain ⟨a, c, rfl, hac, han⟩ := hO.slice
  rcases List.eq_nil_or_concat l with rfl | ⟨m, y, rfl⟩
  · exact refAdd_first w base a c x hO hbase hx h1
  · rw [List.concat_eq_append] at *
    have hy0 : Small y := hS y (by simp)
    obtain ⟨g, rfl, -⟩ := hO.at (by simp)
    rw [List.length_append] at *
    by_cases hj : y.1 + y.2.2 = x.1
    · by_cases hy : y.2.1 = -1
      · by_cases hz : x.2.1 = -1
        · exact refAdd_holes w base g c m x y hO hbase hl hy0 hx h1 hj hy hz
        · exact refAdd_hole w base g c m x y hO hbase hl hy0 hx h1 hj hy hz
      · by_cases hz : x.2.1 = -1
        · exact refAdd_holed w base g c m x y hO hbase hl hy0 hx h1 hj hy hz
        · by_cases hp : y.2.1 + y.2.2 = x.2.1
          · exact refAdd_goes w base g c m x y hO hbase hl hy0 hx h1 hj hy hz hp
          · exact refAdd_apart w base g c m x y hO hbase hl hy0 hx h1 hj hy hz hp
    · exact refAdd_no w base g c m x y hO hbase hl hy0 hx h1 hj

end Go.Proofs.Ytlpmfbinemmikaa
