/-
  Facts that the proof rests on, part 16. Conditions: those that each of them names.
-/
import Derived.BigQuiet
import Derived.BigRegion
import Derived.Deep.CutBlock
import Derived.Deep.CutRange
import Derived.Deep.RegionHeldLaw
import Derived.Test.YtinlgoljaiolnaaBK05
import Derived.Test.YtinlgoljaiolnaaBK07
import Derived.Test.YtinlgoljaiolnaaBK08
import Derived.Test.YtinlgoljaiolnaaBK09
namespace Go.Proofs.Ytinlgoljaiolnaa
open Go.RowKit
set_option linter.unusedVariables false
theorem four_cells {w w' : World} {g o : Nat} {x : Rfr} (hg : g < w.heap.size) (h : w.cell? ⟨g, o, none⟩ = some (.int .i64 x.1) ∧ w.cell? ⟨g, o + 1, none⟩ = some (.int .i64 x.2.1) ∧ w.cell? ⟨g, o + 2, none⟩ = some (.int .i64 x.2.2.1) ∧ w.cell? ⟨g, o + 3, none⟩ = some (.int .i64 x.2.2.2)) (b : Below w.heap.size w w') :
    w'.cell? ⟨g, o, none⟩ = some (.int .i64 x.1) ∧ w'.cell? ⟨g, o + 1, none⟩ = some (.int .i64 x.2.1) ∧ w'.cell? ⟨g, o + 2, none⟩ = some (.int .i64 x.2.2.1) ∧ w'.cell? ⟨g, o + 3, none⟩ = some (.int .i64 x.2.2.2) :=
  ⟨(b.cell (p := ⟨g, o, none⟩) hg).trans h.1, (b.cell (p := ⟨g, o + 1, none⟩) hg).trans h.2.1, (b.cell (p := ⟨g, o + 2, none⟩) hg).trans h.2.2.1, (b.cell (p := ⟨g, o + 3, none⟩) hg).trans h.2.2.2⟩
end Go.Proofs.Ytinlgoljaiolnaa
namespace Go.Proofs.Ytinlgoljaiolnaa
open Go.RowKit
set_option linter.unusedVariables false
set_option maxHeartbeats 2000000 in
theorem refAdd_no (w : World) (base g c : Nat) (m : List Ext) (x y : Ext) (hO : OwnE 80 w base (.slice (some ⟨g, 0, none⟩) (m.length + 1) c) (m ++ [y])) (hbase : base ≤ w.heap.size) (hl : m.length + 1 ≤ 1000000) (hy0 : Small y) (hx : Small x) (h1 : ¬ x.2.2 < 1) (hne : ¬ (y.1 + y.2.2 = x.1)) :
    Calls Try.prog 65 #[.slice (some ⟨g, 0, none⟩) (m.length + 1) c, .agg #[.int .i64 x.1, .int .i64 x.2.1, .int .i64 x.2.2]] w fun e w' => ∃ v', e = .returned v' ∧ OwnE 80 w' base v' (Ex.add (m ++ [y]) x) ∧ Grew w w' (.slice (some ⟨g, 0, none⟩) (m.length + 1) c) v' := by
  obtain ⟨w0, hw0, V0, b0, z0⟩ := boxedRow w 80 [.int .i64 x.1, .int .i64 x.2.1, .int .i64 x.2.2]
  have d0 := V0.cell (j := 0) rfl
  have d1 := V0.cell (j := 1) rfl
  have d2 := V0.cell (j := 2) rfl
  have B0 : Hid (Below w.heap.size w w0) := b0
  have HZ : Hid (base ≤ w0.heap.size) := (by omega : base ≤ w0.heap.size)
  have HO0 : Hid (OwnE _ _ _ _ _) := hO.below b0
  have HX3 : Hid _ := hx.in3
  obtain ⟨g', eg, hgb, hgl, -, hat⟩ := HO0.out.at (by simp)
  simp only [Option.some.injEq, Addr.mk.injEq, and_true] at eg
  subst eg
  obtain ⟨hml, hmy⟩ := Ex.get_last m y
  obtain ⟨c0, c1, c2, hf⟩ := hat m.length hml
  rw [hmy] at c0 c1 c2
  have f2 := hf (m.length * 3 + 2)
  have HA : Hid _ := Ex.add_more (m := m) (x := x) (y := y) h1 (fun h => hne h.1)
  have p1 : (y.1 + y.2.2 == x.1) = false := beq_eq_false_iff_ne.2 hne
  unfold Small at hx hy0
  obtain ⟨⟨s1, s2⟩, ⟨s3, s4⟩, s5, s6⟩ := hx
  obtain ⟨⟨t1, t2⟩, ⟨t3, t4⟩, t5, t6⟩ := hy0
  have hk1 : (m.length : Int) < ((m.length + 1 : Nat) : Int) := by omega
  have HG : Hid (base ≤ g) := hgb
  clear hO V0 b0 z0 hat hf hne hgb hmy hml
  go_enter Try.func65, Try.ntmps65
  go_wp2_with fail
  go_quiet (fail)
  go_wp2_with (at_builtin; refine append_ext rfl _ _ rfl base _ (m ++ [y]) rfl ((HO0.out.drewN nq).below ((Below.refl _ _).alloc (Nat.le_refl _) _)) x ⟨w0.heap.size, 0, none⟩ rfl (ext_cells_new (w0.drewN nq) x _) HX3.out (by simpa using hl) (Nat.le_trans HZ.out (by simp)) ?_; intro b6 d6 w6 ho6 bb6)
  go_ret
  rw [List.length_append] at ho6
  exact ⟨_, rfl, by rw [HA.out]; exact ho6, Grew.pre ((same_drewN B0.out nq).alloc B0.out.size _) bb6.len⟩
set_option maxHeartbeats 2000000 in
theorem refAdd_holes (w : World) (base g c : Nat) (m : List Ext) (x y : Ext) (hO : OwnE 80 w base (.slice (some ⟨g, 0, none⟩) (m.length + 1) c) (m ++ [y])) (hbase : base ≤ w.heap.size) (hl : m.length + 1 ≤ 1000000) (hy0 : Small y) (hx : Small x) (h1 : ¬ x.2.2 < 1) (hj : y.1 + y.2.2 = x.1) (hy : y.2.1 = -1) (hz : x.2.1 = -1) :
    Calls Try.prog 65 #[.slice (some ⟨g, 0, none⟩) (m.length + 1) c, .agg #[.int .i64 x.1, .int .i64 x.2.1, .int .i64 x.2.2]] w fun e w' => ∃ v', e = .returned v' ∧ OwnE 80 w' base v' (Ex.add (m ++ [y]) x) ∧ Grew w w' (.slice (some ⟨g, 0, none⟩) (m.length + 1) c) v' := by
  obtain ⟨w0, hw0, V0, b0, z0⟩ := boxedRow w 80 [.int .i64 x.1, .int .i64 x.2.1, .int .i64 x.2.2]
  have d0 := V0.cell (j := 0) rfl
  have d1 := V0.cell (j := 1) rfl
  have d2 := V0.cell (j := 2) rfl
  have B0 : Hid (Below w.heap.size w w0) := b0
  have HZ : Hid (base ≤ w0.heap.size) := (by omega : base ≤ w0.heap.size)
  have HO0 : Hid (OwnE _ _ _ _ _) := hO.below b0
  have HX3 : Hid _ := hx.in3
  obtain ⟨g', eg, hgb, hgl, -, hat⟩ := HO0.out.at (by simp)
  simp only [Option.some.injEq, Addr.mk.injEq, and_true] at eg
  subst eg
  obtain ⟨hml, hmy⟩ := Ex.get_last m y
  obtain ⟨c0, c1, c2, hf⟩ := hat m.length hml
  rw [hmy] at c0 c1 c2
  have f2 := hf (m.length * 3 + 2)
  have HA : Hid _ := Ex.add_join (m := m) (x := x) (y := y) h1 (⟨hj, .inl ⟨hy, hz⟩⟩)
  have p1 : (y.1 + y.2.2 == x.1) = true := beq_iff_eq.2 hj
  have p2 : (y.2.1 == -1) = true := beq_iff_eq.2 hy
  have p3 : (x.2.1 == -1) = true := beq_iff_eq.2 hz
  unfold Small at hx hy0
  obtain ⟨⟨s1, s2⟩, ⟨s3, s4⟩, s5, s6⟩ := hx
  obtain ⟨⟨t1, t2⟩, ⟨t3, t4⟩, t5, t6⟩ := hy0
  have hk1 : (m.length : Int) < ((m.length + 1 : Nat) : Int) := by omega
  have HG : Hid (base ≤ g) := hgb
  clear hO V0 b0 z0 hat hf hj hy hz hgb hmy hml
  go_enter Try.func65, Try.ntmps65
  go_wp2_with fail
  go_quiet (fail)
  go_wp2_with fail
  go_region
  go_wp2
  go_ret
  obtain ⟨hml, hmy⟩ := Ex.get_last m y
  have ho1 : OwnE 80 (w0.drewN nq) base (.slice (some ⟨g, 0, none⟩) (m ++ [y]).length c) (m ++ [y]) := by rw [List.length_append]; exact HO0.out.drewN nq
  have hs := ho1.setLen hml (m := y.2.2 + x.2.2) (by unfold In64; omega)
  rw [hmy, List.length_append] at hs
  have bs : w.grownBy ((w0.drewN nq).setCell ⟨g, m.length * 3 + 2, none⟩ (.int .i64 (y.2.2 + x.2.2))) (some g) := grown_pre (same_drewN B0.out nq) ⟨rfl, rfl, rfl, by simp [World.setCell], fun k _ hk => Below.heap_setCell _ _ _ _ (fun e => hk (by rw [e]))⟩
  exact ⟨_, rfl, by rw [HA.out]; exact hs.keep (fun _ _ _ => rfl), ⟨⟨bs.os, bs.tape, bs.output, bs.size, bs.block⟩, fun b e => .inl e⟩⟩
set_option maxHeartbeats 2000000 in
theorem refAdd_hole (w : World) (base g c : Nat) (m : List Ext) (x y : Ext) (hO : OwnE 80 w base (.slice (some ⟨g, 0, none⟩) (m.length + 1) c) (m ++ [y])) (hbase : base ≤ w.heap.size) (hl : m.length + 1 ≤ 1000000) (hy0 : Small y) (hx : Small x) (h1 : ¬ x.2.2 < 1) (hj : y.1 + y.2.2 = x.1) (hy : y.2.1 = -1) (hz : ¬ x.2.1 = -1) :
    Calls Try.prog 65 #[.slice (some ⟨g, 0, none⟩) (m.length + 1) c, .agg #[.int .i64 x.1, .int .i64 x.2.1, .int .i64 x.2.2]] w fun e w' => ∃ v', e = .returned v' ∧ OwnE 80 w' base v' (Ex.add (m ++ [y]) x) ∧ Grew w w' (.slice (some ⟨g, 0, none⟩) (m.length + 1) c) v' := by
  obtain ⟨w0, hw0, V0, b0, z0⟩ := boxedRow w 80 [.int .i64 x.1, .int .i64 x.2.1, .int .i64 x.2.2]
  have d0 := V0.cell (j := 0) rfl
  have d1 := V0.cell (j := 1) rfl
  have d2 := V0.cell (j := 2) rfl
  have B0 : Hid (Below w.heap.size w w0) := b0
  have HZ : Hid (base ≤ w0.heap.size) := (by omega : base ≤ w0.heap.size)
  have HO0 : Hid (OwnE _ _ _ _ _) := hO.below b0
  have HX3 : Hid _ := hx.in3
  obtain ⟨g', eg, hgb, hgl, -, hat⟩ := HO0.out.at (by simp)
  simp only [Option.some.injEq, Addr.mk.injEq, and_true] at eg
  subst eg
  obtain ⟨hml, hmy⟩ := Ex.get_last m y
  obtain ⟨c0, c1, c2, hf⟩ := hat m.length hml
  rw [hmy] at c0 c1 c2
  have f2 := hf (m.length * 3 + 2)
  have HA : Hid _ := Ex.add_more (m := m) (x := x) (y := y) h1 (fun h => h.2.elim (fun k => hz k.2) (fun k => k.1 hy))
  have p1 : (y.1 + y.2.2 == x.1) = true := beq_iff_eq.2 hj
  have p2 : (y.2.1 == -1) = true := beq_iff_eq.2 hy
  have p3 : (x.2.1 == -1) = false := beq_eq_false_iff_ne.2 hz
  have p4 : (y.2.1 != -1) = false := by simp [hy]
  unfold Small at hx hy0
  obtain ⟨⟨s1, s2⟩, ⟨s3, s4⟩, s5, s6⟩ := hx
  obtain ⟨⟨t1, t2⟩, ⟨t3, t4⟩, t5, t6⟩ := hy0
  have hk1 : (m.length : Int) < ((m.length + 1 : Nat) : Int) := by omega
  have HG : Hid (base ≤ g) := hgb
  clear hO V0 b0 z0 hat hf hj hy hz hgb hmy hml
  go_enter Try.func65, Try.ntmps65
  go_wp2_with fail
  go_quiet (fail)
  go_wp2_with (at_builtin; refine append_ext rfl _ _ rfl base _ (m ++ [y]) rfl ((HO0.out.drewN nq).below ((Below.refl _ _).alloc (Nat.le_refl _) _)) x ⟨w0.heap.size, 0, none⟩ rfl (ext_cells_new (w0.drewN nq) x _) HX3.out (by simpa using hl) (Nat.le_trans HZ.out (by simp)) ?_; intro b6 d6 w6 ho6 bb6)
  go_ret
  rw [List.length_append] at ho6
  exact ⟨_, rfl, by rw [HA.out]; exact ho6, Grew.pre ((same_drewN B0.out nq).alloc B0.out.size _) bb6.len⟩
set_option maxHeartbeats 2000000 in
theorem refAdd_holed (w : World) (base g c : Nat) (m : List Ext) (x y : Ext) (hO : OwnE 80 w base (.slice (some ⟨g, 0, none⟩) (m.length + 1) c) (m ++ [y])) (hbase : base ≤ w.heap.size) (hl : m.length + 1 ≤ 1000000) (hy0 : Small y) (hx : Small x) (h1 : ¬ x.2.2 < 1) (hj : y.1 + y.2.2 = x.1) (hy : ¬ y.2.1 = -1) (hz : x.2.1 = -1) :
    Calls Try.prog 65 #[.slice (some ⟨g, 0, none⟩) (m.length + 1) c, .agg #[.int .i64 x.1, .int .i64 x.2.1, .int .i64 x.2.2]] w fun e w' => ∃ v', e = .returned v' ∧ OwnE 80 w' base v' (Ex.add (m ++ [y]) x) ∧ Grew w w' (.slice (some ⟨g, 0, none⟩) (m.length + 1) c) v' := by
  obtain ⟨w0, hw0, V0, b0, z0⟩ := boxedRow w 80 [.int .i64 x.1, .int .i64 x.2.1, .int .i64 x.2.2]
  have d0 := V0.cell (j := 0) rfl
  have d1 := V0.cell (j := 1) rfl
  have d2 := V0.cell (j := 2) rfl
  have B0 : Hid (Below w.heap.size w w0) := b0
  have HZ : Hid (base ≤ w0.heap.size) := (by omega : base ≤ w0.heap.size)
  have HO0 : Hid (OwnE _ _ _ _ _) := hO.below b0
  have HX3 : Hid _ := hx.in3
  obtain ⟨g', eg, hgb, hgl, -, hat⟩ := HO0.out.at (by simp)
  simp only [Option.some.injEq, Addr.mk.injEq, and_true] at eg
  subst eg
  obtain ⟨hml, hmy⟩ := Ex.get_last m y
  obtain ⟨c0, c1, c2, hf⟩ := hat m.length hml
  rw [hmy] at c0 c1 c2
  have f2 := hf (m.length * 3 + 2)
  have HA : Hid _ := Ex.add_more (m := m) (x := x) (y := y) h1 (fun h => h.2.elim (fun k => hy k.1) (fun k => k.2.1 hz))
  have p1 : (y.1 + y.2.2 == x.1) = true := beq_iff_eq.2 hj
  have p2 : (y.2.1 == -1) = false := beq_eq_false_iff_ne.2 hy
  have p4 : (y.2.1 != -1) = true := bne_iff_ne.2 hy
  have p5 : (x.2.1 != -1) = false := by simp [hz]
  unfold Small at hx hy0
  obtain ⟨⟨s1, s2⟩, ⟨s3, s4⟩, s5, s6⟩ := hx
  obtain ⟨⟨t1, t2⟩, ⟨t3, t4⟩, t5, t6⟩ := hy0
  have hk1 : (m.length : Int) < ((m.length + 1 : Nat) : Int) := by omega
  have HG : Hid (base ≤ g) := hgb
  clear hO V0 b0 z0 hat hf hj hy hz hgb hmy hml
  go_enter Try.func65, Try.ntmps65
  go_wp2_with fail
  go_quiet (fail)
  go_wp2_with (at_builtin; refine append_ext rfl _ _ rfl base _ (m ++ [y]) rfl ((HO0.out.drewN nq).below ((Below.refl _ _).alloc (Nat.le_refl _) _)) x ⟨w0.heap.size, 0, none⟩ rfl (ext_cells_new (w0.drewN nq) x _) HX3.out (by simpa using hl) (Nat.le_trans HZ.out (by simp)) ?_; intro b6 d6 w6 ho6 bb6)
  go_ret
  rw [List.length_append] at ho6
  exact ⟨_, rfl, by rw [HA.out]; exact ho6, Grew.pre ((same_drewN B0.out nq).alloc B0.out.size _) bb6.len⟩
set_option maxHeartbeats 2000000 in
theorem refAdd_goes (w : World) (base g c : Nat) (m : List Ext) (x y : Ext) (hO : OwnE 80 w base (.slice (some ⟨g, 0, none⟩) (m.length + 1) c) (m ++ [y])) (hbase : base ≤ w.heap.size) (hl : m.length + 1 ≤ 1000000) (hy0 : Small y) (hx : Small x) (h1 : ¬ x.2.2 < 1) (hj : y.1 + y.2.2 = x.1) (hy : ¬ y.2.1 = -1) (hz : ¬ x.2.1 = -1) (hp : y.2.1 + y.2.2 = x.2.1) :
    Calls Try.prog 65 #[.slice (some ⟨g, 0, none⟩) (m.length + 1) c, .agg #[.int .i64 x.1, .int .i64 x.2.1, .int .i64 x.2.2]] w fun e w' => ∃ v', e = .returned v' ∧ OwnE 80 w' base v' (Ex.add (m ++ [y]) x) ∧ Grew w w' (.slice (some ⟨g, 0, none⟩) (m.length + 1) c) v' := by
  obtain ⟨w0, hw0, V0, b0, z0⟩ := boxedRow w 80 [.int .i64 x.1, .int .i64 x.2.1, .int .i64 x.2.2]
  have d0 := V0.cell (j := 0) rfl
  have d1 := V0.cell (j := 1) rfl
  have d2 := V0.cell (j := 2) rfl
  have B0 : Hid (Below w.heap.size w w0) := b0
  have HZ : Hid (base ≤ w0.heap.size) := (by omega : base ≤ w0.heap.size)
  have HO0 : Hid (OwnE _ _ _ _ _) := hO.below b0
  have HX3 : Hid _ := hx.in3
  obtain ⟨g', eg, hgb, hgl, -, hat⟩ := HO0.out.at (by simp)
  simp only [Option.some.injEq, Addr.mk.injEq, and_true] at eg
  subst eg
  obtain ⟨hml, hmy⟩ := Ex.get_last m y
  obtain ⟨c0, c1, c2, hf⟩ := hat m.length hml
  rw [hmy] at c0 c1 c2
  have f2 := hf (m.length * 3 + 2)
  have HA : Hid _ := Ex.add_join (m := m) (x := x) (y := y) h1 (⟨hj, .inr ⟨hy, hz, hp⟩⟩)
  have p1 : (y.1 + y.2.2 == x.1) = true := beq_iff_eq.2 hj
  have p2 : (y.2.1 == -1) = false := beq_eq_false_iff_ne.2 hy
  have p4 : (y.2.1 != -1) = true := bne_iff_ne.2 hy
  have p5 : (x.2.1 != -1) = true := bne_iff_ne.2 hz
  have p6 : (y.2.1 + y.2.2 == x.2.1) = true := beq_iff_eq.2 hp
  unfold Small at hx hy0
  obtain ⟨⟨s1, s2⟩, ⟨s3, s4⟩, s5, s6⟩ := hx
  obtain ⟨⟨t1, t2⟩, ⟨t3, t4⟩, t5, t6⟩ := hy0
  have hk1 : (m.length : Int) < ((m.length + 1 : Nat) : Int) := by omega
  have HG : Hid (base ≤ g) := hgb
  clear hO V0 b0 z0 hat hf hj hy hz hp hgb hmy hml
  go_enter Try.func65, Try.ntmps65
  go_wp2_with fail
  go_quiet (fail)
  go_wp2_with fail
  go_region
  go_wp2
  go_ret
  obtain ⟨hml, hmy⟩ := Ex.get_last m y
  have ho1 : OwnE 80 (w0.drewN nq) base (.slice (some ⟨g, 0, none⟩) (m ++ [y]).length c) (m ++ [y]) := by rw [List.length_append]; exact HO0.out.drewN nq
  have hs := ho1.setLen hml (m := y.2.2 + x.2.2) (by unfold In64; omega)
  rw [hmy, List.length_append] at hs
  have bs : w.grownBy ((w0.drewN nq).setCell ⟨g, m.length * 3 + 2, none⟩ (.int .i64 (y.2.2 + x.2.2))) (some g) := grown_pre (same_drewN B0.out nq) ⟨rfl, rfl, rfl, by simp [World.setCell], fun k _ hk => Below.heap_setCell _ _ _ _ (fun e => hk (by rw [e]))⟩
  exact ⟨_, rfl, by rw [HA.out]; exact hs.keep (fun _ _ _ => rfl), ⟨⟨bs.os, bs.tape, bs.output, bs.size, bs.block⟩, fun b e => .inl e⟩⟩
set_option maxHeartbeats 2000000 in
theorem refAdd_apart (w : World) (base g c : Nat) (m : List Ext) (x y : Ext) (hO : OwnE 80 w base (.slice (some ⟨g, 0, none⟩) (m.length + 1) c) (m ++ [y])) (hbase : base ≤ w.heap.size) (hl : m.length + 1 ≤ 1000000) (hy0 : Small y) (hx : Small x) (h1 : ¬ x.2.2 < 1) (hj : y.1 + y.2.2 = x.1) (hy : ¬ y.2.1 = -1) (hz : ¬ x.2.1 = -1) (hp : ¬ y.2.1 + y.2.2 = x.2.1) :
    Calls Try.prog 65 #[.slice (some ⟨g, 0, none⟩) (m.length + 1) c, .agg #[.int .i64 x.1, .int .i64 x.2.1, .int .i64 x.2.2]] w fun e w' => ∃ v', e = .returned v' ∧ OwnE 80 w' base v' (Ex.add (m ++ [y]) x) ∧ Grew w w' (.slice (some ⟨g, 0, none⟩) (m.length + 1) c) v' := by
  obtain ⟨w0, hw0, V0, b0, z0⟩ := boxedRow w 80 [.int .i64 x.1, .int .i64 x.2.1, .int .i64 x.2.2]
  have d0 := V0.cell (j := 0) rfl
  have d1 := V0.cell (j := 1) rfl
  have d2 := V0.cell (j := 2) rfl
  have B0 : Hid (Below w.heap.size w w0) := b0
  have HZ : Hid (base ≤ w0.heap.size) := (by omega : base ≤ w0.heap.size)
  have HO0 : Hid (OwnE _ _ _ _ _) := hO.below b0
  have HX3 : Hid _ := hx.in3
  obtain ⟨g', eg, hgb, hgl, -, hat⟩ := HO0.out.at (by simp)
  simp only [Option.some.injEq, Addr.mk.injEq, and_true] at eg
  subst eg
  obtain ⟨hml, hmy⟩ := Ex.get_last m y
  obtain ⟨c0, c1, c2, hf⟩ := hat m.length hml
  rw [hmy] at c0 c1 c2
  have f2 := hf (m.length * 3 + 2)
  have HA : Hid _ := Ex.add_more (m := m) (x := x) (y := y) h1 (fun h => h.2.elim (fun k => hy k.1) (fun k => hp k.2.2))
  have p1 : (y.1 + y.2.2 == x.1) = true := beq_iff_eq.2 hj
  have p2 : (y.2.1 == -1) = false := beq_eq_false_iff_ne.2 hy
  have p4 : (y.2.1 != -1) = true := bne_iff_ne.2 hy
  have p5 : (x.2.1 != -1) = true := bne_iff_ne.2 hz
  have p6 : (y.2.1 + y.2.2 == x.2.1) = false := beq_eq_false_iff_ne.2 hp
  unfold Small at hx hy0
  obtain ⟨⟨s1, s2⟩, ⟨s3, s4⟩, s5, s6⟩ := hx
  obtain ⟨⟨t1, t2⟩, ⟨t3, t4⟩, t5, t6⟩ := hy0
  have hk1 : (m.length : Int) < ((m.length + 1 : Nat) : Int) := by omega
  have HG : Hid (base ≤ g) := hgb
  clear hO V0 b0 z0 hat hf hj hy hz hp hgb hmy hml
  go_enter Try.func65, Try.ntmps65
  go_wp2_with fail
  go_quiet (fail)
  go_wp2_with (at_builtin; refine append_ext rfl _ _ rfl base _ (m ++ [y]) rfl ((HO0.out.drewN nq).below ((Below.refl _ _).alloc (Nat.le_refl _) _)) x ⟨w0.heap.size, 0, none⟩ rfl (ext_cells_new (w0.drewN nq) x _) HX3.out (by simpa using hl) (Nat.le_trans HZ.out (by simp)) ?_; intro b6 d6 w6 ho6 bb6)
  go_ret
  rw [List.length_append] at ho6
  exact ⟨_, rfl, by rw [HA.out]; exact ho6, Grew.pre ((same_drewN B0.out nq).alloc B0.out.size _) bb6.len⟩
end Go.Proofs.Ytinlgoljaiolnaa
namespace Go.Proofs.Ytinlgoljaiolnaa
open Go.RowKit
set_option linter.unusedVariables false
set_option maxHeartbeats 2000000 in
theorem refAdd_none (w : World) (base : Nat) (v : Value) (l : List Ext) (x : Ext) (hO : OwnE 80 w base v l) (hbase : base ≤ w.heap.size) (h1 : x.2.2 < 1) :
    Calls Try.prog 65 #[v, .agg #[.int .i64 x.1, .int .i64 x.2.1, .int .i64 x.2.2]] w fun e w' => ∃ v', e = .returned v' ∧ OwnE 80 w' base v' (Ex.add l x) ∧ Grew w w' v v' := by
  obtain ⟨w0, hw0, V0, b0, z0⟩ := boxedRow w 80 [.int .i64 x.1, .int .i64 x.2.1, .int .i64 x.2.2]
  have d2 := V0.cell (j := 2) rfl
  have B0 : Hid (Below w.heap.size w w0) := b0
  have HO0 : Hid (OwnE _ _ _ _ _) := hO.below b0
  have HA : Hid _ := Ex.add_none (l := l) h1
  clear hO V0 b0 z0
  go_enter Try.func65, Try.ntmps65
  go_wp2
  go_ret
  exact ⟨_, rfl, by rw [HA.out]; exact HO0.out, ⟨grown_pre B0.out (World.grownBy.refl _ _), fun b e => .inl e⟩⟩
set_option maxHeartbeats 2000000 in
theorem refAdd_first (w : World) (base : Nat) (a : Option Addr) (c : Nat) (x : Ext) (hO : OwnE 80 w base (.slice a 0 c) []) (hbase : base ≤ w.heap.size) (hx : Small x) (h1 : ¬ x.2.2 < 1) :
    Calls Try.prog 65 #[.slice a 0 c, .agg #[.int .i64 x.1, .int .i64 x.2.1, .int .i64 x.2.2]] w fun e w' => ∃ v', e = .returned v' ∧ OwnE 80 w' base v' (Ex.add [] x) ∧ Grew w w' (.slice a 0 c) v' := by
  obtain ⟨w0, hw0, V0, b0, z0⟩ := boxedRow w 80 [.int .i64 x.1, .int .i64 x.2.1, .int .i64 x.2.2]
  have d0 := V0.cell (j := 0) rfl
  have d1 := V0.cell (j := 1) rfl
  have d2 := V0.cell (j := 2) rfl
  have B0 : Hid (Below w.heap.size w w0) := b0
  have HZ : Hid (base ≤ w0.heap.size) := (by omega : base ≤ w0.heap.size)
  have HO0 : Hid (OwnE _ _ _ _ _) := hO.below b0
  have HX3 : Hid _ := hx.in3
  have HA : Hid _ := Ex.add_first h1
  clear hO V0 b0 z0
  go_enter Try.func65, Try.ntmps65
  go_wp2_with fail
  go_quiet (fail)
  go_wp2_with (at_builtin; refine append_ext rfl _ _ rfl base _ [] rfl ((HO0.out.drewN nq).below ((Below.refl _ _).alloc (Nat.le_refl _) _)) x ⟨w0.heap.size, 0, none⟩ rfl (ext_cells_new (w0.drewN nq) x _) HX3.out (by decide) (Nat.le_trans HZ.out (by simp)) ?_; intro b6 d6 w6 ho6 bb6)
  go_ret
  exact ⟨_, rfl, by rw [HA.out]; exact ho6, Grew.pre ((same_drewN B0.out nq).alloc B0.out.size _) bb6⟩
theorem refAdd_u (w : World) (base : Nat) (v : Value) (l : List Ext) (x : Ext) (hO : OwnE 80 w base v l) (hbase : base ≤ w.heap.size) (hl : l.length ≤ 1000000) (hS : ∀ y ∈ l, Small y) (hx : Small x) :
    Calls Try.prog 65 #[v, .agg #[.int .i64 x.1, .int .i64 x.2.1, .int .i64 x.2.2]] w fun e w' => ∃ v', e = .returned v' ∧ OwnE 80 w' base v' (Ex.add l x) ∧ Grew w w' v v' := by
  by_cases h1 : x.2.2 < 1
  · exact refAdd_none w base v l x hO hbase h1
  obtain ⟨a, c, rfl, hac, han⟩ := hO.slice
  rcases List.eq_nil_or_concat l with rfl | ⟨m, y, rfl⟩
  · exact refAdd_first w base a c x hO hbase hx h1
  · rw [List.concat_eq_append] at *
    have hy0 : Small y := hS y (by simp)
    obtain ⟨g, rfl, -⟩ := hO.at (by simp)
    rw [List.length_append] at *
    by_cases hj : y.1 + y.2.2 = x.1
    · by_cases hy : y.2.1 = -1
      · by_cases hz : x.2.1 = -1
        · exact refAdd_holes w base g c m x y hO hbase hl hy0 hx h1 hj hy hz
        · exact refAdd_hole w base g c m x y hO hbase hl hy0 hx h1 hj hy hz
      · by_cases hz : x.2.1 = -1
        · exact refAdd_holed w base g c m x y hO hbase hl hy0 hx h1 hj hy hz
        · by_cases hp : y.2.1 + y.2.2 = x.2.1
          · exact refAdd_goes w base g c m x y hO hbase hl hy0 hx h1 hj hy hz hp
          · exact refAdd_apart w base g c m x y hO hbase hl hy0 hx h1 hj hy hz hp
    · exact refAdd_no w base g c m x y hO hbase hl hy0 hx h1 hj
end Go.Proofs.Ytinlgoljaiolnaa
namespace Go.Proofs.Ytinlgoljaiolnaa
open Go.RowKit
set_option linter.unusedVariables false
theorem refAdd_p {ps q r : List Ext} {p : Ext} (h : Ex.Pieces ps) (e : ps = q ++ p :: r) (w : World) (base : Nat) (v : Value) (hO : OwnE 80 w base v (Ex.addAll [] q)) (hbase : base ≤ w.heap.size) :
    Calls Try.prog 65 #[v, .agg #[.int .i64 p.1, .int .i64 p.2.1, .int .i64 p.2.2]] w fun e w' => ∃ v', e = .returned v' ∧ OwnE 80 w' base v' (Ex.addAll [] (q ++ [p])) ∧ Grew w w' v v' := by
  subst e
  have hq := h.front
  have hs : ∀ {x : Ext}, (0 ≤ x.1 ∧ x.1 ≤ 65536) ∧ (-1 ≤ x.2.1 ∧ x.2.1 ≤ 131072) ∧ (0 ≤ x.2.2 ∧ x.2.2 ≤ 65536) → Small x := fun k => by unfold Small; omega
  have hc := hq.count
  refine (refAdd_u w base v (Ex.addAll [] q) p hO hbase (by omega) (fun y hy => hs (hq.made hy)) (hs (h.small (by simp)))).mono ?_
  rintro e w' ⟨v', rfl, h1, h2⟩
  refine ⟨v', rfl, ?_, h2⟩
  rw [Ex.addAll_append]
  exact h1
set_option maxHeartbeats 4000000 in
theorem refWithout_u (w : World) (P : Nat → Prop) (a : Option Addr) (n c : Nat) (l : List Ext) (hL : rExts.rd w P [.slice a n c] l) (hO : Ex.Ok l) (v k : Int) (hf : Ex.Fits v k) :
    Calls Try.prog 64 #[.slice a n c, .int .i64 v, .int .i64 k] w fun e w' => ∃ b, e = .returned b ∧ OwnE 80 w' w.heap.size b (Ex.without l v k) ∧ Below w.heap.size w w' := by
  obtain ⟨hl, hnc, hnil, hb⟩ := rList_len hL
  have hn : n ≤ 1024 := by have := hO.1; omega
  have HL : Hid _ := hl
  have HR : Hid _ := hL
  have HO : Hid _ := hO.2.1
  have HP : Hid _ := Ex.cut_pieces hO v k
  unfold Ex.Fits at hf
  obtain ⟨f1, f2, f3, f4⟩ := hf
  have hmx := max_fact 3
  have hmn := min_fact 3
  clear hl hnc hnil hb hL hO
  go_enter Try.func64, Try.ntmps64
  go_wp2
  go_loopw [7, 8] (fun o i wr => ∃ j : Nat, j ≤ n ∧ i = .int .i64 j ∧ Hid (OwnE 80 wr w.heap.size o (Ex.addAll [] ((l.take j).flatMap (Ex.cutOne v k)))) ∧ Below w.heap.size w wr) (fun _ i _ => n - (intOf i).toNat)
  case atStart => exact ⟨0, Nat.zero_le _, rfl, OwnE.nil _ _ _, Below.refl _ _⟩
  case round =>
    obtain ⟨j, hj, rfl, HW, bel⟩ := hrel
    by_cases hlt : j < n
    · have hkl : j < l.length := by rw [HL.out]; exact hlt
      have hAr := Rep.below HR.out bel
      obtain ⟨g, off, rfl, -, hgl, hat⟩ := rExts_at hAr (by omega)
      obtain ⟨c0, c1, c2, -⟩ := hat j hkl
      have ho := HO.out l[j] (List.getElem_mem hkl)
      have HE : Hid _ := Ex.flat_at (f := Ex.cutOne v k) l j hkl
      have HN : Hid _ := Ex.flat_next (f := Ex.cutOne v k) l j hkl
      obtain ⟨X, hX⟩ : ∃ X, X = l[j] := ⟨_, rfl⟩
      rw [← hX] at c0 c1 c2 ho HE HN
      clear hX hat hAr
      unfold Ex.One Ex.Fits at ho
      obtain ⟨q1, ⟨q2, q3, q4, q5⟩, q6, q7, q8, q9⟩ := ho
      have hkn : (j : Int) < (n : Int) := by omega
      obtain ⟨w1, hw1, V1, b1, -⟩ := boxedRow wr 80 [.int .i64 X.1, .int .i64 X.2.1, .int .i64 X.2.2]
      have d0 := V1.cell (j := 0) rfl
      have d1 := V1.cell (j := 1) rfl
      have d2 := V1.cell (j := 2) rfl
      have B1 : Hid (Below w.heap.size w w1) := on bel b1
      have HW1 : Hid (OwnE _ _ _ _ _) := HW.out.below b1
      have HV1 : Hid (Row _ _ _ _) := V1
      clear V1 b1
      have HS1 : Hid (w.heap.size ≤ w1.heap.size) := B1.out.size
      have HB1 : Hid (wr.heap.size < w1.heap.size) := HV1.out.lt
      have HOW : Hid (∀ b, u7.ownBlock = some b → w.heap.size ≤ b ∧ b < wr.heap.size) := fun b e => HW.out.row.lt b e
      go_wp2_with fail
      go_quiet (fail)
      generalize hlo : min (X.1 + X.2.2) (max X.1 v) = lo at *
      generalize hhi : max X.1 (min (X.1 + X.2.2) (v + k)) = hi at *
      have r1 : X.1 ≤ lo ∧ lo ≤ X.1 + X.2.2 := by omega
      have r2 : X.1 ≤ hi ∧ hi ≤ X.1 + X.2.2 := by omega
      have HC : Hid _ := Ex.cutOne_low hlo hhi
      clear hlo hhi
      by_cases hge : hi ≤ lo
      · have hcut : Ex.cutOne v k X = [X] := by rw [HC.out, if_pos hge]
        rw [hcut] at HE HN
        clear hcut HC
        go_wp2_with fail
        refine (refAdd_p HP.out HE.out _ w.heap.size _ (HW1.out.drewN nq) HS1.out).mono ?_
        rintro e w2 ⟨v2, rfl, ho2, g2⟩
        have HB2 : Hid (Below w.heap.size w w2) := (same_drewN B1.out nq).trans ((HW1.out.drewN nq).base_below HS1.out g2)
        have HO2 : Hid (OwnE _ _ _ _ _) := ho2
        clear ho2 g2
        go_wp2
        go_roundw
        case rel => exact ⟨j + 1, by omega, by go_num, by rw [HN.out]; exact HO2.out, HB2.out⟩
        case measure => simp [intOf]; omega
      · have hcut : Ex.cutOne v k X = [(X.1, X.2.1, lo - X.1), (hi, X.2.1 + hi - X.1, X.1 + X.2.2 - hi)] := by rw [HC.out, if_neg hge]
        rw [hcut] at HE HN
        clear hcut HC
        go_wp2_with fail
        refine (refAdd_p (p := (X.1, X.2.1, lo - X.1)) HP.out HE.out _ w.heap.size _ (HW1.out.drewN nq) HS1.out).mono ?_
        rintro e w2 ⟨v2, rfl, ho2, g2⟩
        have HB2 : Hid (Below w.heap.size w w2) := (same_drewN B1.out nq).trans ((HW1.out.drewN nq).base_below HS1.out g2)
        have HO2 : Hid (OwnE _ _ _ _ _) := ho2
        have V2 : Row w2 wr.heap.size 80 [.int .i64 X.1, .int .i64 X.2.1, .int .i64 X.2.2] := HV1.out.keep (g2.block wr.heap.size HB1.out (fun e => by have := (HOW.out _ e.symm).2; omega))
        have d0' := V2.cell (j := 0) rfl
        have d1' := V2.cell (j := 1) rfl
        have d2' := V2.cell (j := 2) rfl
        clear ho2 g2 V2 d0 d1 d2
        go_wp2_with fail
        refine (refAdd_p (p := (hi, X.2.1 + hi - X.1, X.1 + X.2.2 - hi)) (r := (l.drop (j + 1)).flatMap (Ex.cutOne v k)) HP.out (by rw [HE.out, List.append_assoc]; rfl) _ w.heap.size _ HO2.out HB2.out.size).mono ?_
        rintro e w3 ⟨v3, rfl, ho3, g3⟩
        have HB3 : Hid (Below w.heap.size w w3) := HB2.out.trans (HO2.out.base_below HB2.out.size g3)
        have HO3 : Hid (OwnE _ _ _ _ _) := ho3
        clear ho3 g3
        go_wp2
        go_roundw
        case rel => exact ⟨j + 1, by omega, by go_num, by rw [HN.out]; have h := HO3.out; rw [List.append_assoc] at h; exact h, HB3.out⟩
        case measure => simp [intOf]; omega
    · obtain rfl : j = n := by omega
      have HV : Hid (Ex.without l v k = Ex.addAll [] ((l.take j).flatMap (Ex.cutOne v k))) := by unfold Hid Ex.without; rw [List.take_of_length_le (by rw [HL.out]; exact Nat.le_refl _)]
      go_wp2
      go_ret
      exact ⟨_, rfl, by rw [HV.out]; exact HW.out, bel⟩
end Go.Proofs.Ytinlgoljaiolnaa
namespace Go.Proofs.Ytinlgoljaiolnaa
open Go.RowKit
set_option linter.unusedVariables false
set_option maxHeartbeats 4000000 in
theorem refMerged_u (w : World) (P P' : Nat → Prop) (a : Option Addr) (n c : Nat) (l : List Ext) (hL : rExts.rd w P [.slice a n c] l) (b : Option Addr) (cb : Nat) (x : Ext) (hB : rExts.rd w P' [.slice b 1 cb] [x]) (hP : Ex.Pieces (Ex.ins x l)) :
    Calls Try.prog 63 #[.slice a n c, .slice b 1 cb] w fun e w' => ∃ v, e = .returned v ∧ OwnE 80 w' w.heap.size v (Ex.addAll [] (Ex.ins x l)) ∧ Below w.heap.size w w' := by
  obtain ⟨hl, hnc, hnil, hb⟩ := rList_len hL
  have hn : n ≤ 100000 := by have := hP.len; rw [Ex.ins_len] at this; omega
  have HL : Hid _ := hl
  have HR : Hid _ := hL
  have HRB : Hid _ := hB
  have HP : Hid _ := hP
  obtain ⟨gb, ob, rfl, -, -, -⟩ := rExts_at hB (by decide)
  clear hl hnc hnil hb hL hB hP
  go_enter Try.func63, Try.ntmps63
  go_wp2
  go_loopw [5, 6, 7] (fun o i k wr => ∃ (j : Nat) (f : Nat) (q : List Ext), j ≤ n ∧ i = .int .i64 j ∧ k = .int .i64 f ∧ f ≤ 1 ∧ Hid (f = 0 → Ex.ins x l = q ++ Ex.ins x (l.drop j)) ∧ Hid (f = 1 → Ex.ins x l = q ++ l.drop j) ∧ Hid (OwnE 80 wr w.heap.size o (Ex.addAll [] q)) ∧ Below w.heap.size w wr) (fun _ i k _ => (n - (intOf i).toNat) + (1 - (intOf k).toNat))
  case atStart => exact ⟨0, 0, [], Nat.zero_le _, rfl, rfl, by omega, fun _ => rfl, fun h => by omega, OwnE.nil _ _ _, Below.refl _ _⟩
  case round =>
    obtain ⟨j, f, q, hj, rfl, rfl, hf1, HQ0, HQ1, HW, bel⟩ := hrel
    have HS : Hid (w.heap.size ≤ wr.heap.size) := bel.size
    have hBr := Rep.below HRB.out bel
    obtain ⟨g', off', eg, -, hgb, hatb⟩ := rExts_at hBr (by decide)
    simp only [Option.some.injEq, Addr.mk.injEq, and_true] at eg
    obtain ⟨rfl, rfl⟩ := eg
    obtain ⟨b0, b1, b2, -⟩ := hatb 0 (by simp)
    simp only [Nat.zero_mul, Nat.add_zero, List.getElem_cons_zero] at b0 b1 b2
    clear hatb hBr
    by_cases hlt : j < n
    · have hkl : j < l.length := by rw [HL.out]; exact hlt
      have hAr := Rep.below HR.out bel
      obtain ⟨g, off, rfl, -, hgl, hat⟩ := rExts_at hAr (by omega)
      obtain ⟨c0, c1, c2, -⟩ := hat j hkl
      have HI : Hid _ := Ex.ins_at (x := x) hkl
      have HD : Hid _ := List.drop_eq_getElem_cons hkl
      obtain ⟨X, hX⟩ : ∃ X, X = l[j] := ⟨_, rfl⟩
      rw [← hX] at c0 c1 c2 HI HD
      clear hX hat hAr
      have hkn : (j : Int) < (n : Int) := by omega
      by_cases hf : f = 0
      · subst hf
        have HQ : Hid _ := HQ0.out rfl
        clear HQ0 HQ1
        by_cases hlt2 : X.1 < x.1
        · rw [if_pos hlt2] at HI
          have HE : Hid (Ex.ins x l = q ++ X :: Ex.ins x (l.drop (j + 1))) := by unfold Hid; rw [HQ.out, HI.out]
          have HE2 : Hid (Ex.ins x l = (q ++ [X]) ++ Ex.ins x (l.drop (j + 1))) := by unfold Hid; rw [HE.out, List.append_assoc]; rfl
          clear HQ HI HD
          go_wp2_with fail
          go_quiet (fail)
          go_wp2_with fail
          refine (refAdd_p HP.out HE.out _ w.heap.size _ (HW.out.drewN nq) HS.out).mono ?_
          rintro e w2 ⟨v2, rfl, ho2, g2⟩
          have HB2 : Hid (Below w.heap.size w w2) := (same_drewN bel nq).trans ((HW.out.drewN nq).base_below HS.out g2)
          have HO2 : Hid (OwnE _ _ _ _ _) := ho2
          clear ho2 g2
          go_wp2
          go_roundw
          case rel => exact ⟨j + 1, 0, q ++ [X], by omega, by go_num, rfl, by omega, fun _ => HE2.out, fun h => by omega, HO2, HB2.out⟩
          case measure => simp [intOf]; omega
        · rw [if_neg hlt2] at HI
          have HE : Hid (Ex.ins x l = q ++ x :: l.drop j) := by unfold Hid; rw [HQ.out, HI.out]
          have HE2 : Hid (Ex.ins x l = (q ++ [x]) ++ l.drop j) := by unfold Hid; rw [HE.out, List.append_assoc]; rfl
          clear HQ HI HD
          go_wp2_with fail
          go_quiet (fail)
          go_wp2_with fail
          refine (refAdd_p HP.out HE.out _ w.heap.size _ (HW.out.drewN nq) HS.out).mono ?_
          rintro e w2 ⟨v2, rfl, ho2, g2⟩
          have HB2 : Hid (Below w.heap.size w w2) := (same_drewN bel nq).trans ((HW.out.drewN nq).base_below HS.out g2)
          have HO2 : Hid (OwnE _ _ _ _ _) := ho2
          clear ho2 g2
          go_wp2
          go_roundw
          case rel => exact ⟨j, 1, q ++ [x], by omega, rfl, by go_num, by omega, fun h => by omega, fun _ => HE2.out, HO2, HB2.out⟩
          case measure => simp [intOf]
      · obtain rfl : f = 1 := by omega
        have HE : Hid (Ex.ins x l = q ++ X :: l.drop (j + 1)) := by unfold Hid; rw [HQ1.out rfl, HD.out]
        have HE2 : Hid (Ex.ins x l = (q ++ [X]) ++ l.drop (j + 1)) := by unfold Hid; rw [HE.out, List.append_assoc]; rfl
        clear HQ0 HQ1 HI HD
        go_wp2_with fail
        go_quiet (fail)
        go_wp2_with fail
        refine (refAdd_p HP.out HE.out _ w.heap.size _ (HW.out.drewN nq) HS.out).mono ?_
        rintro e w2 ⟨v2, rfl, ho2, g2⟩
        have HB2 : Hid (Below w.heap.size w w2) := (same_drewN bel nq).trans ((HW.out.drewN nq).base_below HS.out g2)
        have HO2 : Hid (OwnE _ _ _ _ _) := ho2
        clear ho2 g2
        go_wp2
        go_roundw
        case rel => exact ⟨j + 1, 1, q ++ [X], by omega, by go_num, rfl, by omega, fun h => by omega, fun _ => HE2.out, HO2, HB2.out⟩
        case measure => simp [intOf]; omega
    · obtain rfl : j = n := by omega
      have HZ : Hid (l.drop j = []) := List.drop_eq_nil_of_le (by rw [HL.out]; exact Nat.le_refl _)
      by_cases hf : f = 0
      · subst hf
        have HE : Hid (Ex.ins x l = q ++ x :: []) := by unfold Hid; rw [HQ0.out rfl, HZ.out]; rfl
        have HE2 : Hid (Ex.ins x l = (q ++ [x]) ++ l.drop j) := by unfold Hid; rw [HE.out, HZ.out, List.append_nil]
        clear HQ0 HQ1
        go_wp2_with fail
        go_quiet (fail)
        go_wp2_with fail
        refine (refAdd_p HP.out HE.out _ w.heap.size _ (HW.out.drewN nq) HS.out).mono ?_
        rintro e w2 ⟨v2, rfl, ho2, g2⟩
        have HB2 : Hid (Below w.heap.size w w2) := (same_drewN bel nq).trans ((HW.out.drewN nq).base_below HS.out g2)
        have HO2 : Hid (OwnE _ _ _ _ _) := ho2
        clear ho2 g2
        go_wp2
        go_roundw
        case rel => exact ⟨j, 1, q ++ [x], by omega, rfl, by go_num, by omega, fun h => by omega, fun _ => HE2.out, HO2, HB2.out⟩
        case measure => simp [intOf]
      · obtain rfl : f = 1 := by omega
        have HV : Hid (Ex.ins x l = q) := by unfold Hid; rw [HQ1.out rfl, HZ.out, List.append_nil]
        clear HQ0 HQ1
        go_wp2
        go_ret
        exact ⟨_, rfl, by rw [HV.out]; exact HW.out, bel⟩
end Go.Proofs.Ytinlgoljaiolnaa
namespace Go.Proofs.Ytinlgoljaiolnaa
open Go.RowKit
set_option linter.unusedVariables false
theorem OwnE.lit (e : TypeId) (w : World) (base : Nat) (hb : base ≤ w.heap.size) (x : Ext) (hx : In3 x) :
    OwnE e (w.alloc (.cells #[.int .i64 x.1, .int .i64 x.2.1, .int .i64 x.2.2] e)) base (.slice (some ⟨w.heap.size, 0, none⟩) 1 1) [x] :=
  ⟨⟨rfl, .inr ⟨w.heap.size, 1, _, rfl, hb, heap_alloc_new w _, Nat.le_refl 1, by decide, rfl, rfl⟩⟩, fun y hy => by rw [List.mem_singleton.1 hy]; exact hx⟩
theorem row_alloc {w : World} {g : Nat} {t : TypeId} {xs : List Value} (h : Row w g t xs) (o : Obj) : Row (w.alloc o) g t xs := h.below ((Below.refl _ _).alloc (Nat.le_refl _) _)
theorem below_alloc {w w1 : World} (h : Below w.heap.size w w1) (o : Obj) : Below w.heap.size w (w1.alloc o) := h.alloc h.size o
theorem Row.trio {w : World} {g : Nat} {t : TypeId} {a b c : Value} (h : Row w g t [a, b, c]) : w.cell? ⟨g, 0, none⟩ = some a ∧ w.cell? ⟨g, 1, none⟩ = some b ∧ w.cell? ⟨g, 2, none⟩ = some c := ⟨h.cell (j := 0) rfl, h.cell (j := 1) rfl, h.cell (j := 2) rfl⟩
set_option maxHeartbeats 4000000 in
theorem refPut_ok (w : World) (P : Nat → Prop) (a : Option Addr) (n c : Nat) (l : List Ext) (hL : rExts.rd w P [.slice a n c] l) (hO : Ex.Ok l) (x : Ext) (hx : Ex.One x) :
    Calls Try.prog 50 #[.slice a n c, .agg #[.int .i64 x.1, .int .i64 x.2.1, .int .i64 x.2.2]] w fun e w' => ∃ b, e = .returned (.tuple #[b, .int .i64 (Ex.putE l x)]) ∧ OwnE 80 w' w.heap.size b (Ex.putL l x) ∧ Below w.heap.size w w' := by
  have HOk : Hid (Ex.Ok l) := hO
  have HP : Hid (Ex.Pieces (Ex.ins x (Ex.without l x.1 x.2.2))) := Ex.put_pieces hO hx
  have HC : Hid _ := Ex.checkE_ok hO
  have HFt : Hid (Ex.Fits x.1 x.2.2) := hx.2.1
  have HF1 : Hid (decide (Ex.Fits x.1 x.2.2) = true) := decide_eq_true hx.2.1
  have HF2 : Hid (decide (Ex.Fits x.2.1 x.2.2) = true) := decide_eq_true hx.2.2
  have HWL : Hid ((Ex.without l x.1 x.2.2).length ≤ 5864062014634) := by
    have h1 := Ex.without_len l x.1 x.2.2
    have h2 := hO.1
    unfold Hid
    omega
  obtain ⟨m, hm⟩ : ∃ m, m = (Ex.put l x).length := ⟨_, rfl⟩
  have hmc : m ≤ 100000 := by rw [hm]; exact HP.out.count
  have HM : Hid _ := hm
  have HE : Hid (Ex.putE l x = if m ≤ 1024 then 0 else 51) := by unfold Hid Ex.putE; rw [if_pos hO, if_pos hx, hm]
  have HX3 : Hid (In3 x) := by
    have h := hx
    unfold Ex.One Ex.Fits at h
    unfold Hid In3 In64
    omega
  obtain ⟨w0, hw0, V0, b0, -⟩ := boxedRow w 80 [.int .i64 x.1, .int .i64 x.2.1, .int .i64 x.2.2]
  have HR : Hid _ := Rep.below hL b0
  have HV0 : Hid (Row w0 w.heap.size 80 [.int .i64 x.1, .int .i64 x.2.1, .int .i64 x.2.2]) := V0
  have B0 : Hid (Below w.heap.size w w0) := b0
  have f0 : 1 ≤ x.2.2 := hx.1
  clear hL hO hx hm V0 b0
  go_enter Try.func50, Try.ntmps50
  go_wp2_with fail
  refine (refCheck5_u _ _ _ _ _ l HR.out).mono ?_
  rintro e w1 ⟨rfl, b1⟩
  rw [HC.out]
  have V1 : Hid (Row w1 w.heap.size 80 [.int .i64 x.1, .int .i64 x.2.1, .int .i64 x.2.2]) := HV0.out.below b1
  have R1 : Hid (rExts.rd w1 P [.slice a n c] l) := Rep.below HR.out b1
  have B1 : Hid (Below w.heap.size w w1) := on B0.out b1
  obtain ⟨s0, s1, s2⟩ := V1.out.trio
  clear hw0 b1
  go_wp2_with fail
  refine (refFits_u _ _ _ _ HF1.out).mono ?_
  rintro e w9 ⟨rfl, rfl⟩
  go_wp2_with fail
  refine (refFits_u _ _ _ _ HF2.out).mono ?_
  rintro e w9 ⟨rfl, rfl⟩
  go_wp2_with fail
  have VD : Hid (Row w1.drew w.heap.size 80 [.int .i64 x.1, .int .i64 x.2.1, .int .i64 x.2.2]) := V1.out.keep rfl
  have RD : Hid (rExts.rd w1.drew P [.slice a n c] l) := Rep.below R1.out (Below.refl _ _).drew
  have BD : Hid (Below w.heap.size w w1.drew) := B1.out.drew
  have S0 := VD.out.trio
  clear V1 R1 B1
  go_region_held_law (fun w' : World => w'.cell? ⟨w.heap.size, 0, none⟩ = some (.int .i64 x.1) ∧ w'.cell? ⟨w.heap.size, 1, none⟩ = some (.int .i64 x.2.1) ∧ w'.cell? ⟨w.heap.size, 2, none⟩ = some (.int .i64 x.2.2))
    (first | exact S0 | exact S1 | exact S2 | exact (row_alloc VD.out _).trio | exact (row_alloc V2.out _).trio)
    (first
    | (go_simp; go_at_call 64; refine (refWithout_u _ P _ _ _ l (by first | exact RD.out | exact Rep.below RD.out ((Below.refl _ _).alloc (Nat.le_refl _) _)) HOk.out x.1 x.2.2 HFt.out).mono ?_; rintro ey w2 ⟨v2, rfl, ho2, bw2⟩; obtain ⟨a3, c3, rfl, -, -⟩ := ho2.slice
       have HW2 : Hid (OwnE 80 w2 w.heap.size (.slice a3 (Ex.without l x.1 x.2.2).length c3) (Ex.without l x.1 x.2.2)) := (by first | exact ho2.mono BD.out.size | exact ho2.mono (below_alloc BD.out _).size)
       have BW2 : Hid (Below w.heap.size w w2) := (by first | exact on BD.out bw2 | exact on (below_alloc BD.out _) bw2)
       have V2 : Hid (Row w2 w.heap.size 80 [.int .i64 x.1, .int .i64 x.2.1, .int .i64 x.2.2]) := (by first | exact Row.below VD.out bw2 | exact Row.below (row_alloc VD.out _) bw2)
       try have HX2 : Hid (OwnE 80 w2 w.heap.size (.slice (some ⟨w1.drew.heap.size, 0, none⟩) 1 1) [x]) := (OwnE.lit 80 w1.drew w.heap.size BD.out.size x HX3.out).below bw2
       have S1 := V2.out.trio; clear ho2 bw2; go_simp)
    | (go_simp; go_at_call 63
       refine (refMerged_u _ (fun b => w.heap.size ≤ b) (fun b => w.heap.size ≤ b) _ _ _ (Ex.without l x.1 x.2.2) (by first | exact HW2.out.rd HWL.out | exact (HW2.out.below ((Below.refl _ _).alloc (Nat.le_refl _) _)).rd HWL.out) _ _ x (by first | exact HX2.out.rd (show (1 : Nat) ≤ 5864062014634 by decide) | exact (OwnE.lit 80 w2 w.heap.size BW2.out.size x HX3.out).rd (show (1 : Nat) ≤ 5864062014634 by decide)) HP.out).mono ?_
       rintro ez w3 ⟨v3, rfl, ho3, bw3⟩
       have BW3 : Hid (Below w.heap.size w w3) := (by first | exact on BW2.out bw3 | exact on (below_alloc BW2.out _) bw3)
       have HW3 : Hid (OwnE 80 w3 w.heap.size v3 (Ex.addAll [] (Ex.ins x (Ex.without l x.1 x.2.2)))) := (by first | exact ho3.mono BW2.out.size | exact ho3.mono (below_alloc BW2.out _).size)
       have S2 := (by first | exact (Row.below V2.out bw3).trio | exact (Row.below (row_alloc V2.out _) bw3).trio)
       clear ho3 bw3; go_simp))
  all_goals clear S0 S1 S2 VD V2 s0 s1 s2
  all_goals have HT : Hid (Ex.addAll [] (Ex.ins x (Ex.without l x.1 x.2.2)) = Ex.put l x) := rfl
  all_goals rw [HT.out] at HW3
  all_goals obtain ⟨a4, c4, hv4, -, -⟩ := HW3.out.slice
  all_goals rw [← HM.out] at hv4
  all_goals subst hv4
  all_goals by_cases hle : m ≤ 1024
  all_goals first | rw [if_pos hle] at HE | rw [if_neg hle] at HE
  all_goals go_wp2
  all_goals go_ret2
  all_goals first
    | exact ⟨_, by rw [HE.out]; rfl, by rw [show Ex.putL l x = Ex.put l x from if_pos HE.out]; exact HW3.out, BW3.out⟩
    | exact ⟨_, by rw [HE.out]; rfl, by rw [show Ex.putL l x = [] from if_neg (by rw [HE.out]; decide)]; exact OwnE.nil _ _ _, BW3.out⟩
theorem refPut_u (w : World) (P : Nat → Prop) (a : Option Addr) (n c : Nat) (l : List Ext) (hL : rExts.rd w P [.slice a n c] l) (x : Ext) :
    Calls Try.prog 50 #[.slice a n c, .agg #[.int .i64 x.1, .int .i64 x.2.1, .int .i64 x.2.2]] w fun e w' => ∃ b, e = .returned (.tuple #[b, .int .i64 (Ex.putE l x)]) ∧ OwnE 80 w' w.heap.size b (Ex.putL l x) ∧ Below w.heap.size w w' := by
  by_cases hO : Ex.Ok l
  · by_cases hs : Ex.One x
    · exact refPut_ok w P a n c l hL hO x hs
    · have e1 : Ex.putE l x = 4 := by unfold Ex.putE; rw [if_pos hO, if_neg hs]
      have e2 : Ex.putL l x = [] := if_neg (by rw [e1]; decide)
      rw [e1, e2]
      have HC : Hid _ := Ex.checkE_ok hO
      obtain ⟨w0, hw0, V0, b0, -⟩ := boxedRow w 80 [.int .i64 x.1, .int .i64 x.2.1, .int .i64 x.2.2]
      have HR : Hid _ := Rep.below hL b0
      have HV0 : Hid (Row w0 w.heap.size 80 [.int .i64 x.1, .int .i64 x.2.1, .int .i64 x.2.2]) := V0
      have B0 : Hid (Below w.heap.size w w0) := b0
      have HS : Hid (¬ Ex.One x) := hs
      clear hL hO hs e1 e2 V0 b0
      go_enter Try.func50, Try.ntmps50
      go_wp2_with fail
      refine (refCheck5_u _ _ _ _ _ l HR.out).mono ?_
      rintro e w1 ⟨rfl, b1⟩
      rw [HC.out]
      obtain ⟨s0, s1, s2⟩ := (HV0.out.below b1).trio
      clear hw0
      by_cases h1 : x.2.2 < 1
      · go_wp2
        go_ret2
        exact ⟨_, rfl, OwnE.nil _ _ _, on B0.out b1⟩
      · by_cases h2 : Ex.Fits x.1 x.2.2
        · have HF1 : Hid (decide (Ex.Fits x.1 x.2.2) = true) := decide_eq_true h2
          have HF2 : Hid (decide (Ex.Fits x.2.1 x.2.2) = false) := decide_eq_false (fun h => HS.out ⟨by omega, h2, h⟩)
          clear h2
          go_wp2_with fail
          refine (refFits_u _ _ _ _ HF1.out).mono ?_
          rintro e w9 ⟨rfl, rfl⟩
          go_wp2_with fail
          refine (refFits_u _ _ _ _ HF2.out).mono ?_
          rintro e w9 ⟨rfl, rfl⟩
          go_wp2
          go_ret2
          exact ⟨_, rfl, OwnE.nil _ _ _, on B0.out b1⟩
        · have HF1 : Hid (decide (Ex.Fits x.1 x.2.2) = false) := decide_eq_false h2
          clear h2
          go_wp2_with fail
          refine (refFits_u _ _ _ _ HF1.out).mono ?_
          rintro e w9 ⟨rfl, rfl⟩
          go_wp2
          go_ret2
          exact ⟨_, rfl, OwnE.nil _ _ _, on B0.out b1⟩
  · have e1 : Ex.putE l x = 9 := by unfold Ex.putE; rw [if_neg hO]
    have e2 : Ex.putL l x = [] := if_neg (by rw [e1]; decide)
    rw [e1, e2]
    have HC : Hid _ := Ex.checkE_no hO
    obtain ⟨w0, hw0, V0, b0, -⟩ := boxedRow w 80 [.int .i64 x.1, .int .i64 x.2.1, .int .i64 x.2.2]
    have HR : Hid _ := Rep.below hL b0
    have B0 : Hid (Below w.heap.size w w0) := b0
    clear hL hO e1 e2 V0 b0
    go_enter Try.func50, Try.ntmps50
    go_wp2_with fail
    refine (refCheck5_u _ _ _ _ _ l HR.out).mono ?_
    rintro e w1 ⟨rfl, b1⟩
    rw [HC.out]
    go_wp2
    go_ret2
    exact ⟨_, rfl, OwnE.nil _ _ _, on B0.out b1⟩
end Go.Proofs.Ytinlgoljaiolnaa
namespace Go.Proofs.Ytinlgoljaiolnaa
open Go.RowKit
set_option linter.unusedVariables false
set_option maxHeartbeats 2000000 in
theorem refLook_ok (w : World) (P : Nat → Prop) (a : Option Addr) (n c : Nat) (l : List Ext) (hL : rExts.rd w P [.slice a n c] l) (hO : Ex.Ok l) (v k : Int) (hf : Ex.Fits v k) :
    Calls Try.prog 51 #[.slice a n c, .int .i64 v, .int .i64 k] w fun e w' => ∃ b, e = .returned (.tuple #[b, .int .i64 0]) ∧ OwnE 80 w' w.heap.size b (Ex.look l v k) ∧ Below w.heap.size w w' := by
  obtain ⟨hl, hnc, hnil, hb⟩ := rList_len hL
  have hn : n ≤ 1024 := by have := hO.1; omega
  have HL : Hid _ := hl
  have HR : Hid _ := hL
  have HO : Hid _ := hO.2.1
  have HP : Hid _ := Ex.look_pieces hO hf
  have HC : Hid _ := Ex.checkE_ok hO
  have HF : Hid (decide (Ex.Fits v k) = true) := decide_eq_true hf
  unfold Ex.Fits at hf
  obtain ⟨f1, f2, f3, f4⟩ := hf
  have hmx := max_fact 3
  have hmn := min_fact 3
  clear hl hnc hnil hb hL hO
  go_enter Try.func51, Try.ntmps51
  go_wp2_with fail
  refine (refCheck5_u _ _ _ _ _ l HR.out).mono ?_
  rintro e w1 ⟨rfl, b1⟩
  rw [HC.out]
  go_wp2_with fail
  refine (refFits_u _ _ _ _ HF.out).mono ?_
  rintro e w9 ⟨rfl, rfl⟩
  go_wp2
  go_loopw [8, 9, 11] (fun o t i wr => ∃ (j : Nat) (q : List Ext) (A : Int), j ≤ n ∧ i = .int .i64 j ∧ t = .int .i64 A ∧ (v ≤ A ∧ A ≤ v + k) ∧ Hid (Ex.lookPs (v + k) v l = q ++ Ex.lookPs (v + k) A (l.drop j)) ∧ Hid (OwnE 80 wr w.heap.size o (Ex.addAll [] q)) ∧ Below w.heap.size w wr) (fun _ _ i _ => n - (intOf i).toNat)
  case atStart => exact ⟨0, [], v, Nat.zero_le _, rfl, rfl, by omega, rfl, OwnE.nil _ _ _, b1⟩
  case round =>
    obtain ⟨j, q, A, hj, rfl, rfl, ⟨hA1, hA2⟩, HQ, HW, bel⟩ := hrel
    have HS : Hid (w.heap.size ≤ wr.heap.size) := bel.size
    by_cases hlt : j < n
    · have hkl : j < l.length := by rw [HL.out]; exact hlt
      obtain ⟨g, off, rfl, -, hgw, -⟩ := rExts_at HR.out (by omega)
      have hAr := Rep.below HR.out bel
      obtain ⟨g', off', eg, -, hgl, hat⟩ := rExts_at hAr (by omega)
      simp only [Option.some.injEq, Addr.mk.injEq, and_true] at eg
      obtain ⟨rfl, rfl⟩ := eg
      obtain ⟨c0, c1, c2, -⟩ := hat j hkl
      have ho := HO.out l[j] (List.getElem_mem hkl)
      have HLK : Hid (∀ lo hi, max l[j].1 A = lo → min (l[j].1 + l[j].2.2) (v + k) = hi → Ex.lookPs (v + k) A (l.drop j) = if hi ≤ lo then Ex.lookPs (v + k) A (l.drop (j + 1)) else (A, -1, lo - A) :: (lo, l[j].2.1 + lo - l[j].1, hi - lo) :: Ex.lookPs (v + k) hi (l.drop (j + 1))) := fun lo hi e1 e2 => Ex.lookPs_at hkl e1 e2
      obtain ⟨X, hX⟩ : ∃ X, X = l[j] := ⟨_, rfl⟩
      rw [← hX] at c0 c1 c2 ho HLK
      clear hX hat hAr
      unfold Ex.One Ex.Fits at ho
      obtain ⟨q1, ⟨q2, q3, q4, q5⟩, q6, q7, q8, q9⟩ := ho
      have hkn : (j : Int) < (n : Int) := by omega
      have HGW : Hid (g < w.heap.size) := hgw
      go_wp2_with fail
      go_quiet (fail)
      have HK := HLK.out _ _ rfl rfl
      clear HLK
      generalize hlo : max X.1 A = lo at *
      generalize hhi : min (X.1 + X.2.2) (v + k) = hi at *
      have r1 : X.1 ≤ lo ∧ A ≤ lo ∧ (lo = X.1 ∨ lo = A) := by omega
      have r2 : hi ≤ X.1 + X.2.2 ∧ hi ≤ v + k ∧ (hi = X.1 + X.2.2 ∨ hi = v + k) := by omega
      have r3 : 0 ≤ lo ∧ 0 ≤ hi ∨ hi ≤ lo := by omega
      clear hlo hhi
      by_cases hge : hi ≤ lo
      · rw [if_pos hge] at HK
        have HQ2 : Hid (Ex.lookPs (v + k) v l = q ++ Ex.lookPs (v + k) A (l.drop (j + 1))) := by unfold Hid; rw [HQ.out, HK]
        have HW2 : Hid (OwnE _ _ _ _ _) := HW.out.drewN nq
        clear HK
        go_wp2
        go_roundw
        case rel => exact ⟨j + 1, q, A, by omega, by go_num, rfl, by omega, HQ2, HW2, same_drewN bel nq⟩
        case measure => simp [intOf]; omega
      · rw [if_neg hge] at HK
        obtain ⟨r4, r5, r6, r7, r8⟩ : 0 ≤ lo ∧ lo ≤ 65536 ∧ 0 ≤ hi ∧ hi ≤ 65536 ∧ lo < hi := by omega
        clear r3
        have HQ2 : Hid (Ex.lookPs (v + k) v l = q ++ (A, -1, lo - A) :: (lo, X.2.1 + lo - X.1, hi - lo) :: Ex.lookPs (v + k) hi (l.drop (j + 1))) := by unfold Hid; rw [HQ.out, HK]
        clear HK HQ
        go_wp2_with fail
        refine (refAdd_p (p := (A, -1, lo - A)) HP.out HQ2.out _ w.heap.size _ (HW.out.drewN nq) HS.out).mono ?_
        rintro e w2 ⟨v2, rfl, ho2, g2⟩
        have hb2 := (HW.out.drewN nq).base_below HS.out g2
        have HB2 : Hid (Below w.heap.size w w2) := (same_drewN bel nq).trans hb2
        have HO2 : Hid (OwnE _ _ _ _ _) := ho2
        have e0 : w2.cell? ⟨g, off + j * 3, none⟩ = some (.int .i64 X.1) := (hb2.cell (p := ⟨g, off + j * 3, none⟩) HGW.out).trans c0
        have e1 : w2.cell? ⟨g, off + j * 3 + 1, none⟩ = some (.int .i64 X.2.1) := (hb2.cell (p := ⟨g, off + j * 3 + 1, none⟩) HGW.out).trans c1
        clear ho2 g2 hb2 c0 c1 c2
        go_wp2_with fail
        have S0 : w2.drew.cell? ⟨g, off + j * 3, none⟩ = some (.int .i64 X.1) ∧ w2.drew.cell? ⟨g, off + j * 3 + 1, none⟩ = some (.int .i64 X.2.1) := ⟨e0, e1⟩
        have HQ3 : Hid (Ex.lookPs (v + k) v l = (q ++ [(A, -1, lo - A)]) ++ (lo, X.2.1 + lo - X.1, hi - lo) :: Ex.lookPs (v + k) hi (l.drop (j + 1))) := by unfold Hid; rw [HQ2.out, List.append_assoc]; rfl
        have HO2d : Hid (OwnE 80 w2.drew w.heap.size v2 (Ex.addAll [] (q ++ [(A, -1, lo - A)]))) := HO2.out.keep (fun _ _ _ => rfl)
        have HS2 : Hid (w.heap.size ≤ w2.drew.heap.size) := HB2.out.size
        have hadd := refAdd_p (p := (lo, X.2.1 + lo - X.1, hi - lo)) HP.out HQ3.out w2.drew w.heap.size v2 HO2d.out HS2.out
        have HADD : Hid _ := hadd
        clear hadd
        have ew1 : IntKind.i64.wrap (IntKind.i64.wrap (X.2.1 + lo) - X.1) = X.2.1 + lo - X.1 := by rw [IntKind.wrap_i64, IntKind.wrap_i64]; omega
        have ew2 : IntKind.i64.wrap (hi - lo) = hi - lo := by rw [IntKind.wrap_i64]; omega
        go_region_held_law (fun w' : World => w'.cell? ⟨g, off + j * 3, none⟩ = some (.int .i64 X.1) ∧ w'.cell? ⟨g, off + j * 3 + 1, none⟩ = some (.int .i64 X.2.1))
          (first | exact S0 | exact S3)
          (first
          | (go_simp; go_at_call 65; refine Calls.mono HADD.out ?_
             rintro e w3 ⟨v3, rfl, ho3, g3⟩
             have hb3 : Below w.heap.size w2.drew w3 := HO2d.out.base_below HS2.out g3
             have HB3 : Hid (Below w.heap.size w w3) := HB2.out.drew.trans hb3
             have HO3 : Hid (OwnE _ _ _ _ _) := ho3
             have S3 := (⟨(hb3.cell (p := ⟨g, off + j * 3, none⟩) HGW.out).trans e0, (hb3.cell (p := ⟨g, off + j * 3 + 1, none⟩) HGW.out).trans e1⟩ : w3.cell? ⟨g, off + j * 3, none⟩ = some (.int .i64 X.1) ∧ w3.cell? ⟨g, off + j * 3 + 1, none⟩ = some (.int .i64 X.2.1))
             clear ho3 g3 hb3; go_simp))
        have HQ4 : Hid (Ex.lookPs (v + k) v l = (q ++ [(A, -1, lo - A)] ++ [(lo, X.2.1 + lo - X.1, hi - lo)]) ++ Ex.lookPs (v + k) hi (l.drop (j + 1))) := by unfold Hid; rw [HQ3.out, List.append_assoc, List.append_assoc, List.append_assoc]; rfl
        clear S0 S3 e0 e1 HQ2 HQ3
        go_wp2
        go_roundw
        case rel => exact ⟨j + 1, _, hi, by omega, by go_num, rfl, by omega, HQ4, HO3, HB3.out⟩
        case measure => simp [intOf]; omega
    · obtain rfl : j = n := by omega
      have HD : Hid (Ex.lookPs (v + k) v l = q ++ (A, -1, v + k - A) :: []) := by unfold Hid; rw [HQ.out, List.drop_eq_nil_of_le (by rw [HL.out]; exact Nat.le_refl _)]; rfl
      have HV : Hid (Ex.look l v k = Ex.addAll [] (q ++ [(A, -1, v + k - A)])) := by unfold Hid Ex.look; rw [HD.out]
      go_wp2_with fail
      refine (refAdd_p (p := (A, -1, v + k - A)) HP.out HD.out _ w.heap.size _ HW.out HS.out).mono ?_
      rintro e w2 ⟨v2, rfl, ho2, g2⟩
      have HB2 : Hid (Below w.heap.size w w2) := bel.trans (HW.out.base_below HS.out g2)
      have HO2 : Hid (OwnE _ _ _ _ _) := ho2
      clear ho2 g2
      go_wp2
      go_ret2
      exact ⟨_, rfl, by rw [HV.out]; exact HO2.out, HB2.out⟩
end Go.Proofs.Ytinlgoljaiolnaa
namespace Go.Proofs.Ytinlgoljaiolnaa
open Go.RowKit
set_option linter.unusedVariables false
theorem refLook_u (w : World) (P : Nat → Prop) (a : Option Addr) (n c : Nat) (l : List Ext) (hL : rExts.rd w P [.slice a n c] l) (v k : Int) :
    Calls Try.prog 51 #[.slice a n c, .int .i64 v, .int .i64 k] w fun e w' => ∃ b, e = .returned (.tuple #[b, .int .i64 (Ex.lookE l v k)]) ∧ OwnE 80 w' w.heap.size b (Ex.lookL l v k) ∧ Below w.heap.size w w' := by
  by_cases hO : Ex.Ok l
  · by_cases hf : Ex.Fits v k
    · have e1 : Ex.lookE l v k = 0 := Ex.lookE_zero.2 ⟨hO, hf⟩
      have e2 : Ex.lookL l v k = Ex.look l v k := if_pos e1
      rw [e1, e2]
      exact refLook_ok w P a n c l hL hO v k hf
    · have e1 : Ex.lookE l v k = 4 := by unfold Ex.lookE; rw [if_pos hO, if_neg hf]
      have e2 : Ex.lookL l v k = [] := if_neg (by rw [e1]; decide)
      rw [e1, e2]
      have HR : Hid _ := hL
      have HC : Hid _ := Ex.checkE_ok hO
      have HF : Hid (decide (Ex.Fits v k) = false) := decide_eq_false hf
      clear hL hO hf e1 e2
      go_enter Try.func51, Try.ntmps51
      go_wp2_with fail
      refine (refCheck5_u _ _ _ _ _ l HR.out).mono ?_
      rintro e w1 ⟨rfl, b1⟩
      rw [HC.out]
      go_wp2_with fail
      refine (refFits_u _ _ _ _ HF.out).mono ?_
      rintro e w9 ⟨rfl, rfl⟩
      go_wp2
      go_ret2
      exact ⟨_, rfl, OwnE.nil _ _ _, b1⟩
  · have e1 : Ex.lookE l v k = 9 := by unfold Ex.lookE; rw [if_neg hO]
    have e2 : Ex.lookL l v k = [] := if_neg (by rw [e1]; decide)
    rw [e1, e2]
    have HR : Hid _ := hL
    have HC : Hid _ := Ex.checkE_no hO
    clear hL hO e1 e2
    go_enter Try.func51, Try.ntmps51
    go_wp2_with fail
    refine (refCheck5_u _ _ _ _ _ l HR.out).mono ?_
    rintro e w1 ⟨rfl, b1⟩
    rw [HC.out]
    go_wp2
    go_ret2
    exact ⟨_, rfl, OwnE.nil _ _ _, b1⟩
end Go.Proofs.Ytinlgoljaiolnaa
