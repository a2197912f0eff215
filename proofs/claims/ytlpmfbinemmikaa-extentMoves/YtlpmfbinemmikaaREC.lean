/-
  The contract of the document's own Add: an extent put behind others. Conditions: those that each contract names.
-/
import Derived.Test.YtlpmfbinemmikaaEAdd
import Derived.BigRegion
namespace Go.Proofs.Ytlpmfbinemmikaa
open Go.RowKit
set_option linter.unusedVariables false

set_option maxHeartbeats 2000000 in
theorem refAdd_no (w : World) (base g c : Nat) (m : List Ext) (x y : Ext) (hO : OwnE 24 w base (.slice (some ⟨g, 0, none⟩) (m.length + 1) c) (m ++ [y])) (hbase : base ≤ w.heap.size) (hl : m.length + 1 ≤ 1000000) (hy0 : Small y) (hx : Small x) (h1 : ¬ x.2.2 < 1) (hne : ¬ (y.1 + y.2.2 = x.1)) :
    Calls Try.prog 36 #[.slice (some ⟨g, 0, none⟩) (m.length + 1) c, .agg #[.int .i64 x.1, .int .i64 x.2.1, .int .i64 x.2.2]] w fun e w' => ∃ v', e = .returned v' ∧ OwnE 24 w' base v' (Ex.add (m ++ [y]) x) ∧ Grew w w' (.slice (some ⟨g, 0, none⟩) (m.length + 1) c) v' := by
  obtain ⟨w0, hw0, V0, b0, z0⟩ := boxedRow w 24 [.int .i64 x.1, .int .i64 x.2.1, .int .i64 x.2.2]
  have d0 := V0.cell (j := 0) rfl
  have d1 := V0.cell (j := 1) rfl
  have d2 := V0.cell (j := 2) rfl
  have B0 : Hid (Below w.heap.size w w0) := b0
  have HZ : Hid (base ≤ w0.heap.size) := (by omega : base ≤ w0.heap.size)
  have HO0 : Hid (OwnE _ _ _ _ _) := hO.below b0
  have HX3 : Hid _ := hx.in3
  obtain ⟨g', eg, hgb, hgl, -, hat⟩ := HO0.out.at (by simp)
  simp only [Option.some.injEq, Addr.mk.injEq, and_true] at eg
  subst eg
  obtain ⟨hml, hmy⟩ := Ex.get_last m y
  obtain ⟨c0, c1, c2, hf⟩ := hat m.length hml
  rw [hmy] at c0 c1 c2
  have f2 := hf (m.length * 3 + 2)
  have HA : Hid _ := Ex.add_more (m := m) (x := x) (y := y) h1 (fun h => hne h.1)
  have p1 : (y.1 + y.2.2 == x.1) = false := beq_eq_false_iff_ne.2 hne
  unfold Small at hx hy0
  obtain ⟨⟨s1, s2⟩, ⟨s3, s4⟩, s5, s6⟩ := hx
  obtain ⟨⟨t1, t2⟩, ⟨t3, t4⟩, t5, t6⟩ := hy0
  have hk1 : (m.length : Int) < ((m.length + 1 : Nat) : Int) := by omega
  have HG : Hid (base ≤ g) := hgb
  clear hO V0 b0 z0 hat hf hne hgb hmy hml
  go_enter Try.func36, Try.ntmps36
  go_wp2_with fail
  go_quiet (fail)
  go_wp2_with (at_builtin; refine append_ext rfl _ _ rfl base _ (m ++ [y]) rfl ((HO0.out.drewN nq).below ((Below.refl _ _).alloc (Nat.le_refl _) _)) x ⟨w0.heap.size, 0, none⟩ rfl (ext_cells_new (w0.drewN nq) x _) HX3.out (by simpa using hl) (Nat.le_trans HZ.out (by simp)) ?_; intro b6 d6 w6 ho6 bb6)
  go_ret
  rw [List.length_append] at ho6
  exact ⟨_, rfl, by rw [HA.out]; exact ho6, Grew.pre ((same_drewN B0.out nq).alloc B0.out.size _) bb6.len⟩

set_option maxHeartbeats 2000000 in
theorem refAdd_holes (w : World) (base g c : Nat) (m : List Ext) (x y : Ext) (hO : OwnE 24 w base (.slice (some ⟨g, 0, none⟩) (m.length + 1) c) (m ++ [y])) (hbase : base ≤ w.heap.size) (hl : m.length + 1 ≤ 1000000) (hy0 : Small y) (hx : Small x) (h1 : ¬ x.2.2 < 1) (hj : y.1 + y.2.2 = x.1) (hy : y.2.1 = -1) (hz : x.2.1 = -1) :
    Calls Try.prog 36 #[.slice (some ⟨g, 0, none⟩) (m.length + 1) c, .agg #[.int .i64 x.1, .int .i64 x.2.1, .int .i64 x.2.2]] w fun e w' => ∃ v', e = .returned v' ∧ OwnE 24 w' base v' (Ex.add (m ++ [y]) x) ∧ Grew w w' (.slice (some ⟨g, 0, none⟩) (m.length + 1) c) v' := by
  obtain ⟨w0, hw0, V0, b0, z0⟩ := boxedRow w 24 [.int .i64 x.1, .int .i64 x.2.1, .int .i64 x.2.2]
  have d0 := V0.cell (j := 0) rfl
  have d1 := V0.cell (j := 1) rfl
  have d2 := V0.cell (j := 2) rfl
  have B0 : Hid (Below w.heap.size w w0) := b0
  have HZ : Hid (base ≤ w0.heap.size) := (by omega : base ≤ w0.heap.size)
  have HO0 : Hid (OwnE _ _ _ _ _) := hO.below b0
  have HX3 : Hid _ := hx.in3
  obtain ⟨g', eg, hgb, hgl, -, hat⟩ := HO0.out.at (by simp)
  simp only [Option.some.injEq, Addr.mk.injEq, and_true] at eg
  subst eg
  obtain ⟨hml, hmy⟩ := Ex.get_last m y
  obtain ⟨c0, c1, c2, hf⟩ := hat m.length hml
  rw [hmy] at c0 c1 c2
  have f2 := hf (m.length * 3 + 2)
  have HA : Hid _ := Ex.add_join (m := m) (x := x) (y := y) h1 (⟨hj, .inl ⟨hy, hz⟩⟩)
  have p1 : (y.1 + y.2.2 == x.1) = true := beq_iff_eq.2 hj
  have p2 : (y.2.1 == -1) = true := beq_iff_eq.2 hy
  have p3 : (x.2.1 == -1) = true := beq_iff_eq.2 hz
  unfold Small at hx hy0
  obtain ⟨⟨s1, s2⟩, ⟨s3, s4⟩, s5, s6⟩ := hx
  obtain ⟨⟨t1, t2⟩, ⟨t3, t4⟩, t5, t6⟩ := hy0
  have hk1 : (m.length : Int) < ((m.length + 1 : Nat) : Int) := by omega
  have HG : Hid (base ≤ g) := hgb
  clear hO V0 b0 z0 hat hf hj hy hz hgb hmy hml
  go_enter Try.func36, Try.ntmps36
  go_wp2_with fail
  go_quiet (fail)
  go_wp2_with fail
  go_region
  go_wp2
  go_ret
  obtain ⟨hml, hmy⟩ := Ex.get_last m y
  have ho1 : OwnE 24 (w0.drewN nq) base (.slice (some ⟨g, 0, none⟩) (m ++ [y]).length c) (m ++ [y]) := by rw [List.length_append]; exact HO0.out.drewN nq
  have hs := ho1.setLen hml (m := y.2.2 + x.2.2) (by unfold In64; omega)
  rw [hmy, List.length_append] at hs
  have bs : w.grownBy ((w0.drewN nq).setCell ⟨g, m.length * 3 + 2, none⟩ (.int .i64 (y.2.2 + x.2.2))) (some g) := grown_pre (same_drewN B0.out nq) ⟨rfl, rfl, rfl, by simp [World.setCell], fun k _ hk => Below.heap_setCell _ _ _ _ (fun e => hk (by rw [e]))⟩
  exact ⟨_, rfl, by rw [HA.out]; exact hs.keep (fun _ _ _ => rfl), ⟨⟨bs.os, bs.tape, bs.output, bs.size, bs.block⟩, fun b e => .inl e⟩⟩

set_option maxHeartbeats 2000000 in
theorem refAdd_hole (w : World) (base g c : Nat) (m : List Ext) (x y : Ext) (hO : OwnE 24 w base (.slice (some ⟨g, 0, none⟩) (m.length + 1) c) (m ++ [y])) (hbase : base ≤ w.heap.size) (hl : m.length + 1 ≤ 1000000) (hy0 : Small y) (hx : Small x) (h1 : ¬ x.2.2 < 1) (hj : y.1 + y.2.2 = x.1) (hy : y.2.1 = -1) (hz : ¬ x.2.1 = -1) :
    Calls Try.prog 36 #[.slice (some ⟨g, 0, none⟩) (m.length + 1) c, .agg #[.int .i64 x.1, .int .i64 x.2.1, .int .i64 x.2.2]] w fun e w' => ∃ v', e = .returned v' ∧ OwnE 24 w' base v' (Ex.add (m ++ [y]) x) ∧ Grew w w' (.slice (some ⟨g, 0, none⟩) (m.length + 1) c) v' := by
  obtain ⟨w0, hw0, V0, b0, z0⟩ := boxedRow w 24 [.int .i64 x.1, .int .i64 x.2.1, .int .i64 x.2.2]
  have d0 := V0.cell (j := 0) rfl
  have d1 := V0.cell (j := 1) rfl
  have d2 := V0.cell (j := 2) rfl
  have B0 : Hid (Below w.heap.size w w0) := b0
  have HZ : Hid (base ≤ w0.heap.size) := (by omega : base ≤ w0.heap.size)
  have HO0 : Hid (OwnE _ _ _ _ _) := hO.below b0
  have HX3 : Hid _ := hx.in3
  obtain ⟨g', eg, hgb, hgl, -, hat⟩ := HO0.out.at (by simp)
  simp only [Option.some.injEq, Addr.mk.injEq, and_true] at eg
  subst eg
  obtain ⟨hml, hmy⟩ := Ex.get_last m y
  obtain ⟨c0, c1, c2, hf⟩ := hat m.length hml
  rw [hmy] at c0 c1 c2
  have f2 := hf (m.length * 3 + 2)
  have HA : Hid _ := Ex.add_more (m := m) (x := x) (y := y) h1 (fun h => h.2.elim (fun k => hz k.2) (fun k => k.1 hy))
  have p1 : (y.1 + y.2.2 == x.1) = true := beq_iff_eq.2 hj
  have p2 : (y.2.1 == -1) = true := beq_iff_eq.2 hy
  have p3 : (x.2.1 == -1) = false := beq_eq_false_iff_ne.2 hz
  have p4 : (y.2.1 != -1) = false := by simp [hy]
  unfold Small at hx hy0
  obtain ⟨⟨s1, s2⟩, ⟨s3, s4⟩, s5, s6⟩ := hx
  obtain ⟨⟨t1, t2⟩, ⟨t3, t4⟩, t5, t6⟩ := hy0
  have hk1 : (m.length : Int) < ((m.length + 1 : Nat) : Int) := by omega
  have HG : Hid (base ≤ g) := hgb
  clear hO V0 b0 z0 hat hf hj hy hz hgb hmy hml
  go_enter Try.func36, Try.ntmps36
  go_wp2_with fail
  go_quiet (fail)
  go_wp2_with (at_builtin; refine append_ext rfl _ _ rfl base _ (m ++ [y]) rfl ((HO0.out.drewN nq).below ((Below.refl _ _).alloc (Nat.le_refl _) _)) x ⟨w0.heap.size, 0, none⟩ rfl (ext_cells_new (w0.drewN nq) x _) HX3.out (by simpa using hl) (Nat.le_trans HZ.out (by simp)) ?_; intro b6 d6 w6 ho6 bb6)
  go_ret
  rw [List.length_append] at ho6
  exact ⟨_, rfl, by rw [HA.out]; exact ho6, Grew.pre ((same_drewN B0.out nq).alloc B0.out.size _) bb6.len⟩

set_option maxHeartbeats 2000000 in
theorem refAdd_holed (w : World) (base g c : Nat) (m : List Ext) (x y : Ext) (hO : OwnE 24 w base (.slice (some ⟨g, 0, none⟩) (m.length + 1) c) (m ++ [y])) (hbase : base ≤ w.heap.size) (hl : m.length + 1 ≤ 1000000) (hy0 : Small y) (hx : Small x) (h1 : ¬ x.2.2 < 1) (hj : y.1 + y.2.2 = x.1) (hy : ¬ y.2.1 = -1) (hz : x.2.1 = -1) :
    Calls Try.prog 36 #[.slice (some ⟨g, 0, none⟩) (m.length + 1) c, .agg #[.int .i64 x.1, .int .i64 x.2.1, .int .i64 x.2.2]] w fun e w' => ∃ v', e = .returned v' ∧ OwnE 24 w' base v' (Ex.add (m ++ [y]) x) ∧ Grew w w' (.slice (some ⟨g, 0, none⟩) (m.length + 1) c) v' := by
  obtain ⟨w0, hw0, V0, b0, z0⟩ := boxedRow w 24 [.int .i64 x.1, .int .i64 x.2.1, .int .i64 x.2.2]
  have d0 := V0.cell (j := 0) rfl
  have d1 := V0.cell (j := 1) rfl
  have d2 := V0.cell (j := 2) rfl
  have B0 : Hid (Below w.heap.size w w0) := b0
  have HZ : Hid (base ≤ w0.heap.size) := (by omega : base ≤ w0.heap.size)
  have HO0 : Hid (OwnE _ _ _ _ _) := hO.below b0
  have HX3 : Hid _ := hx.in3
  obtain ⟨g', eg, hgb, hgl, -, hat⟩ := HO0.out.at (by simp)
  simp only [Option.some.injEq, Addr.mk.injEq, and_true] at eg
  subst eg
  obtain ⟨hml, hmy⟩ := Ex.get_last m y
  obtain ⟨c0, c1, c2, hf⟩ := hat m.length hml
  rw [hmy] at c0 c1 c2
  have f2 := hf (m.length * 3 + 2)
  have HA : Hid _ := Ex.add_more (m := m) (x := x) (y := y) h1 (fun h => h.2.elim (fun k => hy k.1) (fun k => k.2.1 hz))
  have p1 : (y.1 + y.2.2 == x.1) = true := beq_iff_eq.2 hj
  have p2 : (y.2.1 == -1) = false := beq_eq_false_iff_ne.2 hy
  have p4 : (y.2.1 != -1) = true := bne_iff_ne.2 hy
  have p5 : (x.2.1 != -1) = false := by simp [hz]
  unfold Small at hx hy0
  obtain ⟨⟨s1, s2⟩, ⟨s3, s4⟩, s5, s6⟩ := hx
  obtain ⟨⟨t1, t2⟩, ⟨t3, t4⟩, t5, t6⟩ := hy0
  have hk1 : (m.length : Int) < ((m.length + 1 : Nat) : Int) := by omega
  have HG : Hid (base ≤ g) := hgb
  clear hO V0 b0 z0 hat hf hj hy hz hgb hmy hml
  go_enter Try.func36, Try.ntmps36
  go_wp2_with fail
  go_quiet (fail)
  go_wp2_with (at_builtin; refine append_ext rfl _ _ rfl base _ (m ++ [y]) rfl ((HO0.out.drewN nq).below ((Below.refl _ _).alloc (Nat.le_refl _) _)) x ⟨w0.heap.size, 0, none⟩ rfl (ext_cells_new (w0.drewN nq) x _) HX3.out (by simpa using hl) (Nat.le_trans HZ.out (by simp)) ?_; intro b6 d6 w6 ho6 bb6)
  go_ret
  rw [List.length_append] at ho6
  exact ⟨_, rfl, by rw [HA.out]; exact ho6, Grew.pre ((same_drewN B0.out nq).alloc B0.out.size _) bb6.len⟩

set_option maxHeartbeats 2000000 in
theorem refAdd_goes (w : World) (base g c : Nat) (m : List Ext) (x y : Ext) (hO : OwnE 24 w base (.slice (some ⟨g, 0, none⟩) (m.length + 1) c) (m ++ [y])) (hbase : base ≤ w.heap.size) (hl : m.length + 1 ≤ 1000000) (hy0 : Small y) (hx : Small x) (h1 : ¬ x.2.2 < 1) (hj : y.1 + y.2.2 = x.1) (hy : ¬ y.2.1 = -1) (hz : ¬ x.2.1 = -1) (hp : y.2.1 + y.2.2 = x.2.1) :
    Calls Try.prog 36 #[.slice (some ⟨g, 0, none⟩) (m.length + 1) c, .agg #[.int .i64 x.1, .int .i64 x.2.1, .int .i64 x.2.2]] w fun e w' => ∃ v', e = .returned v' ∧ OwnE 24 w' base v' (Ex.add (m ++ [y]) x) ∧ Grew w w' (.slice (some ⟨g, 0, none⟩) (m.length + 1) c) v' := by
  obtain ⟨w0, hw0, V0, b0, z0⟩ := boxedRow w 24 [.int .i64 x.1, .int .i64 x.2.1, .int .i64 x.2.2]
  have d0 := V0.cell (j := 0) rfl
  have d1 := V0.cell (j := 1) rfl
  have d2 := V0.cell (j := 2) rfl
  have B0 : Hid (Below w.heap.size w w0) := b0
  have HZ : Hid (base ≤ w0.heap.size) := (by omega : base ≤ w0.heap.size)
  have HO0 : Hid (OwnE _ _ _ _ _) := hO.below b0
  have HX3 : Hid _ := hx.in3
  obtain ⟨g', eg, hgb, hgl, -, hat⟩ := HO0.out.at (by simp)
  simp only [Option.some.injEq, Addr.mk.injEq, and_true] at eg
  subst eg
  obtain ⟨hml, hmy⟩ := Ex.get_last m y
  obtain ⟨c0, c1, c2, hf⟩ := hat m.length hml
  rw [hmy] at c0 c1 c2
  have f2 := hf (m.length * 3 + 2)
  have HA : Hid _ := Ex.add_join (m := m) (x := x) (y := y) h1 (⟨hj, .inr ⟨hy, hz, hp⟩⟩)
  have p1 : (y.1 + y.2.2 == x.1) = true := beq_iff_eq.2 hj
  have p2 : (y.2.1 == -1) = false := beq_eq_false_iff_ne.2 hy
  have p4 : (y.2.1 != -1) = true := bne_iff_ne.2 hy
  have p5 : (x.2.1 != -1) = true := bne_iff_ne.2 hz
  have p6 : (y.2.1 + y.2.2 == x.2.1) = true := beq_iff_eq.2 hp
  unfold Small at hx hy0
  obtain ⟨⟨s1, s2⟩, ⟨s3, s4⟩, s5, s6⟩ := hx
  obtain ⟨⟨t1, t2⟩, ⟨t3, t4⟩, t5, t6⟩ := hy0
  have hk1 : (m.length : Int) < ((m.length + 1 : Nat) : Int) := by omega
  have HG : Hid (base ≤ g) := hgb
  clear hO V0 b0 z0 hat hf hj hy hz hp hgb hmy hml
  go_enter Try.func36, Try.ntmps36
  go_wp2_with fail
  go_quiet (fail)
  go_wp2_with fail
  go_region
  go_wp2
  go_ret
  obtain ⟨hml, hmy⟩ := Ex.get_last m y
  have ho1 : OwnE 24 (w0.drewN nq) base (.slice (some ⟨g, 0, none⟩) (m ++ [y]).length c) (m ++ [y]) := by rw [List.length_append]; exact HO0.out.drewN nq
  have hs := ho1.setLen hml (m := y.2.2 + x.2.2) (by unfold In64; omega)
  rw [hmy, List.length_append] at hs
  have bs : w.grownBy ((w0.drewN nq).setCell ⟨g, m.length * 3 + 2, none⟩ (.int .i64 (y.2.2 + x.2.2))) (some g) := grown_pre (same_drewN B0.out nq) ⟨rfl, rfl, rfl, by simp [World.setCell], fun k _ hk => Below.heap_setCell _ _ _ _ (fun e => hk (by rw [e]))⟩
  exact ⟨_, rfl, by rw [HA.out]; exact hs.keep (fun _ _ _ => rfl), ⟨⟨bs.os, bs.tape, bs.output, bs.size, bs.block⟩, fun b e => .inl e⟩⟩

set_option maxHeartbeats 2000000 in
theorem refAdd_apart (w : World) (base g c : Nat) (m : List Ext) (x y : Ext) (hO : OwnE 24 w base (.slice (some ⟨g, 0, none⟩) (m.length + 1) c) (m ++ [y])) (hbase : base ≤ w.heap.size) (hl : m.length + 1 ≤ 1000000) (hy0 : Small y) (hx : Small x) (h1 : ¬ x.2.2 < 1) (hj : y.1 + y.2.2 = x.1) (hy : ¬ y.2.1 = -1) (hz : ¬ x.2.1 = -1) (hp : ¬ y.2.1 + y.2.2 = x.2.1) :
    Calls Try.prog 36 #[.slice (some ⟨g, 0, none⟩) (m.length + 1) c, .agg #[.int .i64 x.1, .int .i64 x.2.1, .int .i64 x.2.2]] w fun e w' => ∃ v', e = .returned v' ∧ OwnE 24 w' base v' (Ex.add (m ++ [y]) x) ∧ Grew w w' (.slice (some ⟨g, 0, none⟩) (m.length + 1) c) v' := by
  obtain ⟨w0, hw0, V0, b0, z0⟩ := boxedRow w 24 [.int .i64 x.1, .int .i64 x.2.1, .int .i64 x.2.2]
  have d0 := V0.cell (j := 0) rfl
  have d1 := V0.cell (j := 1) rfl
  have d2 := V0.cell (j := 2) rfl
  have B0 : Hid (Below w.heap.size w w0) := b0
  have HZ : Hid (base ≤ w0.heap.size) := (by omega : base ≤ w0.heap.size)
  have HO0 : Hid (OwnE _ _ _ _ _) := hO.below b0
  have HX3 : Hid _ := hx.in3
  obtain ⟨g', eg, hgb, hgl, -, hat⟩ := HO0.out.at (by simp)
  simp only [Option.some.injEq, Addr.mk.injEq, and_true] at eg
  subst eg
  obtain ⟨hml, hmy⟩ := Ex.get_last m y
  obtain ⟨c0, c1, c2, hf⟩ := hat m.length hml
  rw [hmy] at c0 c1 c2
  have f2 := hf (m.length * 3 + 2)
  have HA : Hid _ := Ex.add_more (m := m) (x := x) (y := y) h1 (fun h => h.2.elim (fun k => hy k.1) (fun k => hp k.2.2))
  have p1 : (y.1 + y.2.2 == x.1) = true := beq_iff_eq.2 hj
  have p2 : (y.2.1 == -1) = false := beq_eq_false_iff_ne.2 hy
  have p4 : (y.2.1 != -1) = true := bne_iff_ne.2 hy
  have p5 : (x.2.1 != -1) = true := bne_iff_ne.2 hz
  have p6 : (y.2.1 + y.2.2 == x.2.1) = false := beq_eq_false_iff_ne.2 hp
  unfold Small at hx hy0
  obtain ⟨⟨s1, s2⟩, ⟨s3, s4⟩, s5, s6⟩ := hx
  obtain ⟨⟨t1, t2⟩, ⟨t3, t4⟩, t5, t6⟩ := hy0
  have hk1 : (m.length : Int) < ((m.length + 1 : Nat) : Int) := by omega
  have HG : Hid (base ≤ g) := hgb
  clear hO V0 b0 z0 hat hf hj hy hz hp hgb hmy hml
  go_enter Try.func36, Try.ntmps36
  go_wp2_with fail
  go_quiet (fail)
  go_wp2_with (at_builtin; refine append_ext rfl _ _ rfl base _ (m ++ [y]) rfl ((HO0.out.drewN nq).below ((Below.refl _ _).alloc (Nat.le_refl _) _)) x ⟨w0.heap.size, 0, none⟩ rfl (ext_cells_new (w0.drewN nq) x _) HX3.out (by simpa using hl) (Nat.le_trans HZ.out (by simp)) ?_; intro b6 d6 w6 ho6 bb6)
  go_ret
  rw [List.length_append] at ho6
  exact ⟨_, rfl, by rw [HA.out]; exact ho6, Grew.pre ((same_drewN B0.out nq).alloc B0.out.size _) bb6.len⟩

end Go.Proofs.Ytlpmfbinemmikaa
