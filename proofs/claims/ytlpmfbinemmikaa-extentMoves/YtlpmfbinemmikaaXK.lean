/-
  The landed extent: a map laid piece by piece, those that could be one made one. Conditions: those that each contract names.
-/
import Derived.Test.YtlpmfbinemmikaaXB
import Derived.Test.YtlpmfbinemmikaaXL
import Derived.BigRegion
namespace Go.Proofs.Ytlpmfbinemmikaa
open Go.RowKit
set_option linter.unusedVariables false

theorem OwnE.keep1 {e : TypeId} {w w' : World} {base : Nat} {v : Value} {l : List Ext} (h : OwnE e w base v l) (hk : ∀ b, v.ownBlock = some b → w'.heap[b]? = w.heap[b]?) : OwnE e w' base v l := by
  refine ⟨⟨h.row.1, ?_⟩, h.fit⟩
  rcases h.row.2 with h0 | ⟨g, cap, cur, rfl, g1, g2, g3⟩
  · exact .inl h0
  · exact .inr ⟨g, cap, cur, rfl, g1, by rw [hk g rfl]; exact g2, g3⟩

/-- The variable in which a map is laid, and the map's own row. -/
structure OutBox (B : Nat) (ps : List Ext) (S : Nat → Prop) (w : World) : Prop where
  ex : ∃ v, Row w B 22 [v] ∧ OwnE 24 w (B + 1) v (Ex.addAll [] ps) ∧ ∀ k, S k ↔ k = B ∨ v.ownBlock = some k

theorem OutBox.low {B : Nat} {ps : List Ext} {S : Nat → Prop} {w : World} (h : OutBox B ps S w) : ∀ k, S k → k < w.heap.size := by
  obtain ⟨v, V, O, hS⟩ := h.ex
  intro k hk
  rcases (hS k).1 hk with rfl | hk
  · exact V.lt
  · exact (O.row.lt k hk).2

theorem OutBox.above {B : Nat} {ps : List Ext} {S : Nat → Prop} {w : World} (h : OutBox B ps S w) : ∀ k, S k → B ≤ k := by
  obtain ⟨v, V, O, hS⟩ := h.ex
  intro k hk
  rcases (hS k).1 hk with rfl | hk
  · exact Nat.le_refl _
  · have := (O.row.lt k hk).1; omega

theorem OutBox.keep {B : Nat} {ps : List Ext} {S : Nat → Prop} {w w' : World} (h : OutBox B ps S w) (hk : ∀ k, S k → w'.heap[k]? = w.heap[k]?) : OutBox B ps S w' := by
  obtain ⟨v, V, O, hS⟩ := h.ex
  exact ⟨v, V.keep (hk B ((hS B).2 (.inl rfl))), O.keep1 (fun b e => hk b ((hS b).2 (.inr e))), hS⟩

/-- The map's row has grown, and the variable has it. -/
theorem outbox_append {B : Nat} {ps : List Ext} {x : Ext} {S : Nat → Prop} {w w0 w1 : World} {v v' : Value} {l : List Ext} (V : Row w B 22 [v]) (O : OwnE 24 w (B + 1) v l) (hS : ∀ k, S k ↔ k = B ∨ v.ownBlock = some k)
    (b0 : Below w.heap.size w w0) (O1 : OwnE 24 w1 (B + 1) v' (Ex.addAll [] (ps ++ [x]))) (g : Grew w0 w1 v v') :
    ∃ S', OutBox B (ps ++ [x]) S' (w1.setCell ⟨B, 0, none⟩ v') ∧ Turns S S' w (w1.setCell ⟨B, 0, none⟩ v') := by
  have hB : some B ≠ v.ownBlock := fun e => by have := (O.row.lt B e.symm).1; omega
  have V1 : Row w1 B 22 [v] := (V.below b0).keep (g.block B (V.below b0).lt hB)
  have V2 := V1.set 0 v'
  have hne : ∀ b, v'.ownBlock = some b → B ≠ b := fun b e => by have := (O1.row.lt b e).1; omega
  refine ⟨fun k => k = B ∨ v'.ownBlock = some k, ⟨v', V2, O1.keep1 (fun b e => Below.heap_setCell _ _ _ _ (fun h => hne b e h.symm)), fun k => Iff.rfl⟩, ?_⟩
  have gg := g.grown
  have hsz : (w1.setCell ⟨B, 0, none⟩ v').heap.size = w1.heap.size := by simp [World.setCell]
  refine ⟨gg.os.trans b0.os, gg.tape.trans b0.tape, gg.output.trans b0.output, by rw [hsz]; exact Nat.le_trans b0.size gg.size, fun k hk hn => ?_, fun k hk => ?_⟩
  · have h1 : k ≠ B := fun e => hn ((hS k).2 (.inl e))
    have h2 : some k ≠ v.ownBlock := fun e => hn ((hS k).2 (.inr e.symm))
    rw [Below.heap_setCell _ _ _ _ (fun h => h1 h), g.block k (Nat.lt_of_lt_of_le hk b0.size) h2, b0.block k hk]
  · rcases hk with rfl | hk
    · exact .inl ((hS _).2 (.inl rfl))
    · rcases g.place k hk with h | h
      · exact .inl ((hS _).2 (.inr h))
      · exact .inr (Nat.le_trans b0.size h)

/-- The map's last extent has grown. -/
theorem outbox_set {B : Nat} {ps : List Ext} {x : Ext} {S : Nat → Prop} {w w0 : World} {g c k : Nat} {u : Value} {l : List Ext} (V : Row w B 22 [.slice (some ⟨g, 0, none⟩) k c]) (O : OwnE 24 w (B + 1) (.slice (some ⟨g, 0, none⟩) k c) l) (hS : ∀ k', S k' ↔ k' = B ∨ (Value.slice (some ⟨g, 0, none⟩) k c).ownBlock = some k')
    (b0 : Below w.heap.size w w0) {i : Nat} (O1 : OwnE 24 (w0.setCell ⟨g, i, none⟩ u) (B + 1) (.slice (some ⟨g, 0, none⟩) k c) (Ex.addAll [] (ps ++ [x]))) :
    OutBox B (ps ++ [x]) S (w0.setCell ⟨g, i, none⟩ u) ∧ Turns S S w (w0.setCell ⟨g, i, none⟩ u) := by
  have hg : B + 1 ≤ g := (O.row.lt g rfl).1
  refine ⟨⟨_, (V.below b0).keep (Below.heap_setCell _ _ _ _ (fun h => by have h : B = g := h; omega)), O1, hS⟩, ?_⟩
  refine ⟨b0.os, b0.tape, b0.output, by rw [show (w0.setCell ⟨g, i, none⟩ u).heap.size = w0.heap.size by simp [World.setCell]]; exact b0.size, fun j hj hn => ?_, fun j hj => .inl hj⟩
  rw [Below.heap_setCell _ _ _ _ (fun h => hn ((hS j).2 (.inr (by have h : j = g := h; rw [h]; rfl)))), b0.block j hj]

theorem below_drew_pre0 {w w' : World} (h : Below w.drew.heap.size w.drew w') : Below w.heap.size w w' := ⟨h.os, h.tape, h.output, h.size, h.block⟩

theorem alloc_drew {w w0 : World} (h : Below w.heap.size w w0) (o : Obj) : Below w.heap.size w (w0.alloc o).drew := (h.alloc h.size o).drew

theorem below_alloc0 {w w0 : World} (h : Below w.heap.size w w0) (o : Obj) : Below w.heap.size w (w0.alloc o) := h.alloc h.size o

theorem outbox_row {B : Nat} {w w0 w1 : World} {v v' : Value} {l : List Ext} (V : Row w B 22 [v]) (O : OwnE 24 w (B + 1) v l) (b0 : Below w.heap.size w w0) (g : Grew w0 w1 v v') : Row w1 B 22 [v] :=
  (V.below b0).keep (g.block B (V.below b0).lt (fun e => by have := (O.row.lt B e.symm).1; omega))

set_option maxHeartbeats 4000000 in
theorem lay_first (w : World) (B : Nat) (ps : List Ext) (S : Nat → Prop) (x : Ext) (a : Option Addr) (c : Nat) (V : Row w B 22 [.slice a 0 c]) (O : OwnE 24 w (B + 1) (.slice a 0 c) []) (hps : Ex.addAll [] ps = []) (hS : ∀ k, S k ↔ k = B ∨ (Value.slice a 0 c).ownBlock = some k) (hx : Small x) (hx1 : ¬ x.2.2 < 1) :
    Calls Try.prog 55 (#[.agg #[.int .i64 x.1, .int .i64 x.2.1, .int .i64 x.2.2]] ++ #[.pointer (some ⟨B, 0, none⟩)]) w fun e w' => e = .returned (.tuple #[]) ∧ ∃ S', OutBox B (ps ++ [x]) S' w' ∧ Turns S S' w w' := by
  obtain ⟨w0, hw0, V0, b0, z0⟩ := boxedRow w 24 [.int .i64 x.1, .int .i64 x.2.1, .int .i64 x.2.2]
  obtain ⟨d0, d1, d2⟩ := V0.three
  have B0 : Hid (Below w.heap.size w w0) := b0
  have HV : Hid (Row w B 22 [.slice a 0 c]) := V
  have HO : Hid (OwnE 24 w (B + 1) (.slice a 0 c) []) := O
  have HO0 : Hid (OwnE 24 w0 (B + 1) (.slice a 0 c) []) := O.below b0
  have HA : Hid (Ex.addAll [] (ps ++ [x]) = [x]) := by unfold Hid; rw [Ex.addAll_append, hps]; exact Ex.add_first hx1
  have HX3 : Hid _ := hx.in3
  have HS : Hid _ := hS
  have hB0 : w0.cell? ⟨B, 0, none⟩ = some (.slice a 0 c) := (V.below b0).cell (j := 0) rfl
  have hBf : w0.frozen? ⟨B, 0, none⟩ = false := (V.below b0).frozen 0
  have HBL : Hid (B < w0.heap.size) := (V.below b0).lt
  have S0 : w0.drew.cell? ⟨B, 0, none⟩ = some (.slice a 0 c) ∧ w0.drew.cell? ⟨w.heap.size, 0, none⟩ = some (.int .i64 x.1) ∧ w0.drew.cell? ⟨w.heap.size, 1, none⟩ = some (.int .i64 x.2.1) ∧ w0.drew.cell? ⟨w.heap.size, 2, none⟩ = some (.int .i64 x.2.2) := ⟨hB0, d0, d1, d2⟩
  clear V O hS hps V0 b0 z0
  go_enter Try.func55, Try.ntmps55
  go_wp2_with fail
  refine wp_region_held_drew (S := (fun w' : World => w'.cell? ⟨B, 0, none⟩ = some (.slice a 0 c) ∧ w'.cell? ⟨w.heap.size, 0, none⟩ = some (.int .i64 x.1) ∧ w'.cell? ⟨w.heap.size, 1, none⟩ = some (.int .i64 x.2.1) ∧ w'.cell? ⟨w.heap.size, 2, none⟩ = some (.int .i64 x.2.2))) (by kernel_rfl) (S0) (fun hHeld => ?_)
  refine wpAnyH_takeL (i := 0) (v := ?_) rfl rfl (by kernel_rfl) (by kernel_rfl) (by kernel_rfl) (fun _ _ _ h => h) (Or.inl ⟨by rfl, ?_⟩) (by assumption) ?_
  rotate_left
  · intro w hSw
    try dsimp only at hSw
    go_simp
    all_goals with_reducible rfl
  simp only [List.set_cons_zero, List.set_cons_succ]
  refine wpAnyH_takeL (i := 1) (v := ?_) rfl rfl (by kernel_rfl) (by kernel_rfl) (by kernel_rfl) (fun _ _ _ h => h) (Or.inl ⟨by rfl, ?_⟩) (by assumption) ?_
  rotate_left
  · intro w hSw
    try dsimp only at hSw
    go_simp
    all_goals with_reducible rfl
  simp only [List.set_cons_zero, List.set_cons_succ]
  refine wpAnyH_takeL (i := 2) (v := ?_) rfl rfl (by kernel_rfl) (by kernel_rfl) (by kernel_rfl) (fun _ _ _ h => h) (Or.inl ⟨by rfl, ?_⟩) (by assumption) ?_
  rotate_left
  · intro w hSw
    try dsimp only at hSw
    go_simp
    all_goals with_reducible rfl
  simp only [List.set_cons_zero, List.set_cons_succ]
  refine wpAnyH_passL (i := 3) rfl rfl (by kernel_rfl) (by kernel_rfl) (by kernel_rfl) (by rfl) (fun _ _ _ h => h) (by assumption) ?_
  simp only [List.set_cons_zero, List.set_cons_succ]
  refine wpAnyH_passL (i := 4) rfl rfl (by kernel_rfl) (by kernel_rfl) (by kernel_rfl) (by rfl) (fun _ _ _ h => h) (by assumption) ?_
  simp only [List.set_cons_zero, List.set_cons_succ]
  refine wpAnyH_passL (i := 5) rfl rfl (by kernel_rfl) (by kernel_rfl) (by kernel_rfl) (by rfl) (fun _ _ _ h => h) (by assumption) ?_
  simp only [List.set_cons_zero, List.set_cons_succ]
  refine wpAnyH_passL (i := 6) rfl rfl (by kernel_rfl) (by kernel_rfl) (by kernel_rfl) (by rfl) (fun _ _ _ h => h) (by assumption) ?_
  simp only [List.set_cons_zero, List.set_cons_succ]
  refine wpAnyH_passL (i := 7) rfl rfl (by kernel_rfl) (by kernel_rfl) (by kernel_rfl) (by rfl) (fun _ _ _ h => h) (by assumption) ?_
  simp only [List.set_cons_zero, List.set_cons_succ]
  refine wpAnyH_passL (i := 8) rfl rfl (by kernel_rfl) (by kernel_rfl) (by kernel_rfl) (by rfl) (fun _ _ _ h => h) (by assumption) ?_
  simp only [List.set_cons_zero, List.set_cons_succ]
  refine wpAnyH_takeL (i := 9) (v := ?_) rfl rfl (by kernel_rfl) (by kernel_rfl) (by kernel_rfl) (fun _ _ _ h => h) (Or.inl ⟨by rfl, ?_⟩) (by assumption) ?_
  rotate_left
  · intro w hSw
    try dsimp only at hSw
    go_simp
    all_goals with_reducible rfl
  simp only [List.set_cons_zero, List.set_cons_succ]
  refine wpAnyH_done (by kernel_rfl) ?_ _
  clear S0 hHeld
  go_wp2_with (at_builtin; refine append_ext rfl _ _ rfl (B + 1) _ [] rfl ((HO0.out.drewN 1).below ((Below.refl _ _).alloc (Nat.le_refl _) _)) x ⟨w0.heap.size, 0, none⟩ rfl (ext_cells_new w0.drew x _) HX3.out (by simp) (Nat.le_trans HBL.out (by simp)) ?_; intro b6 d6 w6 ho6 bb6; have bb7 : Hid (Grew _ w6 (.slice a 0 c) (.slice b6 (0 + 1) d6)) := bb6; have HO6 : Hid (OwnE _ _ _ _ _) := ho6; clear bb6 ho6; have V6 : Hid (Row _ _ _ _) := outbox_row HV.out HO.out (alloc_drew B0.out _) bb7.out; have k6 := V6.out.cell (j := 0) rfl; have f6 := V6.out.frozen 0)
  go_end0
  exact ⟨rfl, outbox_append HV.out HO.out HS.out (alloc_drew B0.out _) (by rw [HA.out]; exact HO6.out) bb7.out⟩

theorem nine_kept {w w' : World} {B g k X : Nat} {T : TypeId} {s : Value} {y x : Ext} (hB : B < w.heap.size) (hg : g < w.heap.size) (h0 : w.cell? ⟨B, 0, none⟩ = some s)
    (h2 : w.cell? ⟨g, k * 3, none⟩ = some (.int .i64 y.1)) (h3 : w.cell? ⟨g, k * 3 + 1, none⟩ = some (.int .i64 y.2.1)) (h4 : w.cell? ⟨g, k * 3 + 2, none⟩ = some (.int .i64 y.2.2)) (V : Row w X T (ext3 x)) (q : Below w.heap.size w w') :
    w'.cell? ⟨B, 0, none⟩ = some s ∧ w'.cell? ⟨g, k * 3, none⟩ = some (.int .i64 y.1) ∧ w'.cell? ⟨g, k * 3 + 1, none⟩ = some (.int .i64 y.2.1) ∧ w'.cell? ⟨g, k * 3 + 2, none⟩ = some (.int .i64 y.2.2) ∧ w'.cell? ⟨X, 0, none⟩ = some (.int .i64 x.1) ∧ w'.cell? ⟨X, 1, none⟩ = some (.int .i64 x.2.1) ∧ w'.cell? ⟨X, 2, none⟩ = some (.int .i64 x.2.2) :=
  ⟨(q.cell (p := ⟨B, 0, none⟩) hB).trans h0, (q.cell (p := ⟨g, k * 3, none⟩) hg).trans h2, (q.cell (p := ⟨g, k * 3 + 1, none⟩) hg).trans h3, (q.cell (p := ⟨g, k * 3 + 2, none⟩) hg).trans h4, (V.below q).three.1, (V.below q).three.2.1, (V.below q).three.2.2⟩

set_option maxHeartbeats 1600000 in
theorem lay_next (w : World) (B : Nat) (ps : List Ext) (S : Nat → Prop) (x y : Ext) (m : List Ext) (g c : Nat) (V : Row w B 22 [.slice (some ⟨g, 0, none⟩) (m.length + 1) c]) (O : OwnE 24 w (B + 1) (.slice (some ⟨g, 0, none⟩) (m.length + 1) c) (m ++ [y]))
    (hps : Ex.addAll [] ps = m ++ [y]) (hS : ∀ k, S k ↔ k = B ∨ (Value.slice (some ⟨g, 0, none⟩) (m.length + 1) c).ownBlock = some k) (hx : Small x) (hx1 : ¬ x.2.2 < 1) (hy : Small y) (hx0 : 0 ≤ x.2.1) (hy0 : 0 ≤ y.2.1) (hl : m.length + 1 ≤ 1000000) :
    Calls Try.prog 55 (#[.agg #[.int .i64 x.1, .int .i64 x.2.1, .int .i64 x.2.2]] ++ #[.pointer (some ⟨B, 0, none⟩)]) w fun e w' => e = .returned (.tuple #[]) ∧ ∃ S', OutBox B (ps ++ [x]) S' w' ∧ Turns S S' w w' := by
  obtain ⟨w0, hw0, V0, b0, z0⟩ := boxedRow w 24 [.int .i64 x.1, .int .i64 x.2.1, .int .i64 x.2.2]
  obtain ⟨d0, d1, d2⟩ := V0.three
  have B0 : Hid (Below w.heap.size w w0) := b0
  have HV : Hid (Row w B 22 [.slice (some ⟨g, 0, none⟩) (m.length + 1) c]) := V
  have HO : Hid (OwnE 24 w (B + 1) (.slice (some ⟨g, 0, none⟩) (m.length + 1) c) (m ++ [y])) := O
  have HO0 : Hid (OwnE 24 w0 (B + 1) (.slice (some ⟨g, 0, none⟩) (m.length + 1) c) (m ++ [y])) := O.below b0
  have HX3 : Hid _ := hx.in3
  have HS : Hid _ := hS
  have HYS : Hid (Small y) := hy
  obtain ⟨g', eg, hgb, hgl, -, hat⟩ := HO0.out.at (by simp)
  simp only [Option.some.injEq, Addr.mk.injEq, and_true] at eg
  subst eg
  obtain ⟨hml, hmy⟩ := Ex.get_last m y
  obtain ⟨c0, c1, c2, hf⟩ := hat m.length hml
  rw [hmy] at c0 c1 c2
  have hB0 : w0.cell? ⟨B, 0, none⟩ = some (.slice (some ⟨g, 0, none⟩) (m.length + 1) c) := (V.below b0).cell (j := 0) rfl
  have HBL : Hid (B < w0.drew.heap.size) := (V.below b0).lt
  have HGL : Hid (g < w0.drew.heap.size) := hgl
  have HV0 : Hid (Row w0.drew w.heap.size 24 (ext3 x)) := V0.keep rfl
  have SK : Hid (∀ {w'}, Below w0.drew.heap.size w0.drew w' → w'.cell? ⟨B, 0, none⟩ = some (.slice (some ⟨g, 0, none⟩) (m.length + 1) c) ∧ w'.cell? ⟨g, m.length * 3, none⟩ = some (.int .i64 y.1) ∧ w'.cell? ⟨g, m.length * 3 + 1, none⟩ = some (.int .i64 y.2.1) ∧ w'.cell? ⟨g, m.length * 3 + 2, none⟩ = some (.int .i64 y.2.2) ∧ w'.cell? ⟨w.heap.size, 0, none⟩ = some (.int .i64 x.1) ∧ w'.cell? ⟨w.heap.size, 1, none⟩ = some (.int .i64 x.2.1) ∧ w'.cell? ⟨w.heap.size, 2, none⟩ = some (.int .i64 x.2.2)) :=
    fun q => nine_kept (w := w0.drew) HBL.out HGL.out hB0 c0 c1 c2 HV0.out q
  have HFR : Hid (∀ {w'}, Below w0.drew.heap.size w0.drew w' → ∀ j, w'.frozen? ⟨g, j, none⟩ = false) := fun {w'} q j => by
    have h : w'.frozen? ⟨g, j, none⟩ = w0.frozen? ⟨g, j, none⟩ := World.frozen?_of_block (w := w0) (q.block g HGL.out)
    rw [h]
    exact hf j
  have HBD : Hid (∀ {w'}, Below w0.drew.heap.size w0.drew w' → Below w.heap.size w w') := fun q => on B0.out (below_drew_pre0 q)
  have HAJ : Hid (x.1 = y.1 + y.2.2 ∧ x.2.1 = y.2.1 + y.2.2 → Ex.addAll [] (ps ++ [x]) = (m ++ [y]).set m.length (y.1, y.2.1, y.2.2 + x.2.2)) := fun h => by
    rw [Ex.addAll_append, hps]
    exact Ex.add_join hx1 ⟨h.1.symm, .inr ⟨by omega, by omega, h.2.symm⟩⟩
  have HAN : Hid (¬ (x.1 = y.1 + y.2.2 ∧ x.2.1 = y.2.1 + y.2.2) → Ex.addAll [] (ps ++ [x]) = m ++ [y] ++ [x]) := fun h => by
    rw [Ex.addAll_append, hps]
    refine Ex.add_more hx1 (fun hj => h ⟨hj.1.symm, ?_⟩)
    rcases hj.2 with h2 | h2
    · omega
    · exact h2.2.2.symm
  unfold Small at hx hy
  obtain ⟨⟨s1, s2⟩, ⟨s3, s4⟩, s5, s6⟩ := hx
  obtain ⟨⟨t1, t2⟩, ⟨t3, t4⟩, t5, t6⟩ := hy
  have hk1 : (m.length : Int) < ((m.length + 1 : Nat) : Int) := by omega
  have hk2 : (m.length : Int) < (m.length : Int) + 1 := by omega
  clear V O hS hps V0 b0 z0 hat hf hmy hml hgb hgl
  cases hr' : decide (x.1 = y.1 + y.2.2 ∧ x.2.1 = y.2.1 + y.2.2)
  · have hr : Hid (decide (x.1 = y.1 + y.2.2 ∧ x.2.1 = y.2.1 + y.2.2) = false) := hr'
    have HA : Hid _ := HAN.out (of_decide_eq_false hr')
    clear hr' HAN HAJ
    go_enter Try.func55, Try.ntmps55
    go_wp2_with fail
    refine wp_region_held_drew (S := (fun w' : World => w'.cell? ⟨B, 0, none⟩ = some (.slice (some ⟨g, 0, none⟩) (m.length + 1) c) ∧ w'.cell? ⟨g, m.length * 3, none⟩ = some (.int .i64 y.1) ∧ w'.cell? ⟨g, m.length * 3 + 1, none⟩ = some (.int .i64 y.2.1) ∧ w'.cell? ⟨g, m.length * 3 + 2, none⟩ = some (.int .i64 y.2.2) ∧ w'.cell? ⟨w.heap.size, 0, none⟩ = some (.int .i64 x.1) ∧ w'.cell? ⟨w.heap.size, 1, none⟩ = some (.int .i64 x.2.1) ∧ w'.cell? ⟨w.heap.size, 2, none⟩ = some (.int .i64 x.2.2))) (by kernel_rfl) (SK.out (Below.refl _ _)) (fun hHeld => ?_)
    refine wpAnyH_takeL (i := 0) (v := ?_) rfl rfl (by kernel_rfl) (by kernel_rfl) (by kernel_rfl) (fun _ _ _ h => h) (Or.inl ⟨by rfl, ?_⟩) (by assumption) ?_
    rotate_left
    · intro w hSw
      try dsimp only at hSw
      go_simp
      all_goals with_reducible rfl
    simp only [List.set_cons_zero, List.set_cons_succ]
    refine wpAnyH_takeL (i := 1) (v := ?_) rfl rfl (by kernel_rfl) (by kernel_rfl) (by kernel_rfl) (fun _ _ _ h => h) (Or.inl ⟨by rfl, ?_⟩) (by assumption) ?_
    rotate_left
    · intro w hSw
      try dsimp only at hSw
      go_simp
      all_goals with_reducible rfl
    simp only [List.set_cons_zero, List.set_cons_succ]
    refine wpAnyH_takeL (i := 2) (v := ?_) rfl rfl (by kernel_rfl) (by kernel_rfl) (by kernel_rfl) (fun _ _ _ h => h) (Or.inl ⟨by rfl, ?_⟩) (by assumption) ?_
    rotate_left
    · intro w hSw
      try dsimp only at hSw
      go_simp
      all_goals with_reducible rfl
    simp only [List.set_cons_zero, List.set_cons_succ]
    refine wpAnyH_takeL (i := 3) (v := ?_) rfl rfl (by kernel_rfl) (by kernel_rfl) (by kernel_rfl) (fun _ _ _ h => h) (Or.inl ⟨by rfl, ?_⟩) (by assumption) ?_
    rotate_left
    · intro w hSw
      try dsimp only at hSw
      go_simp
      all_goals with_reducible rfl
    simp only [List.set_cons_zero, List.set_cons_succ]
    refine wpAnyH_takeL (i := 4) (v := ?_) rfl rfl (by kernel_rfl) (by kernel_rfl) (by kernel_rfl) (fun _ _ _ h => h) (Or.inl ⟨by rfl, ?_⟩) (by assumption) ?_
    rotate_left
    · intro w hSw
      try dsimp only at hSw
      go_simp
      all_goals with_reducible rfl
    simp only [List.set_cons_zero, List.set_cons_succ]
    refine wpAnyH_takeL (i := 5) (v := ?_) rfl rfl (by kernel_rfl) (by kernel_rfl) (by kernel_rfl) (fun _ _ _ h => h) (Or.inl ⟨by rfl, ?_⟩) (by assumption) ?_
    rotate_left
    · intro w hSw
      try dsimp only at hSw
      go_simp
      all_goals with_reducible rfl
    simp only [List.set_cons_zero, List.set_cons_succ]
    refine wpAnyH_takeL (i := 6) (v := ?_) rfl rfl (by kernel_rfl) (by kernel_rfl) (by kernel_rfl) (fun _ _ _ h => h) (Or.inl ⟨by rfl, ?_⟩) (by assumption) ?_
    rotate_left
    · intro w hSw
      try dsimp only at hSw
      go_simp
      all_goals with_reducible rfl
    simp only [List.set_cons_zero, List.set_cons_succ]
    refine wpAnyH_takeL (i := 7) (v := ?_) rfl rfl (by kernel_rfl) (by kernel_rfl) (by kernel_rfl) (fun _ _ _ h => h) (Or.inl ⟨by rfl, ?_⟩) (by assumption) ?_
    rotate_left
    · intro w hSw
      try dsimp only at hSw
      go_simp
      all_goals with_reducible rfl
    simp only [List.set_cons_zero, List.set_cons_succ]
    refine wpAnyH_ready (rs := [8]) (by kernel_rfl) (by simp) ?_
    refine AllReadyH.cons rfl (fun K hK => ?_) ?_
    · go_simp
      go_at_call 56
      refine Calls.mono (couldBeOne_u _ y x HYS.out _ hr.out) ?_
      rintro e w3 ⟨rfl, hb3⟩
      have HB3 : Hid (Below w.heap.size w w3) := HBD.out hb3
      have HW3 : Hid (Below w0.heap.size w0 w3) := below_drew_pre0 hb3
      have S1 := SK.out hb3
      have F3 : Hid (∀ j, w3.frozen? ⟨g, j, none⟩ = false) := HFR.out hb3
      clear hb3
      go_simp
      refine hK.out _ _ ?_ (fun hHeld => ?_)
      · try dsimp only
        exact S1
      clear hK K
      refine wpAnyH_takeL (i := 9) (v := ?_) rfl rfl (by kernel_rfl) (by kernel_rfl) (by kernel_rfl) (fun _ _ _ h => h) (Or.inl ⟨by rfl, ?_⟩) (by assumption) ?_
      rotate_left
      · intro w hSw
        try dsimp only at hSw
        go_simp
        all_goals with_reducible rfl
      simp only [List.set_cons_zero, List.set_cons_succ]
      refine wpAnyH_done (by kernel_rfl) ?_ _
      obtain ⟨a0, a1, a2, a3, a4, a5, a6⟩ := S1
      clear hHeld
      go_wp2_with (at_builtin; refine append_ext rfl _ _ rfl (B + 1) _ (m ++ [y]) rfl ((HO0.out.below HW3.out).below ((Below.refl _ _).alloc (Nat.le_refl _) _)) x ⟨w3.heap.size, 0, none⟩ rfl (ext_cells_new w3 x _) HX3.out (by simpa using hl) (Nat.le_trans HBL.out (Nat.le_trans HW3.out.size (by simp))) ?_; intro b6 d6 w6 ho6 bb6; rw [show (m ++ [y]).length = m.length + 1 by simp] at ho6 bb6; have bb7 : Hid (Grew _ w6 (.slice (some ⟨g, 0, none⟩) (m.length + 1) c) (.slice b6 (m.length + 1 + 1) d6)) := bb6; have HO6 : Hid (OwnE _ _ _ _ _) := ho6; clear bb6 ho6; have V6 : Hid (Row _ _ _ _) := outbox_row HV.out HO.out (below_alloc0 HB3.out _) bb7.out; have k6 := V6.out.cell (j := 0) rfl; have f6 := V6.out.frozen 0)
      go_end0
      exact ⟨rfl, outbox_append HV.out HO.out HS.out (below_alloc0 HB3.out _) (by rw [HA.out]; exact HO6.out) bb7.out⟩
    exact AllReadyH.nil
  · have hr : Hid (decide (x.1 = y.1 + y.2.2 ∧ x.2.1 = y.2.1 + y.2.2) = true) := hr'
    have HA : Hid _ := HAJ.out (of_decide_eq_true hr')
    clear hr' HAN HAJ
    go_enter Try.func55, Try.ntmps55
    go_wp2_with fail
    refine wp_region_held_drew (S := (fun w' : World => w'.cell? ⟨B, 0, none⟩ = some (.slice (some ⟨g, 0, none⟩) (m.length + 1) c) ∧ w'.cell? ⟨g, m.length * 3, none⟩ = some (.int .i64 y.1) ∧ w'.cell? ⟨g, m.length * 3 + 1, none⟩ = some (.int .i64 y.2.1) ∧ w'.cell? ⟨g, m.length * 3 + 2, none⟩ = some (.int .i64 y.2.2) ∧ w'.cell? ⟨w.heap.size, 0, none⟩ = some (.int .i64 x.1) ∧ w'.cell? ⟨w.heap.size, 1, none⟩ = some (.int .i64 x.2.1) ∧ w'.cell? ⟨w.heap.size, 2, none⟩ = some (.int .i64 x.2.2))) (by kernel_rfl) (SK.out (Below.refl _ _)) (fun hHeld => ?_)
    refine wpAnyH_takeL (i := 0) (v := ?_) rfl rfl (by kernel_rfl) (by kernel_rfl) (by kernel_rfl) (fun _ _ _ h => h) (Or.inl ⟨by rfl, ?_⟩) (by assumption) ?_
    rotate_left
    · intro w hSw
      try dsimp only at hSw
      go_simp
      all_goals with_reducible rfl
    simp only [List.set_cons_zero, List.set_cons_succ]
    refine wpAnyH_takeL (i := 1) (v := ?_) rfl rfl (by kernel_rfl) (by kernel_rfl) (by kernel_rfl) (fun _ _ _ h => h) (Or.inl ⟨by rfl, ?_⟩) (by assumption) ?_
    rotate_left
    · intro w hSw
      try dsimp only at hSw
      go_simp
      all_goals with_reducible rfl
    simp only [List.set_cons_zero, List.set_cons_succ]
    refine wpAnyH_takeL (i := 2) (v := ?_) rfl rfl (by kernel_rfl) (by kernel_rfl) (by kernel_rfl) (fun _ _ _ h => h) (Or.inl ⟨by rfl, ?_⟩) (by assumption) ?_
    rotate_left
    · intro w hSw
      try dsimp only at hSw
      go_simp
      all_goals with_reducible rfl
    simp only [List.set_cons_zero, List.set_cons_succ]
    refine wpAnyH_takeL (i := 3) (v := ?_) rfl rfl (by kernel_rfl) (by kernel_rfl) (by kernel_rfl) (fun _ _ _ h => h) (Or.inl ⟨by rfl, ?_⟩) (by assumption) ?_
    rotate_left
    · intro w hSw
      try dsimp only at hSw
      go_simp
      all_goals with_reducible rfl
    simp only [List.set_cons_zero, List.set_cons_succ]
    refine wpAnyH_takeL (i := 4) (v := ?_) rfl rfl (by kernel_rfl) (by kernel_rfl) (by kernel_rfl) (fun _ _ _ h => h) (Or.inl ⟨by rfl, ?_⟩) (by assumption) ?_
    rotate_left
    · intro w hSw
      try dsimp only at hSw
      go_simp
      all_goals with_reducible rfl
    simp only [List.set_cons_zero, List.set_cons_succ]
    refine wpAnyH_takeL (i := 5) (v := ?_) rfl rfl (by kernel_rfl) (by kernel_rfl) (by kernel_rfl) (fun _ _ _ h => h) (Or.inl ⟨by rfl, ?_⟩) (by assumption) ?_
    rotate_left
    · intro w hSw
      try dsimp only at hSw
      go_simp
      all_goals with_reducible rfl
    simp only [List.set_cons_zero, List.set_cons_succ]
    refine wpAnyH_takeL (i := 6) (v := ?_) rfl rfl (by kernel_rfl) (by kernel_rfl) (by kernel_rfl) (fun _ _ _ h => h) (Or.inl ⟨by rfl, ?_⟩) (by assumption) ?_
    rotate_left
    · intro w hSw
      try dsimp only at hSw
      go_simp
      all_goals with_reducible rfl
    simp only [List.set_cons_zero, List.set_cons_succ]
    refine wpAnyH_takeL (i := 7) (v := ?_) rfl rfl (by kernel_rfl) (by kernel_rfl) (by kernel_rfl) (fun _ _ _ h => h) (Or.inl ⟨by rfl, ?_⟩) (by assumption) ?_
    rotate_left
    · intro w hSw
      try dsimp only at hSw
      go_simp
      all_goals with_reducible rfl
    simp only [List.set_cons_zero, List.set_cons_succ]
    refine wpAnyH_ready (rs := [8]) (by kernel_rfl) (by simp) ?_
    refine AllReadyH.cons rfl (fun K hK => ?_) ?_
    · go_simp
      go_at_call 56
      refine Calls.mono (couldBeOne_u _ y x HYS.out _ hr.out) ?_
      rintro e w3 ⟨rfl, hb3⟩
      have HB3 : Hid (Below w.heap.size w w3) := HBD.out hb3
      have HW3 : Hid (Below w0.heap.size w0 w3) := below_drew_pre0 hb3
      have S1 := SK.out hb3
      have F3 : Hid (∀ j, w3.frozen? ⟨g, j, none⟩ = false) := HFR.out hb3
      clear hb3
      go_simp
      refine hK.out _ _ ?_ (fun hHeld => ?_)
      · try dsimp only
        exact S1
      clear hK K
      refine wpAnyH_takeL (i := 9) (v := ?_) rfl rfl (by kernel_rfl) (by kernel_rfl) (by kernel_rfl) (fun _ _ _ h => h) (Or.inl ⟨by rfl, ?_⟩) (by assumption) ?_
      rotate_left
      · intro w hSw
        try dsimp only at hSw
        go_simp
        all_goals with_reducible rfl
      simp only [List.set_cons_zero, List.set_cons_succ]
      refine wpAnyH_done (by kernel_rfl) ?_ _
      obtain ⟨a0, a1, a2, a3, a4, a5, a6⟩ := S1
      have f3 := F3.out (m.length * 3 + 2)
      clear hHeld
      go_wp2_with fail
      go_region
      go_wp2
      refine bodyPost_ret (results_none rfl _ _ _) rfl ?_
      obtain ⟨hml, hmy⟩ := Ex.get_last m y
      have ho1 : OwnE 24 w3.drew (B + 1) (.slice (some ⟨g, 0, none⟩) (m ++ [y]).length c) (m ++ [y]) := by rw [List.length_append]; exact (HO0.out.below HW3.out).keep (fun _ _ _ => rfl)
      have hs := ho1.setLen hml (m := y.2.2 + x.2.2) (by unfold In64; omega)
      rw [hmy, List.length_append] at hs
      exact ⟨rfl, S, outbox_set HV.out HO.out HS.out HB3.out.drew (by rw [HA.out]; exact hs)⟩
    exact AllReadyH.nil

/-- The function that lays a piece of a map, at its variable. -/
theorem outLayer (B : Nat) : Layer 55 #[.pointer (some ⟨B, 0, none⟩)] id (OutBox B) := by
  refine ⟨enters_of Try.func55 (by kernel_rfl) rfl, fun h => h.low, fun h hk => h.keep hk, ?_⟩
  intro ps S w x hJ hB hx
  have hx' : 1 ≤ x.2.2 ∧ 0 ≤ x.2.1 := hB.one x (by simp)
  have hP := hB.front.pieces
  obtain ⟨v, V, O, hS⟩ := hJ.ex
  obtain ⟨a, c, rfl, -, -⟩ := O.slice
  rcases List.eq_nil_or_concat (Ex.addAll [] ps) with e | ⟨m, y, e⟩
  · rw [e] at V O hS
    exact lay_first w B ps S x a c V O e hS hx (by omega)
  · rw [List.concat_eq_append] at e
    have hym : y ∈ Ex.addAll [] ps := by rw [e]; simp
    have hym2 := hP.made hym
    obtain ⟨z, hz, ez⟩ := Ex.addAll_phys hym
    have hz1 := hB.front.one z (hz.resolve_left (by simp))
    have hcount := hP.count
    rw [e] at V O hS hcount
    rw [List.length_append] at hcount
    obtain ⟨g, rfl, -, -, -, -⟩ := O.at (by simp)
    rw [List.length_append] at V O hS
    exact lay_next w B ps S x y m g c V O e hS hx (by omega) (by unfold Small; omega) hx'.2 (by omega) (by simpa using by omega)

end Go.Proofs.Ytlpmfbinemmikaa
