/-
  The landed free: spans laid piece by piece, neighbours made one. Conditions: those that each contract names.
-/
import Derived.Test.YtbbjbajdoekheaaYA
import Derived.BigRegion
namespace Go.Proofs.Ytbbjbajdoekheaa
open Go.RowKit
set_option linter.unusedVariables false

/-- A function that lays pieces: what was laid lies in blocks of its own. -/
structure Lays (f : Nat) (bs : Array Value) (J : List Fr.Pc → (Nat → Prop) → World → Prop) : Prop where
  enters : ∀ args w, (callFunc f args).run Try.prog w = .ok (.enter f args) w
  low : ∀ {ps : List Fr.Pc} {S : Nat → Prop} {w : World}, J ps S w → ∀ k, S k → k < w.heap.size
  keep : ∀ {ps : List Fr.Pc} {S : Nat → Prop} {w w' : World}, J ps S w → (∀ k, S k → w'.heap[k]? = w.heap[k]?) → J ps S w'
  call : ∀ {ps : List Fr.Pc} {S : Nat → Prop} {w : World} {x : Fr.Pc}, J ps S w → ps.length ≤ 100000 → Fr.Sec x →
    Calls Try.prog f (#[.int .i64 x.1, .int .i64 x.2] ++ bs) w fun e w' => e = .returned (.tuple #[]) ∧ ∃ S', J (ps ++ [x]) S' w' ∧ Turns S S' w w'

theorem Lays.below {f : Nat} {bs : Array Value} {J : List Fr.Pc → (Nat → Prop) → World → Prop} (L : Lays f bs J) {ps : List Fr.Pc} {S : Nat → Prop} {w w' : World} (h : J ps S w) (k : Below w.heap.size w w') : J ps S w' :=
  L.keep h (fun i hi => k.block i (L.low h i hi))

/-- The variable in which a state is laid, and the row of its spans. -/
structure OutBox (B : Nat) (z : Int) (ps : List Fr.Pc) (S : Nat → Prop) (w : World) : Prop where
  ex : ∃ v, Row w B 27 [.int .i64 z, v] ∧ OwnS 26 w (B + 1) v (Fr.layAll [] ps) ∧ ∀ k, S k ↔ k = B ∨ v.ownBlock = some k
  sec : ∀ q ∈ ps, Fr.Sec q

theorem OutBox.low {B : Nat} {z : Int} {ps : List Fr.Pc} {S : Nat → Prop} {w : World} (h : OutBox B z ps S w) : ∀ k, S k → k < w.heap.size := by
  obtain ⟨v, V, O, hS⟩ := h.ex
  intro k hk
  rcases (hS k).1 hk with rfl | hk
  · exact V.lt
  · exact (O.row.lt k hk).2

theorem OutBox.keep {B : Nat} {z : Int} {ps : List Fr.Pc} {S : Nat → Prop} {w w' : World} (h : OutBox B z ps S w) (hk : ∀ k, S k → w'.heap[k]? = w.heap[k]?) : OutBox B z ps S w' := by
  obtain ⟨v, V, O, hS⟩ := h.ex
  exact ⟨⟨v, V.keep (hk B ((hS B).2 (.inl rfl))), O.keep1 (fun b e => hk b ((hS b).2 (.inr e))), hS⟩, h.sec⟩

theorem sec_more {ps : List Fr.Pc} {x : Fr.Pc} (h : ∀ q ∈ ps, Fr.Sec q) (hx : Fr.Sec x) : ∀ q ∈ ps ++ [x], Fr.Sec q := by
  intro q hq
  rcases List.mem_append.1 hq with hq | hq
  · exact h q hq
  · rw [List.mem_singleton.1 hq]; exact hx

/-- The spans' row has grown, and the variable has it. -/
theorem outbox_append {B : Nat} {z : Int} {ps : List Fr.Pc} {x : Fr.Pc} {S : Nat → Prop} {w w0 w1 : World} {v v' : Value} {l : List Spn} (V : Row w B 27 [.int .i64 z, v]) (O : OwnS 26 w (B + 1) v l) (hS : ∀ k, S k ↔ k = B ∨ v.ownBlock = some k) (hc : ∀ q ∈ ps ++ [x], Fr.Sec q)
    (b0 : Below w.heap.size w w0) (O1 : OwnS 26 w1 (B + 1) v' (Fr.layAll [] (ps ++ [x]))) (g : Grew w0 w1 v v') :
    ∃ S', OutBox B z (ps ++ [x]) S' (w1.setCell ⟨B, 1, none⟩ v') ∧ Turns S S' w (w1.setCell ⟨B, 1, none⟩ v') := by
  have hB : some B ≠ v.ownBlock := fun e => by have := (O.row.lt B e.symm).1; omega
  have V1 : Row w1 B 27 [.int .i64 z, v] := (V.below b0).keep (g.block B (V.below b0).lt hB)
  have V2 := V1.set 1 v'
  have hne : ∀ b, v'.ownBlock = some b → B ≠ b := fun b e => by have := (O1.row.lt b e).1; omega
  refine ⟨fun k => k = B ∨ v'.ownBlock = some k, ⟨⟨v', V2, O1.keep1 (fun b e => Below.heap_setCell _ _ _ _ (fun h => hne b e h.symm)), fun k => Iff.rfl⟩, hc⟩, ?_⟩
  have gg := g.grown
  have hsz : (w1.setCell ⟨B, 1, none⟩ v').heap.size = w1.heap.size := by simp [World.setCell]
  refine ⟨gg.os.trans b0.os, gg.tape.trans b0.tape, gg.output.trans b0.output, by rw [hsz]; exact Nat.le_trans b0.size gg.size, fun k hk hn => ?_, fun k hk => ?_⟩
  · have h1 : k ≠ B := fun e => hn ((hS k).2 (.inl e))
    have h2 : some k ≠ v.ownBlock := fun e => hn ((hS k).2 (.inr e.symm))
    rw [Below.heap_setCell _ _ _ _ (fun h => h1 h), g.block k (Nat.lt_of_lt_of_le hk b0.size) h2, b0.block k hk]
  · rcases hk with rfl | hk
    · exact .inl ((hS _).2 (.inl rfl))
    · rcases g.place k hk with h | h
      · exact .inl ((hS _).2 (.inr h))
      · exact .inr (Nat.le_trans b0.size h)

/-- The last span has grown. -/
theorem outbox_set {B : Nat} {z : Int} {ps : List Fr.Pc} {x : Fr.Pc} {S : Nat → Prop} {w w0 : World} {g c k : Nat} {u : Value} {l : List Spn} (V : Row w B 27 [.int .i64 z, .slice (some ⟨g, 0, none⟩) k c]) (O : OwnS 26 w (B + 1) (.slice (some ⟨g, 0, none⟩) k c) l) (hS : ∀ k', S k' ↔ k' = B ∨ (Value.slice (some ⟨g, 0, none⟩) k c).ownBlock = some k') (hc : ∀ q ∈ ps ++ [x], Fr.Sec q)
    (b0 : Below w.heap.size w w0) {i : Nat} (O1 : OwnS 26 (w0.setCell ⟨g, i, none⟩ u) (B + 1) (.slice (some ⟨g, 0, none⟩) k c) (Fr.layAll [] (ps ++ [x]))) :
    OutBox B z (ps ++ [x]) S (w0.setCell ⟨g, i, none⟩ u) ∧ Turns S S w (w0.setCell ⟨g, i, none⟩ u) := by
  have hg : B + 1 ≤ g := (O.row.lt g rfl).1
  refine ⟨⟨⟨_, (V.below b0).keep (Below.heap_setCell _ _ _ _ (fun h => by have h : B = g := h; omega)), O1, hS⟩, hc⟩, ?_⟩
  refine ⟨b0.os, b0.tape, b0.output, by rw [show (w0.setCell ⟨g, i, none⟩ u).heap.size = w0.heap.size by simp [World.setCell]]; exact b0.size, fun j hj hn => ?_, fun j hj => .inl hj⟩
  rw [Below.heap_setCell _ _ _ _ (fun h => hn ((hS j).2 (.inr (by have h : j = g := h; rw [h]; rfl)))), b0.block j hj]

theorem outbox_row {B : Nat} {z : Int} {w w0 w1 : World} {v v' : Value} {l : List Spn} (V : Row w B 27 [.int .i64 z, v]) (O : OwnS 26 w (B + 1) v l) (b0 : Below w.heap.size w w0) (g : Grew w0 w1 v v') : Row w1 B 27 [.int .i64 z, v] :=
  (V.below b0).keep (g.block B (V.below b0).lt (fun e => by have := (O.row.lt B e.symm).1; omega))

theorem spn_last (m : List Spn) (y : Spn) : ∃ h : m.length < (m ++ [y]).length, (m ++ [y])[m.length] = y := ⟨by simp, by simp⟩

set_option maxHeartbeats 2000000 in
theorem lay_none (w : World) (B : Nat) (f e : Int) (h : e ≤ f) :
    Calls Try.prog 61 #[.int .i64 f, .int .i64 e, .pointer (some ⟨B, 0, none⟩)] w fun r w' => r = .returned (.tuple #[]) ∧ w = w' := by
  go_enter Try.func61, Try.ntmps61
  go_wp2
  refine bodyPost_ret (results_none rfl _ _ _) rfl ?_
  exact ⟨rfl, rfl⟩

set_option maxRecDepth 20000 in
set_option maxHeartbeats 4000000 in
theorem lay_first (w : World) (B : Nat) (z : Int) (ps : List Fr.Pc) (S : Nat → Prop) (x : Fr.Pc) (a : Option Addr) (c : Nat) (V : Row w B 27 [.int .i64 z, .slice a 0 c]) (O : OwnS 26 w (B + 1) (.slice a 0 c) []) (hps : Fr.layAll [] ps = []) (hS : ∀ k, S k ↔ k = B ∨ (Value.slice a 0 c).ownBlock = some k) (hc : ∀ q ∈ ps, Fr.Sec q) (hx : Fr.Sec x) (hx1 : x.1 < x.2) :
    Calls Try.prog 61 #[.int .i64 x.1, .int .i64 x.2, .pointer (some ⟨B, 0, none⟩)] w fun e w' => e = .returned (.tuple #[]) ∧ ∃ S', OutBox B z (ps ++ [x]) S' w' ∧ Turns S S' w w' := by
  have HC : Hid _ := sec_more hc hx
  have HA : Hid (Fr.layAll [] (ps ++ [x]) = [(x.1, x.2 - x.1)]) := by unfold Hid; rw [Fr.layAll_one, hps, Fr.lay1_first hx1]
  unfold Fr.Sec at hx
  obtain ⟨s1, s2, s3, s4⟩ := hx
  have hX2 : In2 (x.1, x.2 - x.1) := ⟨⟨by show _ ≤ x.1; omega, by show x.1 ≤ _; omega⟩, ⟨by show _ ≤ x.2 - x.1; omega, by show x.2 - x.1 ≤ _; omega⟩⟩
  have hBz : B + 1 ≤ w.heap.size := V.lt
  have hoa : OwnS 26 (w.alloc (.cells #[.int .i64 x.1, .int .i64 (x.2 - x.1)] 26)) (B + 1) (.slice a 0 c) [] := O.below ((Below.refl _ _).alloc (Nat.le_refl _) _)
  obtain ⟨v1, w8, hr1, ho1, g1⟩ := run_append_spns hoa ((OwnS.lit 26 w (B + 1) hBz (x.1, x.2 - x.1) hX2).rd (show (1 : Nat) ≤ 8796093021952 by decide)) (by simp) (Nat.le_trans hBz (by simp)) 22
  obtain ⟨a6, c6, rfl, -, -⟩ := ho1.slice
  have ba : Below w.heap.size w (w.alloc (.cells #[.int .i64 x.1, .int .i64 (x.2 - x.1)] 26)) := (Below.refl _ _).alloc (Nat.le_refl _) _
  have V8 := outbox_row V O ba g1
  have k8 := V8.cell (j := 1) rfl
  have f8 := V8.frozen 1
  have HR8 : Hid _ := hr1
  have HG : Hid _ := outbox_append (ps := ps) (x := x) V O hS HC.out ba (by rw [HA.out]; exact ho1) g1
  have k0 := V.cell (j := 1) rfl
  clear hr1 ho1 g1 hoa V8 V O ba hS hc hps
  go_enter Try.func61, Try.ntmps61
  go_wp2_with (at_builtin; refine Lib.wpList_append_run _ rfl _ _ _ _ rfl _ _ rfl rfl _ _ HR8.out ?_)
  go_end0
  exact ⟨rfl, HG.out⟩

set_option maxRecDepth 20000 in
set_option maxHeartbeats 4000000 in
theorem lay_next (w : World) (B : Nat) (z : Int) (ps : List Fr.Pc) (S : Nat → Prop) (x : Fr.Pc) (y : Spn) (m : List Spn) (g c : Nat) (V : Row w B 27 [.int .i64 z, .slice (some ⟨g, 0, none⟩) (m.length + 1) c]) (O : OwnS 26 w (B + 1) (.slice (some ⟨g, 0, none⟩) (m.length + 1) c) (m ++ [y])) (hps : Fr.layAll [] ps = m ++ [y])
    (hS : ∀ k, S k ↔ k = B ∨ (Value.slice (some ⟨g, 0, none⟩) (m.length + 1) c).ownBlock = some k) (hc : ∀ q ∈ ps, Fr.Sec q) (hx : Fr.Sec x) (hx1 : x.1 < x.2) (hy : Fr.Mid y) (hl : m.length + 1 ≤ 100000) :
    Calls Try.prog 61 #[.int .i64 x.1, .int .i64 x.2, .pointer (some ⟨B, 0, none⟩)] w fun e w' => e = .returned (.tuple #[]) ∧ ∃ S', OutBox B z (ps ++ [x]) S' w' ∧ Turns S S' w w' := by
  have HC : Hid _ := sec_more hc hx
  unfold Fr.Sec at hx
  obtain ⟨s1, s2, s3, s4⟩ := hx
  unfold Fr.Mid at hy
  obtain ⟨t1, t2, t3⟩ := hy
  have HYE : Hid (In64 (y.1 + y.2)) := by unfold Hid In64; omega
  have hX2 : In2 (x.1, x.2 - x.1) := ⟨⟨by show _ ≤ x.1; omega, by show x.1 ≤ _; omega⟩, ⟨by show _ ≤ x.2 - x.1; omega, by show x.2 - x.1 ≤ _; omega⟩⟩
  have hBz : B + 1 ≤ w.heap.size := V.lt
  have HV : Hid (Row w B 27 [.int .i64 z, .slice (some ⟨g, 0, none⟩) (m.length + 1) c]) := V
  have HO : Hid (OwnS 26 w (B + 1) (.slice (some ⟨g, 0, none⟩) (m.length + 1) c) (m ++ [y])) := O
  have HS : Hid _ := hS
  have k0 := V.cell (j := 1) rfl
  obtain ⟨g', eg, hgb, hgl, -, hat⟩ := O.at (by simp)
  simp only [Option.some.injEq, Addr.mk.injEq, and_true] at eg
  subst eg
  obtain ⟨hml, hmy⟩ := spn_last m y
  obtain ⟨c0, c1, hf⟩ := hat m.length hml
  rw [hmy] at c0 c1
  have HGL : Hid (g < w.heap.size) := hgl
  have HFZ : Hid (∀ k, w.frozen? ⟨g, k, none⟩ = false) := hf
  have hk1 : (m.length : Int) < ((m.length + 1 : Nat) : Int) := by omega
  have hk2 : (m.length : Int) < (m.length : Int) + 1 := by omega
  have HX2 : Hid (In2 (x.1, x.2 - x.1)) := hX2
  have HBz : Hid (B + 1 ≤ w.heap.size) := hBz
  clear V O hS hc hat hml hmy hgb hgl hf hX2 hBz
  by_cases hj : y.1 + y.2 = x.1
  · have HA : Hid (Fr.layAll [] (ps ++ [x]) = (m ++ [y]).set m.length (y.1, y.2 + (x.2 - x.1))) := by unfold Hid; rw [Fr.layAll_one, hps, Fr.lay1_join hx1 hj]
    have hj' : decide (y.1 + y.2 = x.1) = true := decide_eq_true hj
    have hj2 : (y.1 + y.2 == x.1) = true := beq_iff_eq.2 hj
    clear hps hj
    go_enter Try.func61, Try.ntmps61
    go_wp2_with (go_at_call 36; refine (spanEnd_u _ y HYE.out).mono ?_; rintro e w3 ⟨rfl, hb3⟩; have HB3 : Hid (Below w.heap.size w w3) := hb3; have a0 := (HV.out.below hb3).cell (j := 1) rfl; have a2 : w3.cell? ⟨g, m.length * 2 + 1, none⟩ = some (.int .i64 y.2) := (hb3.cell (p := ⟨g, m.length * 2 + 1, none⟩) HGL.out).trans c1; have a3 : w3.frozen? ⟨g, m.length * 2 + 1, none⟩ = false := (World.frozen?_of_block (w := w) (hb3.block g HGL.out)).trans (HFZ.out _); clear hb3)
    refine bodyPost_ret (results_none rfl _ _ _) rfl ?_
    obtain ⟨hml, hmy⟩ := spn_last m y
    have ho1 : OwnS 26 w3 (B + 1) (.slice (some ⟨g, 0, none⟩) (m ++ [y]).length c) (m ++ [y]) := by rw [List.length_append]; exact HO.out.below HB3.out
    have hs := ho1.setLen hml (m := y.2 + (x.2 - x.1)) (by unfold In64; omega)
    rw [hmy, List.length_append] at hs
    exact ⟨rfl, S, outbox_set HV.out HO.out HS.out HC.out HB3.out (by rw [HA.out]; exact hs)⟩
  · have HA : Hid (Fr.layAll [] (ps ++ [x]) = m ++ [y] ++ [(x.1, x.2 - x.1)]) := by unfold Hid; rw [Fr.layAll_one, hps, Fr.lay1_more hx1 hj]
    have hj' : decide (y.1 + y.2 = x.1) = false := decide_eq_false hj
    have hj2 : (y.1 + y.2 == x.1) = false := beq_eq_false_iff_ne.2 hj
    clear hps hj
    go_enter Try.func61, Try.ntmps61
    go_upto_region 4 with (go_at_call 36; refine (spanEnd_u _ y HYE.out).mono ?_; rintro e w3 ⟨rfl, hb3⟩; have HB3 : Hid (Below w.heap.size w w3) := hb3; have a0 := (HV.out.below hb3).cell (j := 1) rfl; clear hb3)
    have hbz : B + 1 ≤ w3.heap.size := Nat.le_trans HBz.out HB3.out.size
    have hoa : OwnS 26 (w3.alloc (.cells #[.int .i64 x.1, .int .i64 (x.2 - x.1)] 26)) (B + 1) (.slice (some ⟨g, 0, none⟩) (m.length + 1) c) (m ++ [y]) := (HO.out.below HB3.out).below ((Below.refl _ _).alloc (Nat.le_refl _) _)
    obtain ⟨v1, w8, hr1, ho1, g1⟩ := run_append_spns hoa ((OwnS.lit 26 w3 (B + 1) hbz (x.1, x.2 - x.1) HX2.out).rd (show (1 : Nat) ≤ 8796093021952 by decide)) (by rw [List.length_append, List.length_singleton]; omega) (Nat.le_trans hbz (by simp)) 22
    obtain ⟨a6, c6, rfl, -, -⟩ := ho1.slice
    have ba : Below w.heap.size w (w3.alloc (.cells #[.int .i64 x.1, .int .i64 (x.2 - x.1)] 26)) := below_alloc0 HB3.out _
    have V8 := outbox_row HV.out HO.out ba g1
    have k8 := V8.cell (j := 1) rfl
    have f8 := V8.frozen 1
    have HR8 : Hid _ := hr1
    have HG : Hid _ := outbox_append (ps := ps) (x := x) HV.out HO.out HS.out HC.out ba (by rw [HA.out]; exact ho1) g1
    clear hr1 ho1 g1 hoa V8 ba hbz
    go_wp2_with (at_builtin; refine Lib.wpList_append_run _ rfl _ _ _ _ rfl _ _ rfl rfl _ _ HR8.out ?_)
    go_end0
    have h := HG.out
    rw [show (m ++ [y] ++ [(x.1, x.2 - x.1)]).length = m.length + 2 by simp] at h
    exact ⟨rfl, h⟩

/-- The function that lays a piece of a state, at its variable. -/
theorem outLays (B : Nat) (z : Int) : Lays 61 #[.pointer (some ⟨B, 0, none⟩)] (OutBox B z) := by
  refine ⟨enters_of Try.func61 (by kernel_rfl) rfl, fun h => h.low, fun h hk => h.keep hk, ?_⟩
  intro ps S w x hJ hn hx
  by_cases hx1 : x.1 < x.2
  · obtain ⟨v, V, O, hS⟩ := hJ.ex
    have hsec := hJ.sec
    obtain ⟨a, c, rfl, -, -⟩ := O.slice
    rcases List.eq_nil_or_concat (Fr.layAll [] ps) with e | ⟨m, y, e⟩
    · rw [e] at V O hS
      exact lay_first w B z ps S x a c V O e hS hsec hx hx1
    · rw [List.concat_eq_append] at e
      have hmid := Fr.layAll_mid (out := []) (fun y hy => by cases hy) hsec y (by rw [e]; simp)
      have hcount := Fr.layAll_len ps []
      rw [e] at V O hS hcount
      rw [List.length_append, List.length_nil, List.length_singleton] at hcount
      obtain ⟨g, rfl, -, -, -, -⟩ := O.at (by simp)
      rw [List.length_append] at V O hS
      exact lay_next w B z ps S x y m g c V O e hS hsec hx hx1 hmid (by omega)
  · refine (lay_none w B x.1 x.2 (by omega)).mono ?_
    rintro e w' ⟨rfl, rfl⟩
    obtain ⟨v, V, O, hS⟩ := hJ.ex
    refine ⟨rfl, S, ⟨⟨v, V, by rw [Fr.layAll_one, Fr.lay1_none (by omega)]; exact O, hS⟩, sec_more hJ.sec hx⟩, Turns.of (Below.refl _ _)⟩

end Go.Proofs.Ytbbjbajdoekheaa
