/-
  The landed extent: Look, at whatever map and sectors. Conditions: those that each contract names.
-/
import Derived.Test.YtlpmfbinemmikaaXN
import Derived.Test.YtlpmfbinemmikaaELook
namespace Go.Proofs.Ytlpmfbinemmikaa
open Go.RowKit
set_option linter.unusedVariables false

theorem Turns.widen {S1 S1' S S' : Nat → Prop} {w w' : World} (h : Turns S1 S1' w w') (h1 : ∀ k, S1 k → S k) (h2 : ∀ k, S' k → S1' k ∨ S k) : Turns S S' w w' :=
  ⟨h.os, h.tape, h.output, h.size, fun k hk hn => h.block k hk (fun hs => hn (h1 k hs)), fun k hk => (h2 k hk).elim (fun hs => (h.place k hs).imp (h1 k) id) .inl⟩

/-- A row of the call's own has grown, and the variable has it. -/
theorem box_append {B base : Nat} {w w0 w1 : World} {v v' : Value} {l l' : List Ext} (V : Row w B 22 [v]) (O : OwnE 24 w base v l) (hB : B < base) (b0 : Below w.heap.size w w0) (O1 : OwnE 24 w1 base v' l') (g : Grew w0 w1 v v') :
    Row (w1.setCell ⟨B, 0, none⟩ v') B 22 [v'] ∧ OwnE 24 (w1.setCell ⟨B, 0, none⟩ v') base v' l' ∧ Turns (fun k => k = B ∨ v.ownBlock = some k) (fun k => k = B ∨ v'.ownBlock = some k) w (w1.setCell ⟨B, 0, none⟩ v') := by
  have hB' : some B ≠ v.ownBlock := fun e => by have := (O.row.lt B e.symm).1; omega
  have V1 : Row w1 B 22 [v] := (V.below b0).keep (g.block B (V.below b0).lt hB')
  have hne : ∀ b, v'.ownBlock = some b → B ≠ b := fun b e => by have := (O1.row.lt b e).1; omega
  refine ⟨V1.set 0 v', O1.keep1 (fun b e => Below.heap_setCell _ _ _ _ (fun h => hne b e h.symm)), ?_⟩
  have gg := g.grown
  have hsz : (w1.setCell ⟨B, 0, none⟩ v').heap.size = w1.heap.size := by simp [World.setCell]
  refine ⟨gg.os.trans b0.os, gg.tape.trans b0.tape, gg.output.trans b0.output, by rw [hsz]; exact Nat.le_trans b0.size gg.size, fun k hk hn => ?_, fun k hk => ?_⟩
  · have h1 : k ≠ B := fun e => hn (.inl e)
    have h2 : some k ≠ v.ownBlock := fun e => hn (.inr e.symm)
    rw [Below.heap_setCell _ _ _ _ (fun h => h1 h), g.block k (Nat.lt_of_lt_of_le hk b0.size) h2, b0.block k hk]
  · rcases hk with rfl | hk
    · exact .inl (.inl rfl)
    · rcases g.place k hk with h | h
      · exact .inl (.inr h)
      · exact .inr (Nat.le_trans b0.size h)

theorem box_row {B base : Nat} {w w0 w1 : World} {v v' : Value} {l : List Ext} (V : Row w B 22 [v]) (O : OwnE 24 w base v l) (hB : B < base) (b0 : Below w.heap.size w w0) (g : Grew w0 w1 v v') : Row w1 B 22 [v] :=
  (V.below b0).keep (g.block B (V.below b0).lt (fun e => by have := (O.row.lt B e.symm).1; omega))

set_option maxHeartbeats 2000000 in
/-- The hole up to a sector, if there is one, is laid. -/
theorem layHole_u (w : World) (O A base : Nat) (v : Value) (l : List Ext) (at_ to : Int) (V : Row w O 22 [v]) (hO : OwnE 24 w base v l) (VA : Row w A 3 [.int .i64 at_]) (hB : O < base) (hbase : base ≤ w.heap.size) (h1 : 0 ≤ at_) (h2 : at_ ≤ 65536) (h3 : 0 ≤ to) (h4 : to ≤ 65536) (hl : l.length ≤ 1000000) :
    Calls Try.prog 32 (#[.int .i64 to] ++ #[.pointer (some ⟨A, 0, none⟩), .pointer (some ⟨O, 0, none⟩)]) w fun e w' => e = .returned (.tuple #[]) ∧ ∃ v', Row w' O 22 [v'] ∧ OwnE 24 w' base v' (l ++ Ex.hole at_ to) ∧ Turns (fun k => k = O ∨ v.ownBlock = some k) (fun k => k = O ∨ v'.ownBlock = some k) w w' := by
  obtain ⟨a, c, rfl, -, -⟩ := hO.slice
  have HV : Hid (Row w O 22 [.slice a l.length c]) := V
  have HO : Hid (OwnE 24 w base (.slice a l.length c) l) := hO
  have HBs : Hid (base ≤ w.heap.size) := hbase
  have k0 := V.cell (j := 0) rfl
  have k1 := VA.cell (j := 0) rfl
  have HB : Hid (O < base) := hB
  clear V hO VA hB hbase
  by_cases hc : at_ < to
  · have HH : Hid (Ex.hole at_ to = [(at_, -1, to - at_)]) := if_pos hc
    have HX3 : Hid (In3 (at_, -1, to - at_)) := by unfold Hid In3 In64; simp only; omega
    go_enter Try.func32, Try.ntmps32
    go_wp2_with (at_builtin; refine append_ext rfl _ _ rfl base _ l rfl (HO.out.below ((Below.refl _ _).alloc (Nat.le_refl _) _)) (at_, -1, to - at_) ⟨w.heap.size, 0, none⟩ rfl (ext_cells_new w (at_, -1, to - at_) _) HX3.out hl (Nat.le_trans HBs.out (by simp)) ?_; intro b6 d6 w6 ho6 bb6; have bb7 : Hid (Grew _ w6 (.slice a l.length c) (.slice b6 (l.length + 1) d6)) := bb6; have HO6 : Hid (OwnE _ _ _ _ _) := ho6; clear bb6 ho6; have V6 : Hid (Row _ _ _ _) := box_row HV.out HO.out HB.out ((Below.refl _ _).alloc (Nat.le_refl _) _) bb7.out; have k6 := V6.out.cell (j := 0) rfl; have f6 := V6.out.frozen 0)
    go_end0
    obtain ⟨r1, r2, r3⟩ := box_append HV.out HO.out HB.out ((Below.refl _ _).alloc (Nat.le_refl _) _) HO6.out bb7.out
    exact ⟨rfl, _, r1, by rw [HH.out]; exact r2, r3⟩
  · have HH : Hid (Ex.hole at_ to = []) := if_neg hc
    go_enter Try.func32, Try.ntmps32
    go_wp2
    go_end0
    exact ⟨rfl, _, HV.out, by rw [HH.out, List.append_nil]; exact HO.out, Turns.of (Below.refl _ _)⟩

/-- The variables of a look: the list, the sector that comes next, and the function that lays holes. -/
structure LookBox (O : Nat) (v0 : Int) (ps : List Ext) (S : Nat → Prop) (w : World) : Prop where
  ex : ∃ v, Row w O 22 [v] ∧ OwnE 24 w (O + 3) v (Ex.holes v0 ps) ∧ Row w (O + 1) 3 [.int .i64 (Ex.last v0 ps)] ∧ Row w (O + 1 + 1) 62 [.func (.func 32) #[] #[.pointer (some ⟨O + 1, 0, none⟩), .pointer (some ⟨O, 0, none⟩)]] ∧
    (∀ k, S k ↔ k = O ∨ k = O + 1 ∨ k = O + 1 + 1 ∨ v.ownBlock = some k) ∧ 0 ≤ Ex.last v0 ps ∧ Ex.last v0 ps ≤ 65536

set_option maxHeartbeats 4000000 in
theorem lookLayer (O : Nat) (v0 : Int) : Layer 33 #[.pointer (some ⟨O + 1 + 1, 0, none⟩), .pointer (some ⟨O, 0, none⟩), .pointer (some ⟨O + 1, 0, none⟩)] id (LookBox O v0) := by
  refine ⟨enters_of Try.func33 (by kernel_rfl) rfl, ?_, ?_, ?_⟩
  · rintro ps S w ⟨v, V, hO, VA, VH, hS, -⟩ k hk
    rcases (hS k).1 hk with rfl | rfl | rfl | h
    · exact V.lt
    · exact VA.lt
    · exact VH.lt
    · exact (hO.row.lt k h).2
  · rintro ps S w w' ⟨v, V, hO, VA, VH, hS, hb⟩ hk
    exact ⟨v, V.keep (hk _ ((hS _).2 (.inl rfl))), hO.keep1 (fun b e => hk b ((hS b).2 (.inr (.inr (.inr e))))), VA.keep (hk _ ((hS _).2 (.inr (.inl rfl)))), VH.keep (hk _ ((hS _).2 (.inr (.inr (.inl rfl))))), hS, hb⟩
  · rintro ps S w x ⟨v, V, hO, VA, VH, hS, hb1, hb2⟩ hB hx
    have hxo := hB.one x (by simp)
    have hsm := hB.pieces.small (x := x) (by simp)
    have hlast : x.1 + x.2.2 ≤ 65536 := by
      have h := hB.pieces.last
      rw [Ex.last_append] at h
      exact h
    obtain ⟨w0, hw0, V0, b0, z0⟩ := boxedRow w 24 [.int .i64 x.1, .int .i64 x.2.1, .int .i64 x.2.2]
    obtain ⟨d0, d1, d2⟩ := V0.three
    have B0 : Hid (Below w.heap.size w w0) := b0
    have hwl := VH.lt
    have hOl := hO.row.lt
    have HW : Hid (O + 1 + 1 < w.heap.size) := hwl
    have kH := (VH.below b0).cell (j := 0) rfl
    have HX3 : Hid (In3 x) := hx.in3
    have HE : Hid (In64 (x.1 + x.2.2)) := by unfold Hid In64; omega
    have HS : Hid _ := hS
    have hlen := Ex.holes_len ps v0
    have hpl := hB.pieces.len
    rw [List.length_append, List.length_singleton] at hpl
    have HLen : Hid ((Ex.holes v0 ps).length ≤ 200000) := by unfold Hid; omega
    have HC1 : Hid (Calls Try.prog 32 (#[.int .i64 x.1] ++ #[.pointer (some ⟨O + 1, 0, none⟩), .pointer (some ⟨O, 0, none⟩)]) w0 fun e w' => e = .returned (.tuple #[]) ∧ ∃ v', Row w' O 22 [v'] ∧ OwnE 24 w' (O + 3) v' (Ex.holes v0 ps ++ Ex.hole (Ex.last v0 ps) x.1) ∧ Turns (fun k => k = O ∨ v.ownBlock = some k) (fun k => k = O ∨ v'.ownBlock = some k) w0 w') :=
      layHole_u w0 O (O + 1) (O + 3) v _ _ x.1 (V.below b0) (hO.below b0) (VA.below b0) (by omega) (by omega) hb1 hb2 (by omega) (by omega) (by omega)
    have HVA : Hid (Row w0 (O + 1) 3 [.int .i64 (Ex.last v0 ps)]) := VA.below b0
    have HVH : Hid (Row w0 (O + 1 + 1) 62 [.func (.func 32) #[] #[.pointer (some ⟨O + 1, 0, none⟩), .pointer (some ⟨O, 0, none⟩)]]) := VH.below b0
    have HVX : Hid (Row w0 w.heap.size 24 [.int .i64 x.1, .int .i64 x.2.1, .int .i64 x.2.2]) := V0
    have HNO : Hid (∀ k, (k = O + 1 ∨ k = O + 1 + 1 ∨ k = w.heap.size) → ¬ (k = O ∨ v.ownBlock = some k)) := by
      rintro k hk (rfl | h)
      · omega
      · have := hOl k h; omega
    have HSn : Hid _ := Ex.holes_snoc ps v0 x
    have HLs : Hid (Ex.last v0 (ps ++ [x]) = x.1 + x.2.2) := by unfold Hid; rw [Ex.last_append]; rfl
    have HXB : Hid (0 ≤ x.1 + x.2.2 ∧ x.1 + x.2.2 ≤ 65536) := ⟨by omega, hlast⟩
    have eg := enters_of Try.func32 (by kernel_rfl) rfl
    have HZ0 : Hid (w0.heap.size = w.heap.size + 1) := z0
    have HOl : Hid (∀ k, v.ownBlock = some k → k < w.heap.size) := fun k e => (hOl k e).2
    clear V hO VA VH hS hB V0 b0 hOl hlen hpl hsm hlast hxo hx z0
    go_enter Try.func33, Try.ntmps33
    go_wp2_with fail
    refine Calls.mono HC1.out ?_
    rintro e w1 ⟨rfl, v1, W1, O1, T1⟩
    obtain ⟨a1, c1, hv1, -, -⟩ := O1.slice
    subst hv1
    have HO1 : Hid (OwnE 24 w1 (O + 3) (.slice a1 (Ex.holes v0 ps ++ Ex.hole (Ex.last v0 ps) x.1).length c1) (Ex.holes v0 ps ++ Ex.hole (Ex.last v0 ps) x.1)) := O1
    have HW1 : Hid (Row w1 O 22 [.slice a1 (Ex.holes v0 ps ++ Ex.hole (Ex.last v0 ps) x.1).length c1]) := W1
    have HA1 : Hid (Row w1 (O + 1) 3 [.int .i64 (Ex.last v0 ps)]) := T1.row HVA.out (HNO.out _ (.inl rfl))
    have HH1 : Hid (Row w1 (O + 1 + 1) 62 [.func (.func 32) #[] #[.pointer (some ⟨O + 1, 0, none⟩), .pointer (some ⟨O, 0, none⟩)]]) := T1.row HVH.out (HNO.out _ (.inr (.inl rfl)))
    have HX1 : Hid (Row w1 w.heap.size 24 [.int .i64 x.1, .int .i64 x.2.1, .int .i64 x.2.2]) := T1.row HVX.out (HNO.out _ (.inr (.inr rfl)))
    have HT1 : Hid (Turns S (fun k => k = O ∨ k = O + 1 ∨ k = O + 1 + 1 ∨ (Value.slice a1 (Ex.holes v0 ps ++ Ex.hole (Ex.last v0 ps) x.1).length c1).ownBlock = some k) w w1) :=
      ((Turns.of B0.out).trans T1).widen (fun k h => (HS.out k).2 (h.elim .inl (fun h => .inr (.inr (.inr h))))) (fun k h => by
        rcases h with h | h | h | h
        · exact .inl (.inl h)
        · exact .inr ((HS.out k).2 (.inr (.inl h)))
        · exact .inr ((HS.out k).2 (.inr (.inr (.inl h))))
        · exact .inl (.inr h))
    have HLen1 : Hid ((Ex.holes v0 ps ++ Ex.hole (Ex.last v0 ps) x.1).length ≤ 1000000) := by
      unfold Hid
      rw [List.length_append]
      have h1 := HLen.out
      unfold Hid at h1
      have h2 := Ex.hole_len (Ex.last v0 ps) x.1
      omega
    have HZ1 : Hid (O + 3 ≤ w1.heap.size) := by
      have h1 := T1.size
      have h2 := B0.out.size
      have h3 := HW.out
      unfold Hid at h3 ⊢
      omega
    have HNX : Hid (∀ k, (k = O + 1 ∨ k = O + 1 + 1 ∨ k = w.heap.size) → ¬ (k = O ∨ (Value.slice a1 (Ex.holes v0 ps ++ Ex.hole (Ex.last v0 ps) x.1).length c1).ownBlock = some k)) := by
      have h3 := HW.out
      have h4 := HZ0.out
      unfold Hid at h3 h4
      rintro k hk (rfl | h)
      · omega
      · have h5 := (O1.row.lt k h).1
        rcases hk with rfl | rfl | rfl
        · omega
        · omega
        · rcases T1.place _ (.inr h) with (h6 | h6) | h6
          · omega
          · have := HOl.out _ h6; omega
          · omega
    clear d0 d1 d2 kH O1 W1 T1 HC1
    generalize hG : Ex.holes v0 ps ++ Ex.hole (Ex.last v0 ps) x.1 = G at *
    have kO := HW1.out.cell (j := 0) rfl
    obtain ⟨d0, d1, d2⟩ := HX1.out.three
    go_wp2_with (at_builtin; refine append_ext rfl _ _ rfl (O + 3) _ G rfl (HO1.out.below ((Below.refl _ _).alloc (Nat.le_refl _) _)) x ⟨w1.heap.size, 0, none⟩ rfl (ext_cells_new w1 x _) HX3.out HLen1.out (Nat.le_trans HZ1.out (by simp)) ?_; intro b6 d6 w6 ho6 bb6; have bb7 : Hid (Grew _ w6 (.slice a1 G.length c1) (.slice b6 (G.length + 1) d6)) := bb6; have HO6 : Hid (OwnE _ _ _ _ _) := ho6; clear bb6 ho6; have V6 : Hid (Row _ _ _ _) := box_row HW1.out HO1.out (Nat.lt_add_of_pos_right (by decide)) ((Below.refl _ _).alloc (Nat.le_refl _) _) bb7.out; have k6 := V6.out.cell (j := 0) rfl; have f6 := V6.out.frozen 0; have BA : Hid _ := box_append HW1.out HO1.out (Nat.lt_add_of_pos_right (by decide)) ((Below.refl _ _).alloc (Nat.le_refl _) _) HO6.out bb7.out; obtain ⟨w7, hw7⟩ : ∃ w7, w6.setCell ⟨O, 0, none⟩ (.slice b6 (G.length + 1) d6) = w7 := ⟨_, rfl⟩; rw [hw7] at BA; have HX7 : Hid (Row w7 w.heap.size 24 [.int .i64 x.1, .int .i64 x.2.1, .int .i64 x.2.2]) := BA.out.2.2.row HX1.out (HNX.out _ (.inr (.inr rfl))); have HA7 : Hid (Row w7 (O + 1) 3 [.int .i64 (Ex.last v0 ps)]) := BA.out.2.2.row HA1.out (HNX.out _ (.inl rfl)); have HH7 : Hid (Row w7 (O + 1 + 1) 62 [.func (.func 32) #[] #[.pointer (some ⟨O + 1, 0, none⟩), .pointer (some ⟨O, 0, none⟩)]]) := BA.out.2.2.row HH1.out (HNX.out _ (.inr (.inl rfl))); obtain ⟨y0, y1, y2⟩ := HX7.out.three)
    refine (virtEnd_u _ x HE.out).mono ?_
    rintro e w8 ⟨rfl, b8⟩
    have HA8 : Hid (Row w8 (O + 1) 3 [.int .i64 (Ex.last v0 ps)]) := HA7.out.below b8
    have kA := HA8.out.cell (j := 0) rfl
    have fA := HA8.out.frozen 0
    have B8 : Hid (Below w7.heap.size w7 w8) := b8
    clear b8 k6 f6 y0 y1 y2 d0 d1 d2 kO hw7
    go_wp2
    go_end0
    obtain ⟨R1, R2, R3⟩ := BA.out
    have hne : ∀ k, k ≠ O + 1 → (w8.setCell ⟨O + 1, 0, none⟩ (.int .i64 (x.1 + x.2.2))).heap[k]? = w8.heap[k]? := fun k hk => Below.heap_setCell _ _ _ _ (fun h => hk h)
    refine ⟨rfl, fun k => k = O ∨ k = O + 1 ∨ k = O + 1 + 1 ∨ (Value.slice b6 (G.length + 1) d6).ownBlock = some k, ⟨_, (R1.below B8.out).keep (hne O (by omega)), ?_, ?_, (HH7.out.below B8.out).keep (hne _ (by omega)), fun k => Iff.rfl, ?_⟩, ?_⟩
    · have h := (R2.below B8.out).keep1 (w' := w8.setCell ⟨O + 1, 0, none⟩ (.int .i64 (x.1 + x.2.2))) (fun b e => hne b (fun hb => by have := (R2.row.lt b e).1; omega))
      rw [show Ex.holes v0 (ps ++ [id x]) = G ++ [x] from HSn.out]
      exact h
    · have h := HA8.out.set 0 (.int .i64 (x.1 + x.2.2))
      show Row _ (O + 1) _ [.int .i64 (Ex.last v0 (ps ++ [x]))]
      rw [HLs.out]
      exact h
    · show 0 ≤ Ex.last v0 (ps ++ [x]) ∧ Ex.last v0 (ps ++ [x]) ≤ 65536
      rw [HLs.out]
      exact HXB.out
    · have t2 : Turns (fun k => k = O ∨ k = O + 1 ∨ k = O + 1 + 1 ∨ (Value.slice a1 G.length c1).ownBlock = some k) (fun k => k = O ∨ k = O + 1 ∨ k = O + 1 + 1 ∨ (Value.slice b6 (G.length + 1) d6).ownBlock = some k) w1 w7 :=
        R3.widen (fun k h => h.elim .inl (fun h => .inr (.inr (.inr h)))) (fun k h => by
          rcases h with h | h | h | h
          · exact .inl (.inl h)
          · exact .inr (.inr (.inl h))
          · exact .inr (.inr (.inr (.inl h)))
          · exact .inl (.inr h))
      refine ((HT1.out.trans t2).trans (Turns.of B8.out)).trans ⟨rfl, rfl, rfl, by simp [World.setCell], fun k hk hn => hne k (fun h => hn (.inr (.inl h))), fun k hk => .inl hk⟩

end Go.Proofs.Ytlpmfbinemmikaa
