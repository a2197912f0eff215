/-
  Facts that the proof rests on, part 9. Conditions: those that each of them names.
-/
import Derived.Deep.RegionHeld
import Derived.Test.YtoophkmnppoppaaM07
namespace Go.Proofs.Ytoophkmnppoppaa
set_option maxHeartbeats 16000000
set_option linter.unusedVariables false
open Go
theorem qEj {P : Program} {l n : Nat} {ops : Array Oper} {Q : Exit → Go.Act → World → Prop} (hd : ∀ (i : Nat) (o : Oper), ops[i]? = some o → ∀ c, o.op ≠ .defer c) (hL : ¬ LetsOut Q) :
 ∀ (idx : List Nat) (a : Go.Act) (w : World), wpOps P ops Q idx a w → wpOpsIn (Fence.wide.inRound l) n P ops Q idx a w
 | [], a, w, h => h
 | i :: rest, a, w, h => by
   have ih := qEj (P := P) (l := l) (n := n) hd hL rest
   unfold wpOps at h
   unfold wpOpsIn
   cases ho : ops[i]? with
   | none =>
     rw [ho] at h
     exact ih a w h
   | some o =>
     rw [ho] at h
     simp only at h ⊢
     by_cases hw : Region.wanted o (yielded ops a.tmps) = true
     · rw [if_pos hw] at h ⊢
       replace h := h.resolve_right (fun k => hL k.2)
       refine ⟨fun f _ => trivial, ?_⟩
       rw [Oper.semAt_eq _ _ _ (hd i o ho)]
       unfold Oper.wp at h
       generalize (execOp a.eval o).run P w = r at h
       cases r with
       | ok x w' =>
         cases x <;> first | exact ih _ _ h | exact h.elim | skip
         · rename_i f args
           refine ⟨(fun h => by cases h), CallsIn.inRound l ((callsIn_wide (n := n - 1)).2 (Calls.mono h ?_))⟩
           intro e w'' he
           cases e with
           | returned v => exact ih _ _ he
           | panicked ch => exact he
           | outgrown => exact he
         all_goals
          refine ⟨(fun h => by cases h), fun c cs hroom => ?_⟩
          obtain ⟨v, w'', hR, hs⟩ := h c cs
          exact ⟨v, w'', ih _ _ hR, stepsIn_wide.2 hs⟩
       | halt x w' =>
         cases x <;> first | exact h | exact h.elim
     · rw [if_neg hw] at h ⊢
       exact ⟨fun f _ => trivial, ih _ _ h⟩
theorem qEZ {P : Program} {l n : Nat} {ops : Array Oper} {Q : Exit → Go.Act → World → Prop} {S : World → Prop} {id : Nat} {a : Go.Act} {w : World} (hd : ∀ (i : Nat) (o : Oper), ops[i]? = some o → ∀ c, o.op ≠ .defer c) (hL : ¬ LetsOut Q) (hm : P.follows .mixedOrders = true) (hS : S w.drew)
 (h : S w.drew → wpAnyH P .any ops Q S ops.size (Array.replicate ops.size false) a w.drew) : (Code.region id ops true).wpIn (Fence.wide.inRound l) n P Q a w :=
 wpIn_region_draw fun t => by
  simp only [Region.schedule, hm, Bool.true_or, if_true]
  exact qEj hd hL _ _ _ (wpAny_sound ops.size t _ a _ (wpAny_of_held _ _ _ _ (h hS)))
end Go.Proofs.Ytoophkmnppoppaa
namespace Go.Proofs.Ytoophkmnppoppaa
set_option maxHeartbeats 16000000
open Go.RowKit Go.Shelf
set_option linter.unusedVariables false
attribute [local go_sem] Oper.semAt_some
theorem qCz : (Try.prog.info? 26).map (fun i => (i.zero, i.size, i.bytes)) = some (some (.slice none 0 0), 1, 24) := by kernel_rfl
theorem plain_ops {ops : Array Oper} (h : ops.toList.all (fun o => match o.op with | .defer _ => false | _ => true) = true) : ∀ (i : Nat) (o : Oper), ops[i]? = some o → ∀ c, o.op ≠ .defer c := by
 intro i o ho c e
 rw [List.all_eq_true] at h
 have hm : o ∈ ops.toList := by
  rw [Array.mem_toList_iff]
  exact Array.mem_of_getElem? ho
 have := h o hm
 rw [e] at this
 cases this
theorem q6J {w w' : World} {base e s n : Nat} {v : Value} {xs : List Value} (h : w.ownsRow base e s v n xs) (hk : ∀ k, v.ownBlock = some k → k < w.heap.size → (∃ o : Obj, w.heap[k]? = some o ∧ o.isCells = true) → w'.heap[k]? = w.heap[k]?) : w'.ownsRow base e s v n xs := by
 obtain ⟨h1, h2⟩ := h
 refine ⟨h1, ?_⟩
 rcases h2 with h2 | ⟨g, cap, cur, hv, hgb, hh, r⟩
 · exact .inl h2
 · refine .inr ⟨g, cap, cur, hv, hgb, ?_, r⟩
   rw [hk g (by rw [hv]; rfl) (Array.getElem?_eq_some_iff.1 hh).1 ⟨_, hh, rfl⟩]
   exact hh
def q8j {z : Nat → Slc} {len : Nat} (d : Dsk) (pre : List (Plc z len)) (j : Nat) : Sec := if pre.any (fun x => decide (x.1 = j)) = true then d.getD j [] else []
theorem fill_nil {z : Nat → Slc} {len : Nat} (d : Dsk) (j : Nat) : q8j d ([] : List (Plc z len)) j = [] := rfl
theorem fill_push {z : Nat → Slc} {len : Nat} (d : Dsk) (pre : List (Plc z len)) (x : Plc z len) (j : Nat) : q8j d (pre ++ [x]) j = if x.1 = j then d.getD j [] else q8j d pre j := by
 unfold q8j
 rw [List.any_append]
 by_cases h : x.1 = j
 · rw [if_pos h, if_pos (by simp [h])]
 · rw [if_neg h]
   simp [h]
theorem fill_end {z : Nat → Slc} {len : Nat} {d : Dsk} (hn : d.length = len) (hz : ∀ (j : Nat) (hj : j < d.length), (z j).2.1 = d[j].length) {j : Nat} (hj : j < d.length) : q8j d (writ z len len (Nat.le_refl _)) j = d[j] := by
 have e : d.getD j [] = d[j] := by rw [List.getD_eq_getElem?_getD, List.getElem?_eq_getElem hj]; rfl
 unfold q8j
 split
 · exact e
 · rename_i h
   by_cases h0 : (z j).2.1 = 0
   · rw [hz j hj] at h0; exact (List.length_eq_zero_iff.1 h0).symm
   · exfalso
     apply h
     refine List.any_eq_true.2 ⟨⟨j, by omega, h0⟩, (qIj z len len (Nat.le_refl _) _).2 (by show j < len; omega), by simp⟩
structure DiskAt (w : World) (base g : Nat) (vs : List Value) (d : Dsk) : Prop where
 row : Row w g 26 vs
 len : vs.length = d.length
 each : ∀ (j : Nat) (h : j < vs.length) (h' : j < d.length), w.ownsRow base 5 1 vs[j] d[j].length (cellsOf d[j])
 few : ∀ s ∈ d, s.length ≤ 140737488351232
structure CopyI {z : Nat → Slc} {len : Nat} (w W0 : World) (bx g n : Nat) (d : Dsk) (pre : List (Plc z len)) (W : World) : Prop where
 box : Row W bx 22 [.slice (some ⟨g, 0, none⟩) n n]
 row : ∃ vs : List Value, vs.length = n ∧ Row W g 26 vs ∧ ∀ (j : Nat) (h : j < vs.length), W.ownsRow W0.heap.size 5 1 vs[j] (q8j d pre j).length (cellsOf (q8j d pre j))
 below : Below w.heap.size w W
 size : W0.heap.size ≤ W.heap.size
theorem CopyI.ownFrom {z : Nat → Slc} {len : Nat} {w W0 : World} {bx g n : Nat} {d : Dsk} (hw : w.heap.size ≤ W0.heap.size) : OwnFrom W0.heap.size (CopyI (z := z) (len := len) w W0 bx g n d) := by
 intro pre A B row hs hg hr
 have nr : ∀ (k : Nat) (o : Obj), A.heap[k]? = some o → o.isCells = true → B.heap[k]? = A.heap[k]? := fun k o h1 h2 => hg.block k (Array.getElem?_eq_some_iff.1 h1).1 (fun e => by
  obtain ⟨-, o', h3, h4⟩ := hr k e.symm
  rw [h1] at h3
  cases h3
  rw [h2] at h4
  cases h4)
 obtain ⟨vs, h1, h2, h3⟩ := hs.row
 exact ⟨hs.box.keep (nr _ _ hs.box.eq rfl), ⟨vs, h1, h2.keep (nr _ _ h2.eq rfl), fun j h => q6J (h3 j h) (fun k _ _ ⟨o, ho, hc⟩ => nr k o ho hc)⟩,
  hs.below.grown hg (by have := hs.size; omega) (fun k e => by have := (hr k e).1; omega), Nat.le_trans hs.size hg.size⟩
theorem CopyI.more {z : Nat → Slc} {len : Nat} {w W0 : World} {Bs b bx g n : Nat} {d : Dsk} {pre : List (Plc z len)} {W w5 : World} (h : CopyI w W0 bx g n d pre W) (hb : bx ≠ g ∧ g < W0.heap.size ∧ w.heap.size ≤ g) {vs : List Value} (hrow : Row W g 26 vs) (hl : vs.length = n)
 (how : ∀ (j : Nat) (h : j < vs.length), W.ownsRow W0.heap.size 5 1 vs[j] (q8j d pre j).length (cellsOf (q8j d pre j))) {x : Plc z len} (hx : x.1 < vs.length) (b5 : Below W.heap.size W w5) {v : Value} {X : Sec} (ho : w5.ownsRow W.heap.size 5 1 v X.length (cellsOf X)) (hX : d.getD x.1 [] = X) (hk : Bs ≠ g ∧ b ≠ g ∧ Bs < W.heap.size ∧ b < W.heap.size) :
 KeepsFrom W0.heap.size W (w5.setCell ⟨g, x.1, none⟩ v) ∧ KB Bs b W (w5.setCell ⟨g, x.1, none⟩ v) ∧ CopyI w W0 bx g n d (pre ++ [x]) (w5.setCell ⟨g, x.1, none⟩ v) := by
 have ko : ∀ k, k ≠ g → (w5.setCell ⟨g, x.1, none⟩ v).heap[k]? = w5.heap[k]? := fun k hk => heap_setCell_other w5 ⟨g, x.1, none⟩ k v (fun e => hk e)
 refine ⟨⟨by rw [World.size_setCell]; exact b5.size, fun k o hB hk ho => by rw [ko k (by omega), b5.block k (Array.getElem?_eq_some_iff.1 hk).1]; exact hk⟩,
  fun p hp => ?_, (h.box.below b5).keep (ko _ hb.1), ⟨vs.set x.1 v, by rw [List.length_set]; exact hl, (hrow.below b5).set _ _, fun j hj => ?_⟩, ?_, ?_⟩
 · have hpg : p.block ≠ g ∧ p.block < W.heap.size := by
    rcases hp with e | e
    · rw [e]; exact ⟨hk.1, hk.2.2.1⟩
    · rw [e]; exact ⟨hk.2.1, hk.2.2.2⟩
   rw [World.cell?_of_block (w := w5) (ko _ hpg.1)]
   exact b5.cell hpg.2
 · rw [List.length_set] at hj
   rw [fill_push]
   by_cases e : x.1 = j
   · subst e
     rw [if_pos rfl, hX, List.getElem_set_self]
     exact q6J (qAj ho h.size) (fun k hkk _ _ => ko k (fun e => by rw [e] at hkk; have := (ho.lt _ hkk).1; have := h.size; have := hb.2.1; omega))
   · rw [if_neg e, List.getElem_set_ne e]
     exact q6J (how j hj) (fun k hk hl _ => by
      have h1 := ((how j hj).lt k hk)
      rw [ko k (by omega), b5.block k h1.2])
 · exact (h.below.trans (b5.mono (h.below.size))).setCell (p := ⟨g, x.1, none⟩) hb.2.2 _
 · rw [World.size_setCell]; exact Nat.le_trans h.size b5.size
theorem CopyI.disk {z : Nat → Slc} {w W0 : World} {bx g n : Nat} {d : Dsk} {W : World} (h : CopyI w W0 bx g n d (writ z n n (Nat.le_refl _)) W) (hn : d.length = n) (hz : ∀ (j : Nat) (hj : j < d.length), (z j).2.1 = d[j].length ∧ d[j].length ≤ 140737488351232) (hg : g + 1 ≤ W0.heap.size) : ∃ vs, DiskAt W (g + 1) g vs d := by
 obtain ⟨vs, h1, h2, h3⟩ := h.row
 refine ⟨vs, h2, by omega, fun j hj hj' => ?_, fun s hs => ?_⟩
 · have := h3 j hj
   rw [fill_end hn (fun j hj => (hz j hj).1) hj'] at this
   exact qAj this hg
 · obtain ⟨j, hj, rfl⟩ := List.mem_iff_getElem.1 hs
   exact (hz j hj).2
set_option maxRecDepth 100000 in
theorem q2j (w : World) (P : Nat → Prop) (a : Option Addr) (n c : Nat) (d : Dsk) (hD : rSectors.rd w P [.slice a n c] d) :
 Calls Try.prog 46 #[.slice a n c] w fun e w' => ∃ g vs, e = .returned (.slice (some ⟨g, 0, none⟩) n n) ∧ w.heap.size ≤ g ∧ (∀ k, k < g + 1 → k < w'.heap.size) ∧ DiskAt w' (g + 1) g vs d ∧ Below w.heap.size w w' := by
 obtain ⟨b0, off, z, hb, hcells, hread, hdl, hn⟩ := q9J hD
 have hn24 : n * 24 ≤ 140737488351232 := (q0Q hD).2.2.2
 obtain ⟨b, hbd⟩ : ∃ b, b = if 0 < n then b0 else 0 := ⟨_, rfl⟩
 have ha : 0 < n → a = some ⟨b, off, none⟩ := fun h => by rw [hbd, if_pos h]; exact (hb h).1
 have hbl : 0 < n → b < w.heap.size := fun h => by rw [hbd, if_pos h]; exact (hb h).2.2
 have hb1 : b < w.heap.size + 1 := by
  by_cases h : 0 < n
  · have := hbl h; omega
  · rw [hbd, if_neg h]; omega
 have hcl : ∀ j, j < n → w.cell? ⟨b, off + j, none⟩ = some (slV (z j)) := fun j hj => by rw [hbd, if_pos (by omega)]; exact hcells j hj
 have HA : Hid _ := ha
 have HBl : Hid _ := hbl
 have HB1 : Hid _ := hb1
 have HCl : Hid _ := hcl
 have HRd : Hid _ := hread
 have HDl : Hid (d.length = n) := hdl
 clear hD hb hcells hbd ha hbl hb1 hcl hread hdl b0
 refine (callsIn_wide (n := 3)).1 (callsIn_of_wp_marks Try.func46 rfl trivial ?_ rfl)
 simp only [Try.ntmps46, List.size_toArray, List.length_cons, List.length_nil, Nat.reduceAdd, Nat.reduceSub, Array.replicate_succ, Array.replicate_zero, List.push_toArray, List.append_toArray, List.nil_append, List.cons_append]
 refine wpIn_wide.2 ?_
 go_wp2_with first
  | (at_make; refine qBq _ rfl _ _ 22 rfl 26 (.slice none 0 0) 24 Try.underlying22 qCz rfl n _ rfl rfl rfl (by omega) (by omega) ?_; intro w1 HR1 b1 z1)
  | (go_at_call 55; refine (qEz _ _ _ _).mono ?_; rintro e w' ⟨rfl, rfl⟩)
 obtain ⟨w2, hw2, V2, b2, z2⟩ := q0q w1 22 [.slice (some ⟨w.heap.size, 0, none⟩) n n]
 rw [hw2]
 obtain ⟨w3, hw3, V3, b3, z3⟩ := q0q w2 22 [.slice a n c]
 rw [hw3]
 have e1 : w1.heap.size = w.heap.size + 1 := z1
 have e2 : w2.heap.size = w.heap.size + 1 + 1 := by omega
 have e3 : w3.heap.size = w.heap.size + 1 + 1 + 1 := by omega
 rw [e1] at V2
 rw [e2] at V3
 have hW3 : Below w.heap.size w w3 := on (on b1 b2) b3
 have hG0 : CopyI (z := z) (len := n) w w3 (w.heap.size + 1) w.heap.size n d [] w3 := ⟨V2.below b3, ⟨List.replicate n (.slice none 0 0), by simp, (HR1.out.below b2).below b3, fun j h => by rw [fill_nil, List.getElem_replicate]; exact own_nil _ _⟩, hW3, Nat.le_refl _⟩
 have HG0 : Hid _ := hG0
 have HV3 : Hid _ := V3
 have HW3 : Hid _ := hW3
 have HE3 : Hid (w3.heap.size = w.heap.size + 1 + 1 + 1) := e3
 have hBs : w.heap.size + 1 + 1 < w3.heap.size := by omega
 have hb3 : b < w3.heap.size := by have := HB1.out; unfold Hid at this; omega
 have HBs : Hid _ := hBs
 have HB3 : Hid _ := hb3
 clear hG0 V2 V3 b1 b2 b3 z1 z2 z3 hw2 hw3 hW3 e1 e2 e3 HR1
 refine (wpIn_wide (n := 3)).1 ?_
 refine wpIn_rangeFunc_ownH (F := Fence.wide) (n := 3) rfl (by decide) (gf := 62) (lb := #[.pointer (some ⟨w.heap.size + 1 + 1, 0, none⟩)]) rfl trivial (enters_of Try.func62 (by kernel_rfl) rfl)
  (q7z 2 (by decide) (w.heap.size + 1 + 1) b off n c a HA.out z (by omega) (fun j hj => by have h := HRd.out j (by rw [HDl.out]; exact hj); rw [h.2.1]; omega) w3 HBs.out HB3.out (HV3.out.cell (j := 0) rfl) (fun j hj => (HW3.out.cell (p := ⟨b, off + j, none⟩) (HBl.out (by omega))).trans (HCl.out j hj))) KB.trans (KB.put HBs.out HB3.out) (Below.refl _ _) (fun _ => rfl)
  (CopyI w w3 (w.heap.size + 1) w.heap.size n d) (fun _ _ _ => False) (CopyI.ownFrom HW3.out.size) (fun _ _ _ _ _ hs _ _ => hs) HG0.out
  (fun x a' _ => a' = { tmps := #[.slice a n c, undef, .slice none 0 0, .pointer (some ⟨w.heap.size + 1, 0, none⟩), .int .i64 (x.1 : Int), .slice (z x.1).1 (z x.1).2.1 (z x.1).2.2, .slice a n c, .int .i64 (n : Int), .slice (some ⟨w.heap.size, 0, none⟩) n n, .slice a n c, .func (.func 62) #[] #[.pointer (some ⟨w.heap.size + 1 + 1, 0, none⟩)], .int .i64 (x.1 : Int), .slice (z x.1).1 (z x.1).2.1 (z x.1).2.2, undef, undef, undef, undef, undef, undef], defers := [] }) (fun _ _ _ _ _ _ hs _ _ => hs) ?assign ?body ?done ?stop
 case assign =>
  intro ll pre x W K hI hK
  simp only [encW]
  gi_wp2
  exact hK _ _ (KeepsFrom.refl _ _) (KB.refl _ _ _) hI rfl
 case body =>
  rintro ll pre x a' W hl - hG rfl hlt
  have HG : Hid _ := hG
  obtain ⟨vs, hvl, hvr, hvo⟩ := hG.row
  obtain ⟨hxn, hx0⟩ := id x.2
  have hxd : x.1 < d.length := by rw [HDl.out]; exact hxn
  obtain ⟨q1, q2, q3⟩ := HRd.out x.1 hxd
  obtain ⟨X, hX⟩ : ∃ X, X = d[x.1] := ⟨_, rfl⟩
  rw [← hX] at q1 q2 q3
  have HXd : Hid (d.getD x.1 [] = X) := by unfold Hid; rw [hX, List.getD_eq_getElem?_getD, List.getElem?_eq_getElem hxd]; rfl
  have HXl : Hid (X.length = (z x.1).2.1) := q2.symm
  have HXm : Hid ((z x.1).2.1 ≤ 140737488351232) := by unfold Hid; omega
  have HXB : Hid (IsB W (z x.1).1 (z x.1).2.1 X) := (q1Q (Rep.below q1 hG.below)).1
  have HVx : Hid (x.1 < vs.length) := by unfold Hid; omega
  have HVl : Hid (vs.length = n) := hvl
  have HRow : Hid _ := hvr
  have HOw : Hid _ := hvo
  have HBox : Hid (W.drew.cell? ⟨w.heap.size + 1, 0, none⟩ = some (.slice (some ⟨w.heap.size, 0, none⟩) n n)) := hG.box.cell (j := 0) rfl
  have HBoxS : Hid (∀ (w5 : World) (v : Value), w5.cell? ⟨w.heap.size + 1, 0, none⟩ = some (.slice (some ⟨w.heap.size, 0, none⟩) n n) → (w5.setCell ⟨w.heap.size, x.1, none⟩ v).cell? ⟨w.heap.size + 1, 0, none⟩ = some (.slice (some ⟨w.heap.size, 0, none⟩) n n)) := fun w5 v h => by rw [World.cell?_setCell_other _ _ _ _ (by simp)]; exact h
  have HBx : Hid (w.heap.size + 1 ≠ w.heap.size) := by unfold Hid; omega
  have HGb : Hid (w.heap.size < w3.heap.size ∧ w.heap.size ≤ w.heap.size) := by have := HE3.out; unfold Hid at *; omega
  have HKg : Hid (w.heap.size + 1 + 1 ≠ w.heap.size ∧ b ≠ w.heap.size ∧ w.heap.size + 1 + 1 < W.heap.size ∧ b < W.heap.size) := by
   have h1 := HE3.out
   have h2 := hG.size
   have h3 := HBl.out (by omega)
   unfold Hid at *
   omega
  have hxz : ((x.1 : Nat) : Int) < (n : Int) := by omega
  have hxm : (z x.1).2.1 ≤ 140737488351232 := HXm.out
  clear hG hvl hvr hvo q1 q2 q3 hX hl hlt hx0 hxd
  gi_wp2_with fail
  refine qEZ (S := (fun w' : World => w'.cell? ⟨w.heap.size + 1, 0, none⟩ = some (.slice (some ⟨w.heap.size, 0, none⟩) n n))) (plain_ops (by kernel_rfl)) (by rintro ⟨_, _, h⟩; exact h) (by kernel_rfl) HBox.out (fun hH => ?_)
  refine tkM 0 _ rfl rfl ?_; simp only [sz, ss]
  refine tkM 1 _ rfl rfl ?_; simp only [sz, ss]
  refine tkM 2 _ rfl rfl ?_; simp only [sz, ss]
  refine r1L 3 rfl fun K hK => ?_
  · go_simp
    go_at_call 60
    refine Calls.mono (clone_u W.drew (z x.1).1 (z x.1).2.1 (z x.1).2.2 X (HXB.out.below (Below.refl _ _).drew) (by have := HXm.out; omega)) ?_
    rintro e w5 ⟨a5, c5, rfl, ho5, bd5⟩
    have b5 : Below W.heap.size W w5 := (Below.refl _ _).drew.trans bd5
    have HO5 : Hid (w5.ownsRow W.heap.size 5 1 (.slice a5 (z x.1).2.1 c5) (z x.1).2.1 (cellsOf X)) := ho5
    have B5 : Hid _ := b5
    have S1 := (HG.out.box.below b5).cell (j := 0) rfl
    have c6 := (HRow.out.below b5).cell (j := x.1) (List.getElem?_eq_getElem HVx.out)
    have f6 := (HRow.out.below b5).frozen x.1
    obtain ⟨v5, hv5⟩ : ∃ v5, v5 = Value.slice a5 (z x.1).2.1 c5 := ⟨_, rfl⟩
    rw [← hv5] at HO5 ⊢
    clear bd5 b5 ho5
    go_simp
    refine hK.out _ _ ?_ (fun hH => ?_)
    · try dsimp only
      exact S1
    clear hK K
    refine tkM 4 _ rfl rfl ?_; simp only [sz, ss]
    refine r1L 5 rfl fun K hK => ?_
    · go_simp
      refine hK.out _ _ ?_ (fun hH => ?_)
      · try dsimp only
        exact HBoxS.out w5 _ S1
      clear hK K
      refine wpAnyH_done (by kernel_rfl) ?_ _
      clear hH
      exact HG.out.more (by have := HBx.out; have := HGb.out; unfold Hid at *; omega) HRow.out HVl.out HOw.out HVx.out B5.out (by rw [HXl.out, ← hv5]; exact HO5.out) HXd.out HKg.out
 case done =>
  rintro D xs W hD rfl hG hdf
  have hG2 := (CopyI.ownFrom (z := z) (len := n) (bx := w.heap.size + 1) (g := w.heap.size) (n := n) (d := d) HW3.out.size).putObj (.deferred none) hG hD hdf rfl
  obtain ⟨vs, hvs⟩ := hG2.disk HDl.out (fun j hj => ⟨(HRd.out j hj).2.1, (HRd.out j hj).2.2⟩) (by have := HE3.out; unfold Hid at this; omega)
  have q0 := hG.box.cell (j := 0) rfl
  have HV : Hid _ := hvs
  have HB : Hid (Below w.heap.size w (W.putObj D (.deferred none))) := hG2.below
  have HSz : Hid (∀ k, k < w.heap.size + 1 → k < (W.putObj D (.deferred none)).heap.size) := fun k hk => by have h1 := hG2.size; have h2 := HE3.out; unfold Hid at *; omega
  have HDf : Hid _ := hdf
  clear hG hG2 hvs hdf hD
  go_wp2
  refine ⟨by simp, .inl ⟨_, _, rfl, run_takeDeferred HDf.out, ?_⟩⟩
  refine ⟨.slice (some ⟨w.heap.size, 0, none⟩) n n, by simp [results, Try.f46, go_sem], w.heap.size, vs, rfl, Nat.le_refl _, HSz.out, HV.out, HB.out⟩
 case stop =>
  intro D c pre W hD hp hf
  exact hf.elim
theorem qFx {n : Nat} {A B : World} (h : Below A.heap.size A B) : KeepsFrom n A B := ⟨h.size, fun k o _ hk _ => (h.block k (Array.getElem?_eq_some_iff.1 hk).1).trans hk⟩
structure LookI {z : Nat → Slc} {len : Nat} (w W0 : World) (bx : Nat) (d : Dsk) (pre : List (Plc z len)) (W : World) : Prop where
 box : Row W bx 4 [.bool false]
 good : ∀ x ∈ pre, Mo.okSec (d.getD x.1 []) = true
 below : Below w.heap.size w W
 size : W0.heap.size ≤ W.heap.size
structure LookX {z : Nat → Slc} {len : Nat} (w W0 : World) (bx : Nat) (d : Dsk) (pre : List (Plc z len)) (W : World) : Prop where
 box : Row W bx 4 [.bool false]
 bad : ∃ x : Plc z len, Mo.okSec (d.getD x.1 []) = false
 below : Below w.heap.size w W
 size : W0.heap.size ≤ W.heap.size
theorem qAz {A B : World} {B0 : Nat} {row : Option Nat} (hg : A.grownBy B row) (hr : ∀ r, row = some r → B0 ≤ r ∧ ∃ o : Obj, A.heap[r]? = some o ∧ o.isCells = false) {g : Nat} {t : TypeId} {xs : List Value} (h : Row A g t xs) : Row B g t xs :=
 h.keep (hg.block g h.lt (fun e => by
  obtain ⟨-, o', h3, h4⟩ := hr g e.symm
  rw [h.eq] at h3
  cases h3
  cases h4))
theorem LookI.ownFrom {z : Nat → Slc} {len : Nat} {w W0 : World} {bx : Nat} {d : Dsk} (hw : w.heap.size ≤ W0.heap.size) : OwnFrom W0.heap.size (LookI (z := z) (len := len) w W0 bx d) := by
 intro pre A B row hs hg hr
 exact ⟨qAz hg hr hs.box, hs.good, hs.below.grown hg (by have := hs.size; omega) (fun k e => by have := (hr k e).1; omega), Nat.le_trans hs.size hg.size⟩
theorem LookX.ownFrom {z : Nat → Slc} {len : Nat} {w W0 : World} {bx : Nat} {d : Dsk} (hw : w.heap.size ≤ W0.heap.size) : OwnFrom W0.heap.size (LookX (z := z) (len := len) w W0 bx d) := by
 intro pre A B row hs hg hr
 exact ⟨qAz hg hr hs.box, hs.bad, hs.below.grown hg (by have := hs.size; omega) (fun k e => by have := (hr k e).1; omega), Nat.le_trans hs.size hg.size⟩
set_option maxRecDepth 100000 in
theorem qDX (w : World) (P : Nat → Prop) (a : Option Addr) (n c : Nat) (d : Dsk) (hD : rSectors.rd w P [.slice a n c] d) (bb : Bool) (hbb : Mo.okDisk d = bb) :
 Calls Try.prog 35 #[.slice a n c] w fun e w' => e = .returned (.bool bb) ∧ Below w.heap.size w w' := by
 obtain ⟨b0, off, z, hb, hcells, hread, hdl, hn⟩ := q9J hD
 have HDl : Hid (d.length = n) := hdl
 have HBB : Hid (bb = Mo.okDisk d) := hbb.symm
 clear hbb
 by_cases hn6 : n ≤ 65536
 · obtain ⟨b, hbd⟩ : ∃ b, b = if 0 < n then b0 else 0 := ⟨_, rfl⟩
   have ha : 0 < n → a = some ⟨b, off, none⟩ := fun h => by rw [hbd, if_pos h]; exact (hb h).1
   have hbl : 0 < n → b < w.heap.size := fun h => by rw [hbd, if_pos h]; exact (hb h).2.2
   have hb1 : b < w.heap.size + 1 := by
    by_cases h : 0 < n
    · have := hbl h; omega
    · rw [hbd, if_neg h]; omega
   have hcl : ∀ j, j < n → w.cell? ⟨b, off + j, none⟩ = some (slV (z j)) := fun j hj => by rw [hbd, if_pos (by omega)]; exact hcells j hj
   have HA : Hid _ := ha
   have HBl : Hid _ := hbl
   have HB1 : Hid _ := hb1
   have HCl : Hid _ := hcl
   have HRd : Hid _ := hread
   have HTr : Hid ((∀ (j : Nat) (hj : j < d.length), Mo.okSec d[j] = true) → bb = true) := fun h => by
    rw [HBB.out]
    refine Mo.okDisk_iff.2 ⟨by have := HDl.out; unfold Hid at this; omega, fun s hs => ?_⟩
    obtain ⟨j, hj, rfl⟩ := List.mem_iff_getElem.1 hs
    exact h j hj
   have HFa : Hid (∀ (j : Nat) (hj : j < d.length), Mo.okSec d[j] = false → bb = false) := fun j hj h => by
    rw [HBB.out]
    cases hq : Mo.okDisk d with
    | false => rfl
    | true =>
      have := (Mo.okDisk_iff.1 hq).2 d[j] (List.getElem_mem hj)
      rw [h] at this
      cases this
   have hS : decide ((0 : Int) ≤ (n : Int) ∧ (n : Int) ≤ 65536) = true := decide_eq_true (by omega)
   have HS : Hid _ := hS
   clear hD hb hcells hbd ha hbl hb1 hcl hread hdl b0 hS
   refine (callsIn_wide (n := 3)).1 (callsIn_of_wp_marks Try.func35 rfl trivial ?_ rfl)
   simp only [Try.ntmps35, List.size_toArray, List.length_cons, List.length_nil, Nat.reduceAdd, Nat.reduceSub, Array.replicate_succ, Array.replicate_zero, List.push_toArray, List.append_toArray, List.nil_append, List.cons_append]
   refine wpIn_wide.2 ?_
   go_wp2_with first
    | (go_at_call 39; refine (q8J _ _ true HS.out).mono ?_; rintro e w9 ⟨rfl, rfl⟩)
    | (go_at_call 55; refine (qEz _ _ _ _).mono ?_; rintro e w' ⟨rfl, rfl⟩)
   obtain ⟨w2, hw2, V2, b2, z2⟩ := q0q w 4 [.bool false]
   rw [hw2]
   obtain ⟨w3, hw3, V3, b3, z3⟩ := q0q w2 22 [.slice a n c]
   rw [hw3]
   rw [z2] at V3
   have e3 : w3.heap.size = w.heap.size + 1 + 1 := by omega
   have hW3 : Below w.heap.size w w3 := on b2 b3
   have HG0 : Hid (LookI (z := z) (len := n) w w3 w.heap.size d [] w3) := ⟨V2.below b3, (fun x hx => by cases hx), hW3, Nat.le_refl _⟩
   have HV3 : Hid _ := V3
   have HW3 : Hid _ := hW3
   have HE3 : Hid (w3.heap.size = w.heap.size + 1 + 1) := e3
   have HBs : Hid (w.heap.size + 1 < w3.heap.size) := by unfold Hid; omega
   have HB3 : Hid (b < w3.heap.size) := by have := HB1.out; unfold Hid at *; omega
   clear V2 V3 b2 b3 z2 z3 hw2 hw3 hW3 e3
   refine (wpIn_wide (n := 3)).1 ?_
   refine wpIn_rangeFunc_ownH (F := Fence.wide) (n := 3) rfl (by decide) (gf := 62) (lb := #[.pointer (some ⟨w.heap.size + 1, 0, none⟩)]) rfl trivial (enters_of Try.func62 (by kernel_rfl) rfl)
    (q7z 2 (by decide) (w.heap.size + 1) b off n c a HA.out z (by omega) (fun j hj => by have h := HRd.out j (by rw [HDl.out]; exact hj); rw [h.2.1]; omega) w3 HBs.out HB3.out (HV3.out.cell (j := 0) rfl) (fun j hj => (HW3.out.cell (p := ⟨b, off + j, none⟩) (HBl.out (by omega))).trans (HCl.out j hj))) KB.trans (KB.put HBs.out HB3.out) (Below.refl _ _) (fun _ => rfl)
    (LookI w w3 w.heap.size d) (fun cd pre W => cd = .ret ∧ LookX w w3 w.heap.size d pre W) (LookI.ownFrom HW3.out.size) (fun cd => fun s A B row hs hg hr => ⟨hs.1, LookX.ownFrom HW3.out.size s A B row hs.2 hg hr⟩) HG0.out
    (fun x a' _ => a' = { tmps := #[.slice a n c, undef, .pointer (some ⟨w.heap.size, 0, none⟩), undef, .slice (z x.1).1 (z x.1).2.1 (z x.1).2.2, .slice a n c, .int .i64 (n : Int), .bool true, .bool false, .slice a n c, .func (.func 62) #[] #[.pointer (some ⟨w.heap.size + 1, 0, none⟩)], .int .i64 (x.1 : Int), .slice (z x.1).1 (z x.1).2.1 (z x.1).2.2, undef, undef, undef, undef, undef, undef, undef], defers := [] }) (fun _ _ _ _ _ _ hs _ _ => hs) ?assign ?body ?done ?stop
   case assign =>
    intro ll pre x W K hI hK
    simp only [encW]
    gi_wp2
    exact hK _ _ (KeepsFrom.refl _ _) (KB.refl _ _ _) hI rfl
   case body =>
    rintro ll pre x a' W hl - hG rfl hlt
    have HG : Hid _ := hG
    obtain ⟨hxn, hx0⟩ := id x.2
    have hxd : x.1 < d.length := by rw [HDl.out]; exact hxn
    obtain ⟨q1, q2, q3⟩ := HRd.out x.1 hxd
    obtain ⟨X, hX⟩ : ∃ X, X = d[x.1] := ⟨_, rfl⟩
    rw [← hX] at q1 q2 q3
    have HXd : Hid (d.getD x.1 [] = X) := by unfold Hid; rw [hX, List.getD_eq_getElem?_getD, List.getElem?_eq_getElem hxd]; rfl
    have HXR : Hid (rBytes.rd W P [.slice (z x.1).1 (z x.1).2.1 (z x.1).2.2] X) := Rep.below q1 hG.below
    have HXm : Hid (X.length = (z x.1).2.1) := q2.symm
    have hxm : (z x.1).2.1 ≤ 140737488351232 := by omega
    have HBs2 : Hid (w.heap.size + 1 < W.heap.size ∧ b < W.heap.size) := by
     have h1 := HE3.out
     have h2 := hG.size
     have h3 := HB3.out
     unfold Hid at *
     omega
    have r0 := hG.box.cell (j := 0) rfl
    have r1 := hG.box.frozen 0
    have hx0' : ¬ X = [] := fun e => hx0 (by rw [← q2.symm, e]; rfl)
    have HOk : Hid (Mo.okSec X = (decide (X.length = 64) && !Mo.allZ X)) := by
     unfold Hid Mo.okSec
     have : decide (X.length = 0) = false := decide_eq_false (fun e => hx0' (List.length_eq_zero_iff.1 e))
     rw [this]
     rfl
    clear hX hl hlt hx0 hxd q1 q2 q3 hx0' hG
    by_cases h64 : (z x.1).2.1 = 64
    · have h64z : ((z x.1).2.1 : Int) = 64 := by omega
      have HX64 : Hid (rBytes.rd W P [.slice (z x.1).1 64 (z x.1).2.2] X) := by have h := HXR.out; rw [h64] at h; exact h
      have HOk2 : Hid (Mo.okSec X = !Mo.allZ X) := by unfold Hid; rw [HOk.out, decide_eq_true (by rw [HXm.out]; exact h64)]; rfl
      cases hz : Mo.allZ X with
      | true =>
        have HZ : Hid _ := hz
        have HBad : Hid (Mo.okSec X = false) := by unfold Hid; rw [HOk2.out, hz]; rfl
        clear hz
        gi_wp2_with fail
        refine ⟨trivial, (CallsIn.inRound ll ((callsIn_wide (n := _)).2 (q7q W P _ _ _ X HX64.out true HZ.out))).mono ?_⟩
        rintro e w5 ⟨rfl, b5⟩
        have c5 := (HG.out.box.below b5).cell (j := 0) rfl
        have f5 := (HG.out.box.below b5).frozen 0
        gi_wp2
        exact ⟨(qFx b5).trans ((KeepsOthers.setCell _ _ _).from _), rfl, (HG.out.box.below b5).set 0 (.bool false), ⟨x, by rw [HXd.out]; exact HBad.out⟩, (HG.out.below.trans (b5.mono HG.out.below.size)).setCell (p := ⟨w.heap.size, 0, none⟩) (Nat.le_refl _) _, by rw [World.size_setCell]; exact Nat.le_trans HG.out.size b5.size⟩
      | false =>
        have HZ : Hid _ := hz
        have HGood : Hid (Mo.okSec X = true) := by unfold Hid; rw [HOk2.out, hz]; rfl
        clear hz
        gi_wp2_with fail
        refine ⟨trivial, (CallsIn.inRound ll ((callsIn_wide (n := _)).2 (q7q W P _ _ _ X HX64.out false HZ.out))).mono ?_⟩
        rintro e w5 ⟨rfl, b5⟩
        gi_wp2
        exact ⟨qFx b5, KB.below b5 HBs2.out.1 HBs2.out.2, HG.out.box.below b5, (fun y hy => by
         rcases List.mem_append.1 hy with hy | hy
         · exact HG.out.good y hy
         · rw [List.mem_singleton.1 hy, HXd.out]; exact HGood.out), HG.out.below.trans (b5.mono HG.out.below.size), Nat.le_trans HG.out.size b5.size⟩
    · have h64z : ¬ ((z x.1).2.1 : Int) = 64 := by omega
      have HBad : Hid (Mo.okSec X = false) := by unfold Hid; rw [HOk.out, decide_eq_false (by rw [HXm.out]; exact h64)]; rfl
      gi_wp2
      refine ⟨trivial, ?_⟩
      gi_wp2
      exact ⟨(KeepsOthers.setCell _ _ _).from _, rfl, HG.out.box.set 0 (.bool false), ⟨x, by rw [HXd.out]; exact HBad.out⟩, HG.out.below.setCell (p := ⟨w.heap.size, 0, none⟩) (Nat.le_refl _) _, by rw [World.size_setCell]; exact HG.out.size⟩
   case done =>
    rintro D xs W hD rfl hG hdf
    have HT : Hid (bb = true) := HTr.out (fun j hj => by
     by_cases h0 : (z j).2.1 = 0
     · rw [show d[j] = [] from List.length_eq_zero_iff.1 (by rw [← (HRd.out j hj).2.1]; exact h0)]
       rfl
     · have := hG.good ⟨j, by have := HDl.out; unfold Hid at this; omega, h0⟩ ((qIj z n n (Nat.le_refl _) _).2 (by show j < n; have := HDl.out; unfold Hid at this; omega))
       rwa [show d.getD j [] = d[j] from by rw [List.getD_eq_getElem?_getD, List.getElem?_eq_getElem hj]; rfl] at this)
    have q0 := hG.box.cell (j := 0) rfl
    have q1 := hG.box.frozen 0
    have HG : Hid _ := hG
    have HDf : Hid _ := hdf
    have HDs : Hid (w.heap.size ≤ D) := Nat.le_trans HW3.out.size hD
    clear hG hdf hD
    go_wp2
    have hK' := (KeepsOthers.setCell W ⟨w.heap.size, 0, none⟩ (.bool true)).same D _ HDf.out rfl
    refine ⟨by simp, .inl ⟨_, _, rfl, run_takeDeferred hK', ?_⟩⟩
    have hc5 := cell_kept (World.cell?_setCell_same' W ⟨w.heap.size, 0, none⟩ (.bool true) (by rw [q0]; rfl)) (grownBy_putObj' _ D (.deferred none)) (fun r e => by cases e; exact ⟨_, hK', rfl⟩)
    exact ⟨.bool true, by simp [results, Try.f35, go_sem, hc5], by rw [HT.out], (HG.out.below.setCell (p := ⟨w.heap.size, 0, none⟩) (Nat.le_refl _) _).trans (belowK_b (w := w) (Nat.le_refl _) _ D _ _ HDs.out hK' rfl rfl)⟩
   case stop =>
    rintro D cd pre W hD hp ⟨rfl, hG⟩ hdf
    obtain ⟨x, hx⟩ := hG.bad
    have hxd : x.1 < d.length := by have h1 := x.2.1; have := HDl.out; unfold Hid at this; omega
    have HT : Hid (bb = false) := HFa.out x.1 hxd (by rwa [show d.getD x.1 [] = d[x.1] from by rw [List.getD_eq_getElem?_getD, List.getElem?_eq_getElem hxd]; rfl] at hx)
    have q0 := hG.box.cell (j := 0) rfl
    have HG : Hid _ := hG
    have HDf : Hid _ := hdf
    have HDs : Hid (w.heap.size ≤ D) := Nat.le_trans HW3.out.size hD
    clear hG hdf hD hx
    gi_wp2
    refine ⟨by simp, .inl ⟨_, _, rfl, run_takeDeferred HDf.out, ?_⟩⟩
    have hc5 := cell_kept q0 (grownBy_putObj' _ D (.deferred none)) (fun r e => by cases e; exact ⟨_, HDf.out, rfl⟩)
    exact ⟨.bool false, by simp [results, Try.f35, go_sem, hc5], by rw [HT.out], HG.out.below.trans (belowK_b (w := w) (Nat.le_refl _) _ D _ _ HDs.out HDf.out rfl rfl)⟩
 · have HF : Hid (bb = false) := by
    unfold Hid
    rw [HBB.out]
    cases hq : Mo.okDisk d with
    | false => rfl
    | true => have := (Mo.okDisk_iff.1 hq).1; have h2 := HDl.out; unfold Hid at h2; omega
   have hS : decide ((0 : Int) ≤ (n : Int) ∧ (n : Int) ≤ 65536) = false := decide_eq_false (by omega)
   have HS : Hid _ := hS
   obtain ⟨w2, hw2, V2, b2, z2⟩ := q0q w 4 [.bool false]
   have q0 := V2.cell (j := 0) rfl
   have q1 := V2.frozen 0
   have B2 : Hid (Below w.heap.size w (w2.setCell ⟨w.heap.size, 0, none⟩ (.bool false))) := b2.setCell (p := ⟨w.heap.size, 0, none⟩) (Nat.le_refl _) _
   have HC : Hid ((w2.setCell ⟨w.heap.size, 0, none⟩ (.bool false)).cell? ⟨w.heap.size, 0, none⟩ = some (.bool false)) := (V2.set 0 (.bool false)).cell (j := 0) rfl
   clear hD hb hcells hread hdl hS V2 b2 z2
   go_enter Try.func35, Try.ntmps35
   go_wp2_with (go_at_call 39; refine (q8J _ _ false HS.out).mono ?_; rintro e w9 ⟨rfl, rfl⟩)
   have hc := HC.out
   exact bodyPost_ret (v := .bool false) (by simp [results, Try.f35, go_sem, hc]) rfl ⟨by rw [HF.out], B2.out⟩
def secO (s : Sec) : List UInt8 := if s = [] then Mo.zeros else s
theorem secO_len {s : Sec} (h : s = [] ∨ s.length = 64) : (secO s).length = 64 := by
 unfold secO
 split
 · rfl
 · rcases h with h | h
   · contradiction
   · exact h
def octN (f : Nat → Sec) : Nat → List UInt8
 | 0 => []
 | k + 1 => octN f k ++ secO (f k)
theorem qAX {f : Nat → Sec} (h : ∀ j, f j = [] ∨ (f j).length = 64) : ∀ k, (octN f k).length = k * 64
 | 0 => rfl
 | k + 1 => by
   unfold octN
   rw [List.length_append, qAX h k, secO_len (h k)]; omega
theorem qHZ : ∀ k, octN (fun _ => []) k = List.replicate (k * 64) 0
 | 0 => rfl
 | k + 1 => by
   unfold octN
   rw [qHZ k, show secO [] = List.replicate 64 0 from rfl, List.replicate_append_replicate]
   congr 1
   omega
theorem qFz {f g : Nat → Sec} : ∀ k, (∀ j, j < k → f j = g j) → octN f k = octN g k
 | 0, _ => rfl
 | k + 1, h => by
   unfold octN
   rw [qFz k (fun j hj => h j (by omega)), h k (by omega)]
theorem qFj (d : Dsk) : octN (fun j => d.getD j []) d.length = Mo.octets d := by
 have : ∀ k, k ≤ d.length → octN (fun j => d.getD j []) k = Mo.octets (d.take k) := by
  intro k
  induction k with
  | zero => intro _; rfl
  | succ k ih =>
    intro hk
    show octN (fun j => d.getD j []) k ++ secO (d.getD k []) = _
    rw [ih (by omega), List.take_succ_eq_append_getElem (by omega)]
    unfold Mo.octets
    rw [List.flatMap_append]
    congr 1
    rw [List.getD_eq_getElem?_getD, List.getElem?_eq_getElem (by omega)]
    simp [secO]
 have h := this d.length (Nat.le_refl _)
 rwa [List.take_length] at h
theorem octN_put {f : Nat → Sec} (h : ∀ j, f j = [] ∨ (f j).length = 64) {X : Sec} (hX : X.length = 64) {q : Nat} : ∀ k, q < k → splice (cellsOf (octN f k)) (q * 64) (cellsOf X) = cellsOf (octN (fun j => if j = q then X else f j) k)
 | 0, hq => by omega
 | k + 1, hq => by
   have e : octN f (k + 1) = octN f k ++ secO (f k) := rfl
   have e' : octN (fun j => if j = q then X else f j) (k + 1) = octN (fun j => if j = q then X else f j) k ++ secO (if k = q then X else f k) := rfl
   have hl := qAX h k
   have hs := secO_len (h k)
   rw [e, e', q9z, q9z]
   by_cases hk : k = q
   · subst hk
     rw [if_pos rfl, qFz (f := fun j => if j = k then X else f j) (g := f) k (fun j hj => by rw [if_neg (by omega)])]
     unfold splice
     rw [show secO X = X from by unfold secO; rw [if_neg (fun e => by rw [e] at hX; cases hX)]]
     rw [List.take_left' (by rw [q1x, hl]), List.drop_of_length_le (by rw [List.length_append, q1x, q1x, q1x, hl, hs, hX]; omega), List.append_nil]
   · rw [if_neg hk, ← octN_put h hX k (by omega)]
     unfold splice
     rw [List.take_append_of_le_length (by rw [q1x, hl]; omega), List.drop_append_of_le_length (by rw [q1x, q1x, hl, hX]; omega)]
     simp only [List.append_assoc]
structure JoinI {z : Nat → Slc} {len : Nat} (w W0 : World) (bx g n : Nat) (d : Dsk) (pre : List (Plc z len)) (W : World) : Prop where
 box : Row W bx 26 [.slice (some ⟨g, 0, none⟩) (n * 64) (n * 64)]
 row : Row W g 5 (cellsOf (octN (q8j d pre) n))
 below : Below w.heap.size w W
 size : W0.heap.size ≤ W.heap.size
theorem JoinI.ownFrom {z : Nat → Slc} {len : Nat} {w W0 : World} {bx g n : Nat} {d : Dsk} (hw : w.heap.size ≤ W0.heap.size) : OwnFrom W0.heap.size (JoinI (z := z) (len := len) w W0 bx g n d) := by
 intro pre A B row hs hg hr
 exact ⟨qAz hg hr hs.box, qAz hg hr hs.row, hs.below.grown hg (by have := hs.size; omega) (fun k e => by have := (hr k e).1; omega), Nat.le_trans hs.size hg.size⟩
theorem fill_two {z : Nat → Slc} {len : Nat} {d : Dsk} (h : ∀ s ∈ d, s = [] ∨ s.length = 64) (pre : List (Plc z len)) (j : Nat) : q8j d pre j = [] ∨ (q8j d pre j).length = 64 := by
 unfold q8j
 split
 · rw [List.getD_eq_getElem?_getD]
   by_cases hj : j < d.length
   · rw [List.getElem?_eq_getElem hj]; exact h _ (List.getElem_mem hj)
   · rw [List.getElem?_eq_none (by omega)]; exact .inl rfl
 · exact .inl rfl
theorem JoinI.more {z : Nat → Slc} {len : Nat} {w W0 : World} {Bs b bx g n : Nat} {d : Dsk} {pre : List (Plc z len)} {W w5 : World} (h : JoinI w W0 bx g n d pre W) (hb : bx ≠ g ∧ g < W0.heap.size ∧ w.heap.size ≤ g) (h64 : ∀ s ∈ d, s = [] ∨ s.length = 64) {x : Plc z len} {X : Sec} (hX : d.getD x.1 [] = X) (hl : X.length = 64) (hx : x.1 < n)
 (hr : Row w5 g 5 (splice (cellsOf (octN (q8j d pre) n)) (x.1 * 64) (cellsOf X))) (k : Kept (· ≠ g) W w5) (hk : Bs ≠ g ∧ b ≠ g ∧ Bs < W.heap.size ∧ b < W.heap.size) :
 KeepsFrom W0.heap.size W w5 ∧ KB Bs b W w5 ∧ JoinI w W0 bx g n d (pre ++ [x]) w5 := by
 refine ⟨⟨k.size, fun q o hB hq ho => (k.block q (by show q ≠ g; omega)).trans hq⟩, fun p hp => World.cell?_of_block (k.block p.block (by rcases hp with e | e <;> rw [e] <;> first | exact hk.1 | exact hk.2.1)), h.box.keep (k.block bx hb.1), ?_, Kept.belowOf h.below k hb.2.2, Nat.le_trans h.size k.size⟩
 rw [octN_put (fill_two h64 pre) hl n hx] at hr
 rw [qFz n (g := fun j => if j = x.1 then X else q8j d pre j) (fun j hj => by
  rw [fill_push]
  by_cases e : x.1 = j
  · rw [if_pos e, if_pos e.symm, ← e, hX]
  · rw [if_neg e, if_neg (fun q => e q.symm)])]
 exact hr
set_option maxRecDepth 100000 in
theorem joined_u (w : World) (P : Nat → Prop) (a : Option Addr) (n c : Nat) (d : Dsk) (hD : rSectors.rd w P [.slice a n c] d) (h64 : ∀ s ∈ d, s = [] ∨ s.length = 64) (hn6 : n ≤ 65536) :
 Calls Try.prog 49 #[.slice a n c] w fun e w' => ∃ g, e = .returned (.slice (some ⟨g, 0, none⟩) (n * 64) (n * 64)) ∧ w.heap.size ≤ g ∧ Row w' g 5 (cellsOf (Mo.octets d)) ∧ Below w.heap.size w w' := by
 have H64 : Hid _ := h64
 clear h64
 obtain ⟨b0, off, z, hb, hcells, hread, hdl, hn⟩ := q9J hD
 have hn24 : n * 24 ≤ 140737488351232 := (q0Q hD).2.2.2
 obtain ⟨b, hbd⟩ : ∃ b, b = if 0 < n then b0 else 0 := ⟨_, rfl⟩
 have ha : 0 < n → a = some ⟨b, off, none⟩ := fun h => by rw [hbd, if_pos h]; exact (hb h).1
 have hbl : 0 < n → b < w.heap.size := fun h => by rw [hbd, if_pos h]; exact (hb h).2.2
 have hb1 : b < w.heap.size + 1 := by
  by_cases h : 0 < n
  · have := hbl h; omega
  · rw [hbd, if_neg h]; omega
 have hcl : ∀ j, j < n → w.cell? ⟨b, off + j, none⟩ = some (slV (z j)) := fun j hj => by rw [hbd, if_pos (by omega)]; exact hcells j hj
 have HA : Hid _ := ha
 have HBl : Hid _ := hbl
 have HB1 : Hid _ := hb1
 have HCl : Hid _ := hcl
 have HRd : Hid _ := hread
 have HDl : Hid (d.length = n) := hdl
 clear hD hb hcells hbd ha hbl hb1 hcl hread hdl b0
 refine (callsIn_wide (n := 3)).1 (callsIn_of_wp_marks Try.func49 rfl trivial ?_ rfl)
 simp only [Try.ntmps49, List.size_toArray, List.length_cons, List.length_nil, Nat.reduceAdd, Nat.reduceSub, Array.replicate_succ, Array.replicate_zero, List.push_toArray, List.append_toArray, List.nil_append, List.cons_append]
 refine wpIn_wide.2 ?_
 go_wp2_with first
  | (at_make; refine qBq _ rfl _ _ 26 rfl 5 (.int .u8 0) 1 Try.underlying26 qFQ rfl (n * 64) _ (by first | rfl | omega) rfl rfl (by omega) (by omega) ?_; intro w1 HR1 b1 z1)
  | (go_at_call 55; refine (qEz _ _ _ _).mono ?_; rintro e w' ⟨rfl, rfl⟩)
 obtain ⟨w2, hw2, V2, b2, z2⟩ := q0q w1 26 [.slice (some ⟨w.heap.size, 0, none⟩) (n * 64) (n * 64)]
 rw [hw2]
 obtain ⟨w3, hw3, V3, b3, z3⟩ := q0q w2 22 [.slice a n c]
 rw [hw3]
 have e1 : w1.heap.size = w.heap.size + 1 := z1
 have e2 : w2.heap.size = w.heap.size + 1 + 1 := by omega
 have e3 : w3.heap.size = w.heap.size + 1 + 1 + 1 := by omega
 rw [e1] at V2
 rw [e2] at V3
 have hW3 : Below w.heap.size w w3 := on (on b1 b2) b3
 have hz0 : cellsOf (octN (q8j d ([] : List (Plc z n))) n) = List.replicate (n * 64) (.int .u8 0) := by
  rw [qFz n (g := fun _ => []) (fun j _ => fill_nil d j), qHZ]
  simp [cellsOf]
 have hG0 : JoinI (z := z) (len := n) w w3 (w.heap.size + 1) w.heap.size n d [] w3 := ⟨V2.below b3, by rw [hz0]; exact (HR1.out.below b2).below b3, hW3, Nat.le_refl _⟩
 have HG0 : Hid _ := hG0
 have HV3 : Hid _ := V3
 have HW3 : Hid _ := hW3
 have HE3 : Hid (w3.heap.size = w.heap.size + 1 + 1 + 1) := e3
 have hBs : w.heap.size + 1 + 1 < w3.heap.size := by omega
 have hb3 : b < w3.heap.size := by have := HB1.out; unfold Hid at this; omega
 have HBs : Hid _ := hBs
 have HB3 : Hid _ := hb3
 clear hz0 hG0 V2 V3 b1 b2 b3 z1 z2 z3 hw2 hw3 hW3 e1 e2 e3 HR1
 refine (wpIn_wide (n := 3)).1 ?_
 refine wpIn_rangeFunc_ownH (F := Fence.wide) (n := 3) rfl (by decide) (gf := 62) (lb := #[.pointer (some ⟨w.heap.size + 1 + 1, 0, none⟩)]) rfl trivial (enters_of Try.func62 (by kernel_rfl) rfl)
  (q7z 2 (by decide) (w.heap.size + 1 + 1) b off n c a HA.out z (by omega) (fun j hj => by have h := HRd.out j (by rw [HDl.out]; exact hj); rw [h.2.1]; omega) w3 HBs.out HB3.out (HV3.out.cell (j := 0) rfl) (fun j hj => (HW3.out.cell (p := ⟨b, off + j, none⟩) (HBl.out (by omega))).trans (HCl.out j hj))) KB.trans (KB.put HBs.out HB3.out) (Below.refl _ _) (fun _ => rfl)
  (JoinI w w3 (w.heap.size + 1) w.heap.size n d) (fun _ _ _ => False) (JoinI.ownFrom HW3.out.size) (fun _ _ _ _ _ hs _ _ => hs) HG0.out
  (fun x a' _ => a' = { tmps := #[.slice a n c, undef, .slice none 0 0, .pointer (some ⟨w.heap.size + 1, 0, none⟩), .int .i64 (x.1 : Int), .slice (z x.1).1 (z x.1).2.1 (z x.1).2.2, .slice a n c, .int .i64 (n : Int), .int .i64 ((n : Int) * 64), .slice (some ⟨w.heap.size, 0, none⟩) (n * 64) (n * 64), .slice a n c, .func (.func 62) #[] #[.pointer (some ⟨w.heap.size + 1 + 1, 0, none⟩)], .int .i64 (x.1 : Int), .slice (z x.1).1 (z x.1).2.1 (z x.1).2.2, undef, undef, undef, undef, undef, undef, undef], defers := [] }) (fun _ _ _ _ _ _ hs _ _ => hs) ?assign ?body ?done ?stop
 case assign =>
  intro ll pre x W K hI hK
  simp only [encW]
  gi_wp2
  exact hK _ _ (KeepsFrom.refl _ _) (KB.refl _ _ _) hI rfl
 case body =>
  rintro ll pre x a' W hl - hG rfl hlt
  have HG : Hid _ := hG
  obtain ⟨hxn, hx0⟩ := id x.2
  have hxd : x.1 < d.length := by rw [HDl.out]; exact hxn
  obtain ⟨q1, q2, q3⟩ := HRd.out x.1 hxd
  obtain ⟨X, hX⟩ : ∃ X, X = d[x.1] := ⟨_, rfl⟩
  have hX64 : X.length = 64 := by
   rcases H64.out d[x.1] (List.getElem_mem hxd) with h | h
   · rw [h] at q2; exact absurd q2 hx0
   · rw [hX]; exact h
  rw [← hX] at q1 q2 q3
  have HXd : Hid (d.getD x.1 [] = X) := by unfold Hid; rw [hX, List.getD_eq_getElem?_getD, List.getElem?_eq_getElem hxd]; rfl
  have hz64 : (z x.1).2.1 = 64 := by rw [q2]; exact hX64
  have HXB : Hid (IsB W (z x.1).1 64 X) := by have h := (q1Q (Rep.below q1 hG.below)).1; rw [hz64] at h; exact h
  have hb0 := hG.box.cell (j := 0) rfl
  obtain ⟨q, hq⟩ : ∃ q, q = x.1 * 64 := ⟨_, rfl⟩
  have HQ : Hid (q = x.1 * 64) := hq
  have eqz : ((x.1 : Nat) : Int) * 64 = (q : Int) := by omega
  have hqn : q + 64 ≤ n * 64 := by omega
  have hrow := hG.row
  obtain ⟨w5, hrun, HR5, k5, z5⟩ := qJq (Pr := Try.prog) W 26 26 3 5 Try.underlying26 (by kernel_rfl) (some ⟨w.heap.size, q, none⟩) (z x.1).1 (n * 64 - q) (n * 64 - q) 64 (z x.1).2.2 w.heap.size q _ 5 hrow (cellsOf X) (by rw [q1x, hX64]; exact (Nat.min_eq_left (by omega)).symm)
   (fun hp => ⟨rfl, by
    cases hs : (z x.1).1 with
    | none => have h := HXB.out.2.1 hs; omega
    | some ad => exact ⟨ad, rfl, qBz (by have h := HXB.out; rw [hs] at h; exact h)⟩⟩) (by rw [q1x, q1x, qAX (fill_two H64.out pre), hX64]; exact hqn) (q4x X)
  have HRun : Hid _ := hrun
  have HR : Hid _ := HR5
  have HK5 : Hid _ := k5
  have HX64 : Hid (X.length = 64) := hX64
  have HXn : Hid (x.1 < n) := hxn
  have HBx : Hid (w.heap.size + 1 ≠ w.heap.size) := by unfold Hid; omega
  have HGb : Hid (w.heap.size < w3.heap.size ∧ w.heap.size ≤ w.heap.size) := by have := HE3.out; unfold Hid at *; omega
  have HKg : Hid (w.heap.size + 1 + 1 ≠ w.heap.size ∧ b ≠ w.heap.size ∧ w.heap.size + 1 + 1 < W.heap.size ∧ b < W.heap.size) := by
   have h1 := HE3.out
   have h2 := hG.size
   have h3 := HBl.out (by omega)
   unfold Hid at *
   omega
  have hqz : (q : Int) < ((n * 64 : Nat) : Int) := by omega
  have hqc : ¬ (n * 64 = q) := by omega
  clear hrun HR5 k5 z5 hrow hG q1 q2 q3 hX hl hlt hx0 hxd hX64 hq hxn
  gi_wp2
  rw [HRun.out]
  gi_wp2
  exact HG.out.more (by have := HBx.out; have := HGb.out; unfold Hid at *; omega) H64.out HXd.out HX64.out HXn.out (by rw [← HQ.out]; exact HR.out) HK5.out HKg.out
 case done =>
  rintro D xs W hD rfl hG hdf
  have hG2 := (JoinI.ownFrom (z := z) (len := n) (bx := w.heap.size + 1) (g := w.heap.size) (n := n) (d := d) HW3.out.size).putObj (.deferred none) hG hD hdf rfl
  have hrow := hG2.row
  rw [qFz n (g := fun j => d.getD j []) (fun j hj => by
   have hj' : j < d.length := by have := HDl.out; unfold Hid at this; omega
   rw [fill_end HDl.out (fun j hj => (HRd.out j hj).2.1) hj', List.getD_eq_getElem?_getD, List.getElem?_eq_getElem hj']
   rfl), ← HDl.out, qFj] at hrow
  have q0 := hG.box.cell (j := 0) rfl
  have HV : Hid _ := hrow
  have HB : Hid (Below w.heap.size w (W.putObj D (.deferred none))) := hG2.below
  have HDf : Hid _ := hdf
  clear hG hG2 hrow hdf hD
  go_wp2
  refine ⟨by simp, .inl ⟨_, _, rfl, run_takeDeferred HDf.out, ?_⟩⟩
  exact ⟨.slice (some ⟨w.heap.size, 0, none⟩) (n * 64) (n * 64), by simp [results, Try.f49, go_sem], w.heap.size, rfl, Nat.le_refl _, HV.out, HB.out⟩
 case stop =>
  intro D c pre W hD hp hf
  exact hf.elim
end Go.Proofs.Ytoophkmnppoppaa
