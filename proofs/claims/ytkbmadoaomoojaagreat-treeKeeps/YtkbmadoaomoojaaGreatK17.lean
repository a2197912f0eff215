/-
  Facts that the proof rests on, part 18. Conditions: those that each of them names.
-/
import Derived.Shelf.Abstract
import Derived.Test.YtkbmadoaomoojaaGreatK09
import Derived.Test.YtkbmadoaomoojaaGreatK10
namespace Go.Proofs.YtkbmadoaomoojaaGreat
set_option maxRecDepth 20000
open Go.RowKit
set_option linter.unusedVariables false
theorem isLeaf_u (w : World) (u : Value) (a' : Option Addr) (n' c' : Nat) (l : List Itm) (ks : List Int) (hn : ks.length = n') :
 Calls Tryz.prog 129 #[.agg #[u, .slice a' n' c']] w fun e w' => e = .returned (.bool (Lf.isLeaf (l, ks))) ∧ Below w.heap.size w w' := by
 have HF : Hid (Lf.isLeaf (l, ks) = decide ((n' : Int) = 0)) := by
  unfold Hid Lf.isLeaf
  rw [Bool.eq_iff_iff, List.isEmpty_iff, decide_eq_true_eq, ← List.length_eq_zero_iff]
  show ks.length = 0 ↔ _
  omega
 obtain ⟨w0, hw0, V0, b0, z0⟩ := boxedRow w 63 [u, .slice a' n' c']
 obtain ⟨r0, r1⟩ := V0.two
 have B0 : Hid _ := b0
 clear V0 b0 z0 hn
 go_enter Tryz.func129, Tryz.ntmps129
 go_wp2
 go_ret
 exact ⟨by rw [HF.out]; rfl, B0.out⟩
theorem kindOf_u (w : World) (u : Value) (a' : Option Addr) (n' c' : Nat) (l : List Itm) (ks : List Int) (hn : ks.length = n') :
 Calls Tryz.prog 128 #[.agg #[u, .slice a' n' c']] w fun e w' => e = .returned (.int .u64 ((Lf.kind (l, ks)).toNat : Int)) ∧ Below w.heap.size w w' := by
 obtain ⟨w0, hw0, V0, b0, z0⟩ := boxedRow w 63 [u, .slice a' n' c']
 obtain ⟨r0, r1⟩ := V0.two
 have B0 : Hid _ := b0
 have HN : Hid _ := hn
 clear V0 b0 z0 hn
 go_enter Tryz.func128, Tryz.ntmps128
 go_wp2_with fail
 refine (isLeaf_u _ u a' n' c' l ks HN.out).mono ?_
 rintro e w1 ⟨rfl, b1⟩
 have B1 : Hid _ := on B0.out b1
 cases h : Lf.isLeaf (l, ks)
 · have HK : Hid (Lf.kind (l, ks) = 2) := by unfold Hid Lf.kind; rw [h]; rfl
   clear h
   go_wp2
   go_ret
   exact ⟨by rw [HK.out]; rfl, B1.out⟩
 · have HK : Hid (Lf.kind (l, ks) = 1) := by unfold Hid Lf.kind; rw [h]; rfl
   clear h
   go_wp2
   go_ret
   exact ⟨by rw [HK.out]; rfl, B1.out⟩
theorem items_no {l : List Itm} (h : ¬ (1 ≤ l.length ∧ l.length ≤ 3 ∧ Lf.rise l = true)) : Lf.itemsB l = false := by
 cases hx : Lf.itemsB l
 · rfl
 · unfold Lf.itemsB at hx
   simp only [Bool.and_eq_true, decide_eq_true_eq] at hx
   exact absurd ⟨hx.1.1, hx.1.2, hx.2⟩ h
theorem items_yes {l : List Itm} (h : 1 ≤ l.length ∧ l.length ≤ 3 ∧ Lf.rise l = true) : Lf.itemsB l = true := by
 unfold Lf.itemsB
 rw [decide_eq_true h.1, decide_eq_true h.2.1, h.2.2]; rfl
set_option maxHeartbeats 2000000 in
theorem mayBeItems_u (w : World) (P : Nat → Prop) (a : Option Addr) (n c : Nat) (l : List Itm) (hL : rItms.rd w P [.slice a n c] l) :
 Calls Tryz.prog 139 #[.slice a n c] w fun e w' => e = .returned (.bool (Lf.itemsB l)) ∧ Below w.heap.size w w' := by
 have HR : Hid _ := hL
 have HN : Hid (l.length = n) := (rList_len hL).1
 have hn0 : n ≤ 8796093022000 := by have : n * 16 ≤ 140737488351232 := (rList_len hL).2.2.2; omega
 obtain ⟨r, hr⟩ : ∃ r, r = Lf.itemsB l := ⟨_, rfl⟩
 rw [← hr]
 have HD : Hid _ := hr
 clear hr hL
 go_enter Tryz.func139, Tryz.ntmps139
 by_cases g1 : n < 1
 · have HX : Hid (r = false) := HD.out.trans (items_no fun h => by have := HN.out; omega)
   have g1z : (n : Int) < 1 := by omega
   go_wp2
   go_ret
   exact ⟨by rw [HX.out]; rfl, Below.refl _ _⟩
 by_cases g2 : n > 3
 · have HX : Hid (r = false) := HD.out.trans (items_no fun h => by have := HN.out; omega)
   have g1z : ¬ (n : Int) < 1 := by omega
   have g2z : (n : Int) > 3 := by omega
   go_wp2
   go_ret
   exact ⟨by rw [HX.out]; rfl, Below.refl _ _⟩
 have g1z : ¬ (n : Int) < 1 := by omega
 have g2z : ¬ (n : Int) > 3 := by omega
 go_wp2
 go_loopw [3] (fun i wr => ∃ k : Nat, 1 ≤ k ∧ k ≤ n ∧ i = .int .i64 k ∧ Hid (∀ (j : Nat) (h : j + 1 < l.length), j + 1 < k → l[j].1.toNat < l[j + 1].1.toNat) ∧ Below w.heap.size w wr) (fun i _ => n - (intOf i).toNat)
 case atStart => exact ⟨1, Nat.le_refl _, by omega, rfl, fun j _ h => absurd h (by omega), Below.refl _ _⟩
 case round =>
  obtain ⟨k, hk1, hk, rfl, HS, bel⟩ := hrel
  by_cases hlt : k < n
  · have hkl : k < l.length := by rw [HN.out]; exact hlt
    obtain ⟨g, off, rfl, -, -, hat⟩ := rItms_at (Rep.below HR.out bel) (by omega)
    obtain ⟨c0, c1⟩ := hat k hkl
    obtain ⟨p0, p1⟩ := hat (k - 1) (by omega)
    have HNx : Hid (l[k - 1].1.toNat < l[k].1.toNat → ∀ (j : Nat) (h : j + 1 < l.length), j + 1 < k + 1 → l[j].1.toNat < l[j + 1].1.toNat) := fun e j h hj => by
     by_cases ej : j + 1 = k
     · obtain rfl : j = k - 1 := by omega
       have e2 : l[k - 1 + 1] = l[k] := by congr 1
       rw [e2]; exact e
     · exact HS.out j h (by omega)
    have HNo : Hid (¬ l[k - 1].1.toNat < l[k].1.toNat → Lf.rise l = true → False) := fun e h => e (by
     have := Lf.rise_iff.1 h (k - 1) (by omega)
     have e2 : l[k - 1 + 1]'(by omega) = l[k] := by congr 1; omega
     rw [e2] at this; exact this)
    obtain ⟨y, hX⟩ : ∃ y, y = l[k] := ⟨_, rfl⟩
    rw [← hX] at c0 c1 HNx HNo
    obtain ⟨z, hZ⟩ : ∃ z, z = l[k - 1] := ⟨_, rfl⟩
    rw [← hZ] at p0 p1 HNx HNo
    clear hX hZ hat
    have hkz : (k : Int) < (n : Int) := by omega
    have k1z : ((k : Int) - 1).toNat = k - 1 := by omega
    have k2z : (0 : Int) ≤ (k : Int) - 1 := by omega
    have k3z : (k : Int) - 1 < (n : Int) := by omega
    by_cases ck : y.1.toNat ≤ z.1.toNat
    · have ckz : decide (y.1.toNat ≤ z.1.toNat) = true := decide_eq_true ck
      have HX : Hid (r = false) := HD.out.trans (items_no fun h => HNo.out (by omega) h.2.2)
      clear HNx HNo
      go_wp2_with fail
      go_quiet (fail)
      go_wp2
      go_ret
      exact ⟨by rw [HX.out]; rfl, same_drewN bel nq⟩
    · have ckz : decide (y.1.toNat ≤ z.1.toNat) = false := decide_eq_false ck
      have HN2 : Hid _ := HNx.out (by omega)
      clear HNx HNo
      go_wp2_with fail
      go_quiet (fail)
      go_wp2
      go_roundw
      case rel => exact ⟨k + 1, by omega, by omega, by go_num, HN2, same_drewN bel nq⟩
      case measure => simp [intOf]; omega
  · obtain rfl : k = n := by omega
    have HX : Hid (r = true) := HD.out.trans (items_yes ⟨by have := HN.out; omega, by have := HN.out; omega, Lf.rise_iff.2 fun j h => HS.out j h (by have := HN.out; omega)⟩)
    go_wp2
    go_ret
    exact ⟨by rw [HX.out]; rfl, bel⟩
theorem hasValue_u (w : World) (y : Itm) :
 Calls Tryz.prog 146 (#[.agg #[.int .u64 (y.1.toNat : Int), .int .u64 (y.2.toNat : Int)]] ++ #[]) w fun e w' => e = .returned (.bool (!decide (y.2 = 0))) ∧ Below w.heap.size w w' := by
 have HE : Hid (((y.2.toNat : Int) != 0) = !decide (y.2 = 0)) := by
  unfold Hid
  rw [Bool.eq_iff_iff, bne_iff_ne, Bool.not_eq_true', decide_eq_false_iff_not]
  constructor
  · intro h e; exact h (by rw [e]; rfl)
  · intro h e; exact h (UInt64.toNat_inj.1 (by simpa using e))
 obtain ⟨w0, hw0, V0, b0, z0⟩ := boxedRow w 45 [.int .u64 (y.1.toNat : Int), .int .u64 (y.2.toNat : Int)]
 obtain ⟨r0, r1⟩ := V0.two
 have B0 : Hid _ := b0
 clear V0 b0 z0
 go_enter Tryz.func146, Tryz.ntmps146
 go_wp2
 go_ret
 exact ⟨by rw [← HE.out]; rfl, B0.out⟩
set_option maxHeartbeats 2000000 in
theorem indexFunc_u (f : Nat) (bs : Array Value) (eg : ∀ args w, (callFunc f args).run Tryz.prog w = .ok (.enter f args) w) (w : World) (P : Nat → Prop) (a : Option Addr) (n c : Nat) (l : List Itm) (hL : rItms.rd w P [.slice a n c] l) (p : Itm → Bool)
 (hf : ∀ w1, Below w.heap.size w w1 → ∀ y ∈ l, Calls Tryz.prog f (#[.agg #[.int .u64 (y.1.toNat : Int), .int .u64 (y.2.toNat : Int)]] ++ bs) w1 fun e w' => e = .returned (.bool (p y)) ∧ Below w1.heap.size w1 w') :
 Calls Tryz.prog 54 #[.slice a n c, .func (.func f) #[] bs] w fun e w' => ∃ r : Int, e = .returned (.int .i64 r) ∧ (0 ≤ r ↔ l.any p = true) ∧ Below w.heap.size w w' := by
 obtain ⟨hl, hnc, hnil, hb⟩ := rList_len hL
 have hn : n ≤ 8796093022000 := by have : n * 16 ≤ 140737488351232 := hb; omega
 have HL : Hid (l.length = n) := hl
 have HR : Hid _ := hL
 have HF : Hid _ := hf
 clear hl hnc hnil hb hL hf
 go_enter Tryz.func54, Tryz.ntmps54
 go_wp2
 go_loopw [8] (fun i wr => ∃ k : Nat, k ≤ n ∧ i = .int .i64 k ∧ Hid (∀ j (h : j < l.length), j < k → p l[j] = false) ∧ Below w.heap.size w wr) (fun i _ => n - (intOf i).toNat)
 case atStart => exact ⟨0, Nat.zero_le _, rfl, (fun j _ h => by omega), Below.refl _ _⟩
 case round =>
  obtain ⟨k, hk, rfl, HK, bel⟩ := hrel
  by_cases hlt : k < n
  · have hkl : k < l.length := by rw [HL.out]; exact hlt
    obtain ⟨g, off, rfl, -, -, hat⟩ := rItms_at (Rep.below HR.out bel) (by omega)
    obtain ⟨c0, c1⟩ := hat k hkl
    have hc := HF.out wr bel l[k] (List.getElem_mem hkl)
    have HP : Hid (p l[k] = p l[k]) := rfl
    have HAny : Hid (p l[k] = true → l.any p = true) := fun h => List.any_eq_true.2 ⟨l[k], List.getElem_mem hkl, h⟩
    have HNx : Hid (p l[k] = false → ∀ j (h : j < l.length), j < k + 1 → p l[j] = false) := fun h j hj hjk => by
     by_cases e : j = k
     · subst e; exact h
     · exact HK.out j hj (by omega)
    obtain ⟨X, hX⟩ : ∃ X, X = l[k] := ⟨_, rfl⟩
    rw [← hX] at c0 c1 hc HAny HNx
    have B : Hid _ := bel
    have hkz : (k : Int) < (n : Int) := by omega
    clear hX hat HP bel
    cases hp : p X <;> rw [hp] at hc
    · have HN2 : Hid _ := HNx.out hp
      clear hp HNx HAny
      go_wp2_with (go_at_fn f; refine hc.mono ?_; rintro e w' ⟨rfl, hb⟩)
      go_roundw
      case rel => exact ⟨k + 1, by omega, by go_num, HN2, on B.out hb⟩
      case measure => simp [intOf]; omega
    · have HN2 : Hid _ := HAny.out hp
      clear hp HNx HAny
      go_wp2_with (go_at_fn f; refine hc.mono ?_; rintro e w' ⟨rfl, hb⟩)
      go_ret
      exact ⟨k, rfl, ⟨fun _ => HN2.out, fun _ => by omega⟩, on B.out hb⟩
  · obtain rfl : k = n := by omega
    have HN2 : Hid (l.any p = false) := by
     unfold Hid
     rw [List.any_eq_false]
     intro x hx
     obtain ⟨j, hj, rfl⟩ := List.mem_iff_getElem.1 hx
     rw [HK.out j hj (by rw [← HL.out]; exact hj)]
     decide
    go_wp2
    go_ret
    exact ⟨-1, rfl, ⟨fun h => by omega, fun h => by rw [HN2.out] at h; cases h⟩, bel⟩
theorem containsFunc_u (f : Nat) (bs : Array Value) (eg : ∀ args w, (callFunc f args).run Tryz.prog w = .ok (.enter f args) w) (w : World) (P : Nat → Prop) (a : Option Addr) (n c : Nat) (l : List Itm) (hL : rItms.rd w P [.slice a n c] l) (p : Itm → Bool)
 (hf : ∀ w1, Below w.heap.size w w1 → ∀ y ∈ l, Calls Tryz.prog f (#[.agg #[.int .u64 (y.1.toNat : Int), .int .u64 (y.2.toNat : Int)]] ++ bs) w1 fun e w' => e = .returned (.bool (p y)) ∧ Below w1.heap.size w1 w') (r : Bool) (hr : l.any p = r) :
 Calls Tryz.prog 147 #[.slice a n c, .func (.func f) #[] bs] w fun e w' => e = .returned (.bool r) ∧ Below w.heap.size w w' := by
 have HF : Hid _ := indexFunc_u f bs eg w P a n c l hL p hf
 have HRR : Hid _ := hr
 clear hf hL hr
 go_enter Tryz.func147, Tryz.ntmps147
 go_wp2_with (go_at_call 54; refine Calls.mono HF.out ?_; rintro e w1 ⟨k, rfl, hk, hb1⟩; have HK : Hid _ := hk; clear hk)
 go_ret
 refine ⟨?_, hb1⟩
 have : decide (0 ≤ k) = r := by rw [Bool.eq_iff_iff, decide_eq_true_eq, HK.out, HRR.out]
 rw [← this]
 rfl
set_option maxHeartbeats 2000000 in
theorem indexInt_u (w : World) (P : Nat → Prop) (a : Option Addr) (n c : Nat) (l : List Int) (hL : rKids.rd w P [.slice a n c] l) (x : Int) :
 Calls Tryz.prog 151 #[.slice a n c, .int .i64 x] w fun e w' => ∃ r : Int, e = .returned (.int .i64 r) ∧ (0 ≤ r ↔ x ∈ l) ∧ w = w' := by
 obtain ⟨hl, hnc, hnil, hb⟩ := rList_len hL
 have hn : n ≤ 17592186044000 := by have : n * 8 ≤ 140737488351232 := hb; omega
 have HL : Hid (l.length = n) := hl
 have HR : Hid _ := hL
 clear hl hnc hnil hb hL
 go_enter Tryz.func151, Tryz.ntmps151
 go_wp2
 go_loop [8] (fun i => ∃ k : Nat, k ≤ n ∧ i = .int .i64 k ∧ Hid (∀ j (h : j < l.length), j < k → l[j] ≠ x)) (fun i => n - (intOf i).toNat)
 case atStart => exact ⟨0, Nat.zero_le _, rfl, (fun j _ h => by omega)⟩
 case round =>
  obtain ⟨k, hk, rfl, HK⟩ := hrel
  by_cases hlt : k < n
  · have hkl : k < l.length := by rw [HL.out]; exact hlt
    obtain ⟨g, off, rfl, -, -, hat⟩ := rKids_at HR.out (by omega)
    obtain ⟨c0, -, -⟩ := hat k hkl
    have HAny : Hid (l[k] = x → x ∈ l) := fun h => by rw [← h]; exact List.getElem_mem hkl
    have HNx : Hid (l[k] ≠ x → ∀ j (h : j < l.length), j < k + 1 → l[j] ≠ x) := fun h j hj hjk => by
     by_cases e : j = k
     · subst e; exact h
     · exact HK.out j hj (by omega)
    obtain ⟨X, hX⟩ : ∃ X, X = l[k] := ⟨_, rfl⟩
    rw [← hX] at c0 HAny HNx
    have hkz : (k : Int) < (n : Int) := by omega
    clear hX hat
    by_cases he : X = x
    · have HN2 : Hid _ := HAny.out he
      have heb : (x == X) = true := beq_iff_eq.2 he.symm
      clear he HNx HAny
      go_wp2
      go_ret
      exact ⟨k, rfl, ⟨fun _ => HN2.out, fun _ => by omega⟩, rfl⟩
    · have HN2 : Hid _ := HNx.out he
      have heb : (x == X) = false := beq_eq_false_iff_ne.2 (fun e => he e.symm)
      clear he HNx HAny
      go_wp2
      go_round
      case rel => exact ⟨k + 1, by omega, by go_num, HN2⟩
      case measure => simp [intOf]; omega
  · obtain rfl : k = n := by omega
    have HN2 : Hid (¬ x ∈ l) := fun h => by
     obtain ⟨j, hj, e⟩ := List.mem_iff_getElem.1 h
     exact HK.out j hj (by rw [← HL.out]; exact hj) e
    go_wp2
    go_ret
    exact ⟨-1, rfl, ⟨fun h => by omega, fun h => absurd h HN2.out⟩, rfl⟩
theorem containsInt_u (w : World) (P : Nat → Prop) (a : Option Addr) (n c : Nat) (l : List Int) (hL : rKids.rd w P [.slice a n c] l) (x : Int) (r : Bool) (hr : decide (x ∈ l) = r) :
 Calls Tryz.prog 148 #[.slice a n c, .int .i64 x] w fun e w' => e = .returned (.bool r) ∧ w = w' := by
 have HF : Hid _ := indexInt_u w P a n c l hL x
 have HRR : Hid _ := hr
 clear hL hr
 go_enter Tryz.func148, Tryz.ntmps148
 go_wp2_with (go_at_call 151; refine Calls.mono HF.out ?_; rintro e w1 ⟨k, rfl, hk, rfl⟩; have HK : Hid _ := hk; clear hk)
 go_ret
 refine ⟨?_, rfl⟩
 have : decide (0 ≤ k) = r := by rw [← HRR.out, Bool.eq_iff_iff, decide_eq_true_eq, HK.out, decide_eq_true_eq]
 rw [← this]
 rfl
theorem rKids_take {w : World} {P : Nat → Prop} {b off n c k c2 : Nat} {l : List Int} (h : rKids.rd w P [.slice (some ⟨b, off, none⟩) n c] l) (hk : k ≤ n) (hc : k ≤ c2) : rKids.rd w P [.slice (some ⟨b, off, none⟩) k c2] (l.take k) := by
 obtain ⟨a', n', c', e, h1, h2, h3, h4, h5⟩ := h
 simp only [List.cons.injEq, Value.slice.injEq, and_true] at e
 obtain ⟨rfl, rfl, rfl⟩ := e
 refine ⟨_, k, c2, rfl, by rw [List.length_take]; omega, hc, (fun e => by cases e), by have : n * rInt.bytes ≤ _ := h4; rw [show rInt.bytes = 8 from rfl] at *; omega, fun x hx j hj => ?_⟩
 have hj' : j < l.length := by rw [List.length_take] at hj; omega
 obtain ⟨p1, cj, q1, q2⟩ := h5 x hx j hj'
 exact ⟨p1, cj, by rw [List.getElem_take]; exact q1, q2⟩
namespace Lf
theorem kids_iff {n : Nod} : kidsB n = true ↔ n.2.length = n.1.length + 1 ∧ (n.1.any fun x => !decide (x.2 = 0)) = false ∧ ∀ (j : Nat) (h : j < n.2.length), 1 ≤ n.2[j] ∧ n.2[j] ≤ 2048 ∧ ¬ n.2[j] ∈ n.2.take j := by
 unfold kidsB
 simp only [Bool.and_eq_true, decide_eq_true_eq, List.all_eq_true, apart_iff, List.any_eq_false, Bool.not_eq_true', decide_eq_false_iff_not, Classical.not_not]
 constructor
 · rintro ⟨⟨h1, h2⟩, h3, h4⟩
   refine ⟨h1, h2, fun j h => ⟨(h3 _ (List.getElem_mem h)).1, (h3 _ (List.getElem_mem h)).2, fun hm => ?_⟩⟩
   obtain ⟨i, hi, e⟩ := List.mem_iff_getElem.1 hm
   rw [List.length_take] at hi
   rw [List.getElem_take] at e
   exact List.pairwise_iff_getElem.1 h4 i j (by omega) h (by omega) e
 · rintro ⟨h1, h2, h3⟩
   refine ⟨⟨h1, h2⟩, fun x hx => ?_, List.pairwise_iff_getElem.2 fun i j hi hj hij e => (h3 j hj).2.2 ?_⟩
   · obtain ⟨j, hj, rfl⟩ := List.getElem_of_mem hx
     exact ⟨(h3 j hj).1, (h3 j hj).2.1⟩
   · exact List.mem_iff_getElem.2 ⟨i, by rw [List.length_take]; omega, by rw [List.getElem_take]; exact e⟩
theorem kids_no {n : Nod} (h : ¬ (n.2.length = n.1.length + 1 ∧ (n.1.any fun x => !decide (x.2 = 0)) = false ∧ ∀ (j : Nat) (h : j < n.2.length), 1 ≤ n.2[j] ∧ n.2[j] ≤ 2048 ∧ ¬ n.2[j] ∈ n.2.take j)) : kidsB n = false := by
 cases hx : kidsB n
 · rfl
 · exact absurd (kids_iff.1 hx) h
end Lf
set_option maxRecDepth 20000 in
set_option maxHeartbeats 4000000 in
theorem mayBeKids_u (w : World) (P P' : Nat → Prop) (a a' : Option Addr) (n c n' c' : Nat) (l : List Itm) (ks : List Int) (hL : rItms.rd w P [.slice a n c] l) (hK : rKids.rd w P' [.slice a' n' c'] ks) :
 Calls Tryz.prog 140 #[.agg #[.slice a n c, .slice a' n' c']] w fun e w' => e = .returned (.bool (Lf.kidsB (l, ks))) ∧ Below w.heap.size w w' := by
 have HR : Hid _ := hL
 have HK : Hid _ := hK
 have HN : Hid (l.length = n) := (rList_len hL).1
 have HN' : Hid (ks.length = n') := (rList_len hK).1
 have hnc : n' ≤ c' := (rList_len hK).2.1
 have hn0 : n ≤ 8796093022000 := by have : n * 16 ≤ 140737488351232 := (rList_len hL).2.2.2; omega
 have hn1 : n' ≤ 17592186044000 := by have : n' * 8 ≤ 140737488351232 := (rList_len hK).2.2.2; omega
 obtain ⟨r, hr⟩ : ∃ r, r = Lf.kidsB (l, ks) := ⟨_, rfl⟩
 rw [← hr]
 have HD : Hid _ := hr
 obtain ⟨w0, hw0, V0, b0, z0⟩ := boxedRow w 63 [.slice a n c, .slice a' n' c']
 have HV0 : Hid _ := V0
 have B0 : Hid _ := b0
 clear hr hL hK V0 b0 z0
 go_enter Tryz.func140, Tryz.ntmps140
 obtain ⟨r0, r1⟩ := HV0.out.two
 by_cases g1 : n' = n + 1
 · have g1z : ((n' : Int) != (n : Int) + 1) = false := by rw [bne_eq_false_iff_eq]; omega
   have G1 : Hid _ := g1
   clear g1
   go_wp2_with fail
   cases hv : (l.any fun x => !decide (x.2 = 0))
   · refine (containsFunc_u 146 #[] (enters_of Tryz.func146 (by kernel_rfl) rfl) w0 P a n c l (Rep.below HR.out B0.out) (fun y => !decide (y.2 = 0)) (fun wq hbq y hy => hasValue_u wq y) _ hv).mono ?_
     rintro e w1 ⟨rfl, b1⟩
     have HVal : Hid _ := hv
     have HV1 : Hid _ := HV0.out.below b1
     have B1 : Hid _ := on B0.out b1
     clear r0 r1 hv b1
     obtain ⟨r0, r1⟩ := HV1.out.two
     go_wp2
     go_loop [23] (fun i => ∃ k : Nat, k ≤ n' ∧ i = .int .i64 k ∧ Hid (∀ (j : Nat) (h : j < ks.length), j < k → 1 ≤ ks[j] ∧ ks[j] ≤ 2048 ∧ ¬ ks[j] ∈ ks.take j)) (fun i => n' - (intOf i).toNat)
     case atStart => exact ⟨0, Nat.zero_le _, rfl, fun j _ h => absurd h (Nat.not_lt_zero _)⟩
     case round =>
      obtain ⟨k, hk, rfl, HS⟩ := hrel
      by_cases hlt : k < n'
      · have hkl : k < ks.length := by rw [HN'.out]; exact hlt
        have HK1 : Hid _ := Rep.below HK.out B1.out
        obtain ⟨g, off, rfl, -, -, hat⟩ := rKids_at HK1.out (by omega)
        obtain ⟨c0, lo, hi⟩ := hat k hkl
        have HT : Hid (rKids.rd w1 P' [.slice (some ⟨g, off, none⟩) k c'] (ks.take k)) := rKids_take HK1.out hk (by omega)
        have HNx : Hid (1 ≤ ks[k] ∧ ks[k] ≤ 2048 ∧ ¬ ks[k] ∈ ks.take k → ∀ (j : Nat) (h : j < ks.length), j < k + 1 → 1 ≤ ks[j] ∧ ks[j] ≤ 2048 ∧ ¬ ks[j] ∈ ks.take j) := fun e j hj hjk => by
         by_cases ej : j = k
         · subst ej; exact e
         · exact HS.out j hj (by omega)
        have HNo : Hid (¬ (1 ≤ ks[k] ∧ ks[k] ≤ 2048 ∧ ¬ ks[k] ∈ ks.take k) → r = false) := fun e => HD.out.trans (Lf.kids_no fun h => e (h.2.2 k hkl))
        obtain ⟨X, hX⟩ : ∃ X, X = ks[k] := ⟨_, rfl⟩
        rw [← hX] at c0 lo hi HNx HNo
        clear hX hat HK1
        have hkz : (k : Int) < (n' : Int) := by omega
        have hkc : (k : Int) ≤ (c' : Int) := by omega
        by_cases x1 : X < 1
        · have HX : Hid (r = false) := HNo.out (by omega)
          clear HNx HNo
          go_wp2
          go_ret
          exact ⟨by rw [HX.out]; rfl, B1.out⟩
        by_cases x2 : X > 2048
        · have HX : Hid (r = false) := HNo.out (by omega)
          clear HNx HNo
          go_wp2
          go_ret
          exact ⟨by rw [HX.out]; rfl, B1.out⟩
        cases hm : decide (X ∈ ks.take k)
        · have HN2 : Hid _ := HNx.out ⟨by omega, by omega, of_decide_eq_false hm⟩
          have HM : Hid _ := hm
          clear HNx HNo hm
          go_wp2_with (go_at_call 148; refine (containsInt_u _ P' _ k _ (ks.take k) HT.out X _ HM.out).mono ?_; rintro e w9 ⟨rfl, rfl⟩)
          go_round
          case rel => exact ⟨k + 1, by omega, by go_num, HN2⟩
          case measure => simp [intOf]; omega
        · have HX : Hid (r = false) := HNo.out (fun h => h.2.2 (of_decide_eq_true hm))
          have HM : Hid _ := hm
          clear HNx HNo hm
          go_wp2_with (go_at_call 148; refine (containsInt_u _ P' _ k _ (ks.take k) HT.out X _ HM.out).mono ?_; rintro e w9 ⟨rfl, rfl⟩)
          go_ret
          exact ⟨by rw [HX.out]; rfl, B1.out⟩
      · obtain rfl : k = n' := by omega
        have HX : Hid (r = true) := HD.out.trans (Lf.kids_iff.2 ⟨by show ks.length = l.length + 1; rw [HN.out, HN'.out]; exact G1.out, HVal.out, fun j h => HS.out j h (by have := HN'.out; exact this ▸ h)⟩)
        go_wp2
        go_ret
        exact ⟨by rw [HX.out]; rfl, B1.out⟩
   · refine (containsFunc_u 146 #[] (enters_of Tryz.func146 (by kernel_rfl) rfl) w0 P a n c l (Rep.below HR.out B0.out) (fun y => !decide (y.2 = 0)) (fun wq hbq y hy => hasValue_u wq y) _ hv).mono ?_
     rintro e w1 ⟨rfl, b1⟩
     have HX : Hid (r = false) := HD.out.trans (Lf.kids_no fun h => by have := h.2.1; rw [hv] at this; cases this)
     clear hv r0 r1
     go_wp2
     go_ret
     exact ⟨by rw [HX.out]; rfl, on B0.out b1⟩
 · have g1z : ((n' : Int) != (n : Int) + 1) = true := bne_iff_ne.2 (by omega)
   have HX : Hid (r = false) := HD.out.trans (Lf.kids_no fun h => g1 (by have := h.1; have e1 := HN.out; have e2 := HN'.out; simp only at this; omega))
   go_wp2
   go_ret
   exact ⟨by rw [HX.out]; rfl, B0.out⟩
set_option maxHeartbeats 2000000 in
theorem check_u (w : World) (P P' : Nat → Prop) (a a' : Option Addr) (n c n' c' : Nat) (l : List Itm) (ks : List Int) (hL : rItms.rd w P [.slice a n c] l) (hK : rKids.rd w P' [.slice a' n' c'] ks) :
 Calls Tryz.prog 125 #[.agg #[.slice a n c, .slice a' n' c']] w fun e w' => e = .returned (.int .i64 (Lf.encodeE (l, ks))) ∧ Below w.heap.size w w' := by
 have HR : Hid _ := hL
 have HK : Hid _ := hK
 have HN' : Hid (ks.length = n') := (rList_len hK).1
 have HP : Hid _ := Lf.ok_parts (l, ks)
 obtain ⟨r, hr⟩ : ∃ r, r = Lf.encodeE (l, ks) := ⟨_, rfl⟩
 rw [← hr]
 have HY : Hid (Lf.ok (l, ks) = true → r = 0) := fun h => by rw [hr]; unfold Lf.encodeE; exact if_pos h
 have HZ : Hid (Lf.ok (l, ks) = false → r = 9) := fun h => by rw [hr]; unfold Lf.encodeE; rw [h]; rfl
 obtain ⟨w0, hw0, V0, b0, z0⟩ := boxedRow w 63 [.slice a n c, .slice a' n' c']
 have HV0 : Hid _ := V0
 have B0 : Hid _ := b0
 clear hr hL hK V0 b0 z0
 go_enter Tryz.func125, Tryz.ntmps125
 obtain ⟨r0, r1⟩ := HV0.out.two
 go_wp2_with fail
 refine (mayBeItems_u _ P a n c l (Rep.below HR.out B0.out)).mono ?_
 rintro e w1 ⟨rfl, b1⟩
 have HV1 : Hid _ := HV0.out.below b1
 have B1 : Hid _ := on B0.out b1
 clear r0 r1 b1
 obtain ⟨r0, r1⟩ := HV1.out.two
 cases h1 : Lf.itemsB l
 · have HX : Hid (r = 9) := HZ.out (by rw [HP.out, h1]; rfl)
   clear h1
   go_wp2
   go_ret
   exact ⟨by rw [HX.out]; rfl, B1.out⟩
 · have H1 : Hid _ := h1
   clear h1
   go_wp2_with fail
   refine (isLeaf_u _ _ a' n' c' l ks HN'.out).mono ?_
   rintro e w2 ⟨rfl, b2⟩
   have HV2 : Hid _ := HV1.out.below b2
   have B2 : Hid _ := on B1.out b2
   clear r0 r1 b2
   obtain ⟨r0, r1⟩ := HV2.out.two
   cases h2 : Lf.isLeaf (l, ks)
   · have H2 : Hid _ := h2
     clear h2
     go_wp2_with fail
     refine (mayBeKids_u _ P P' a a' n c n' c' l ks (Rep.below HR.out B2.out) (Rep.below HK.out B2.out)).mono ?_
     rintro e w3 ⟨rfl, b3⟩
     have B3 : Hid _ := on B2.out b3
     clear r0 r1
     cases h3 : Lf.kidsB (l, ks)
     · have HX : Hid (r = 9) := HZ.out (by rw [HP.out, H1.out, H2.out, h3]; rfl)
       clear h3
       go_wp2
       go_ret
       exact ⟨by rw [HX.out]; rfl, B3.out⟩
     · have HX : Hid (r = 0) := HY.out (by rw [HP.out, H1.out, H2.out, h3]; rfl)
       clear h3
       go_wp2
       go_ret
       exact ⟨by rw [HX.out]; rfl, B3.out⟩
   · have HX : Hid (r = 0) := HY.out (by rw [HP.out, H1.out, h2]; rfl)
     clear h2
     go_wp2
     go_ret
     exact ⟨by rw [HX.out]; rfl, B2.out⟩
set_option maxRecDepth 20000 in
set_option maxHeartbeats 2000000 in
theorem way_u (w : World) (P : Nat → Prop) (a : Option Addr) (n c : Nat) (kv : Value) (l : List Itm) (ks : List Int) (hL : rItms.rd w P [.slice a n c] l) (key : UInt64) :
 Calls Tryz.prog 49 #[.agg #[.slice a n c, kv], .int .u64 (key.toNat : Int)] w fun e w' => e = .returned (.int .i64 (Lf.way (l, ks) key : Nat)) ∧ Below w.heap.size w w' := by
 have HR : Hid _ := hL
 have HN : Hid (l.length = n) := (rList_len hL).1
 have hn0 : n ≤ 8796093022000 := by have : n * 16 ≤ 140737488351232 := (rList_len hL).2.2.2; omega
 obtain ⟨w0, hw0, V0, b0, z0⟩ := boxedRow w 63 [.slice a n c, kv]
 have HV0 : Hid _ := V0
 have B0 : Hid _ := b0
 clear hL V0 b0 z0
 go_enter Tryz.func49, Tryz.ntmps49
 obtain ⟨r0, r1⟩ := HV0.out.two
 go_wp2
 clear r0 r1
 go_loopw [5, 11] (fun o i wr => ∃ k m : Nat, k ≤ n ∧ i = .int .i64 k ∧ o = .int .i64 m ∧ m ≤ k ∧ Hid (m = ((l.take k).filter fun x => decide (x.1.toNat ≤ key.toNat)).length) ∧ Below w.heap.size w wr) (fun _ i _ => n - (intOf i).toNat)
 case atStart => exact ⟨0, 0, Nat.zero_le _, rfl, rfl, Nat.le_refl _, rfl, B0.out⟩
 case round =>
  obtain ⟨k, m, hk, rfl, rfl, hm, HM, bel⟩ := hrel
  by_cases hlt : k < n
  · have hkl : k < l.length := by rw [HN.out]; exact hlt
    obtain ⟨g, off, rfl, -, -, hat⟩ := rItms_at (Rep.below HR.out bel) (by omega)
    obtain ⟨c0, c1⟩ := hat k hkl
    have HNx : Hid _ := Lf.way_next hkl key
    obtain ⟨y, hX⟩ : ∃ y, y = l[k] := ⟨_, rfl⟩
    rw [← hX] at c0 c1 HNx
    have hkz : (k : Int) < (n : Int) := by omega
    clear hX hat
    obtain ⟨w2, hw2, V2, b2, z2⟩ := boxedRow wr 45 [.int .u64 (y.1.toNat : Int), .int .u64 (y.2.toNat : Int)]
    obtain ⟨y0, y1⟩ := V2.two
    have B2 : Hid (Below w.heap.size w w2) := on bel b2
    clear V2 b2 z2 bel
    by_cases hc : y.1.toNat ≤ key.toNat
    · have HN2 : Hid (m + 1 = ((l.take (k + 1)).filter fun x => decide (x.1.toNat ≤ key.toNat)).length) := by unfold Hid; rw [HNx.out, if_pos hc, ← HM.out]
      have hci : (y.1.toNat : Int) ≤ (key.toNat : Int) := by omega
      go_wp2
      go_roundw
      case rel => exact ⟨k + 1, m + 1, by omega, by go_num, by go_num, by omega, HN2, B2.out⟩
      case measure => simp [intOf]; omega
    · have HN2 : Hid (m = ((l.take (k + 1)).filter fun x => decide (x.1.toNat ≤ key.toNat)).length) := by unfold Hid; rw [HNx.out, if_neg hc, ← HM.out]; rfl
      have hci : ¬ (y.1.toNat : Int) ≤ (key.toNat : Int) := by omega
      go_wp2
      go_roundw
      case rel => exact ⟨k + 1, m, by omega, by go_num, rfl, by omega, HN2, B2.out⟩
      case measure => simp [intOf]; omega
  · obtain rfl : n = k := by omega
    have HF : Hid (m = Lf.way (l, ks) key) := by unfold Hid Lf.way; rw [HM.out, List.take_of_length_le (by rw [HN.out]; exact Nat.le_refl _)]
    go_wp2
    go_ret
    exact ⟨by rw [← HF.out]; rfl, bel⟩
end Go.Proofs.YtkbmadoaomoojaaGreat
