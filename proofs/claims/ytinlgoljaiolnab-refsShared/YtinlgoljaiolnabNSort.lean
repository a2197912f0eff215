/-
  The landed refs: references and edges sorted by the library's sort: the same ones, in order, in the same row. Conditions: those that each contract names.
-/
import Derived.Test.YtinlgoljaiolnabNCmp
namespace Go.Proofs.Ytinlgoljaiolnab
open Go.RowKit
set_option linter.unusedVariables false

theorem flat_at {α : Type} (enc : α → List Value) (k : Nat) (hk : ∀ x, (enc x).length = k) : ∀ (l : List α) (q r : Nat) (hq : q < l.length), r < k → (l.flatMap enc)[q * k + r]? = (enc l[q])[r]?
  | x :: l, 0, r, _, hr => by
    rw [List.flatMap_cons, Nat.zero_mul, Nat.zero_add, List.getElem?_append_left (by rw [hk]; exact hr)]
    rfl
  | x :: l, q + 1, r, hq, hr => by
    rw [List.flatMap_cons, List.getElem?_append_right (by rw [hk, Nat.add_mul]; omega), hk, show (q + 1) * k + r - k = q * k + r from by rw [Nat.add_mul]; omega]
    exact flat_at enc k hk l q r (by simpa using hq) hr

theorem flat_length {α : Type} (enc : α → List Value) (k : Nat) (hk : ∀ x, (enc x).length = k) : ∀ l : List α, (l.flatMap enc).length = l.length * k
  | [] => by simp
  | x :: l => by rw [List.flatMap_cons, List.length_append, hk, flat_length enc k hk l, List.length_cons, Nat.add_mul]; omega

/-- The row of a list, sorted: it is the same block, with the sorted list's cells. -/
theorem sorted_row {α : Type} [Inhabited α] (enc : α → List Value) (k : Nat) (hk0 : 0 < k) (hk : ∀ x, (enc x).length = k) {w : World} {base g n cap m : Nat} {e : TypeId} {xs : List Value} {d' : Array α} {os : Array Obj}
    (h : w.ownsRow base e k (.slice (some ⟨g, 0, none⟩) n cap) n xs) (hd : d'.size = n) : (sortWorldK enc k w g 0 m d' os).ownsRow base e k (.slice (some ⟨g, 0, none⟩) n cap) n (d'.toList.flatMap enc) := by
  refine ⟨by rw [flat_length enc k hk, Array.length_toList, hd], .inr ?_⟩
  rcases h.2 with ⟨h1, -⟩ | ⟨g', cap', cur, e1, g1, g2, g3, g4, g5, g6⟩
  · cases h1
  · simp only [Value.slice.injEq, Option.some.injEq, Addr.mk.injEq, and_true, true_and] at e1
    obtain ⟨rfl, rfl⟩ := e1
    have hgl := (Array.getElem?_eq_some_iff.1 g2).1
    refine ⟨g, cap, Sort.putCells id 0 (Sort.flatK enc k d') cur, rfl, g1, ?_, g3, g4, by unfold Sort.putCells; rw [Array.size_mapIdx]; exact g5, ?_⟩
    · show (Sort.grow (Sort.mapBlock (Sort.ahead w m) g _) os).heap[g]? = _
      have hsz : (Sort.mapBlock (Sort.ahead w m) g (Sort.putCells id 0 (Sort.flatK enc k d'))).heap.size = w.heap.size := by unfold Sort.mapBlock; rw [Array.size_modify]; rfl
      unfold Sort.grow
      simp only
      rw [Array.getElem?_append_left (by rw [hsz]; exact hgl)]
      unfold Sort.mapBlock
      simp only [Array.getElem?_modify]
      rw [if_pos True.intro]
      show Option.map _ (w.heap[g]?) = _
      rw [g2]
      rfl
    · refine List.ext_getElem? (fun t => ?_)
      by_cases ht : t < n * k
      · have hlt : t / k < d'.toList.length := by rw [Array.length_toList, hd]; exact Nat.div_lt_of_lt_mul (by rw [Nat.mul_comm]; exact ht)
        have hr : t % k < k := Nat.mod_lt _ hk0
        have htk : t / k * k + t % k = t := by rw [Nat.mul_comm]; exact Nat.div_add_mod t k
        have hn : n * k ≤ cap * k := Nat.mul_le_mul_right k g3
        rw [List.getElem?_take, if_pos ht]
        have h1 := flat_at enc k hk d'.toList (t / k) (t % k) hlt hr
        rw [htk] at h1
        rw [h1]
        have hts : t < cur.size := by omega
        have hf := Sort.get_flatK enc k d' t (by rw [hd]; exact ht)
        unfold Sort.putCells
        rw [Array.getElem?_toList, Array.getElem?_mapIdx, Array.getElem?_eq_getElem hts]
        simp only [Option.map_some]
        rw [if_pos ⟨Nat.zero_le _, by rw [Sort.size_flatK, hd]; omega⟩, Nat.sub_zero, hf]
        have hlt' : t / k < d'.size := by simpa using hlt
        rw [getElem!_pos d' _ hlt', getElem!_pos (enc d'[t / k]) (t % k) (by rw [hk]; exact hr)]
        simp only [id_eq, Array.getElem_toList]
        rw [List.getElem?_eq_getElem (by rw [hk]; exact hr)]
      · rw [List.getElem?_take, if_neg ht, List.getElem?_eq_none]
        rw [flat_length enc k hk, Array.length_toList, hd]
        omega

theorem map_block9 {w : World} {g : Nat} {f : Array Value → Array Value} : (Sort.mapBlock w g f).heap.size = w.heap.size ∧ ∀ k, k ≠ g → (Sort.mapBlock w g f).heap[k]? = w.heap[k]? := by
  unfold Sort.mapBlock
  refine ⟨by simp, fun k hk => ?_⟩
  simp only [Array.getElem?_modify]
  rw [if_neg (fun h => hk h.symm)]

theorem sort_world {α : Type} [Inhabited α] {enc : α → List Value} {k : Nat} {w : World} {base g m : Nat} {d' : Array α} {os : Array Obj} (hb : base ≤ g) (hg : g < w.heap.size) : Below base w (sortWorldK enc k w g 0 m d' os) := by
  have hm := map_block9 (w := Sort.ahead w m) (g := g) (f := Sort.putCells id 0 (Sort.flatK enc k d'))
  have hsz : (Sort.putRowK enc k (Sort.ahead w m) g 0 d').heap.size = w.heap.size := hm.1
  refine ⟨rfl, rfl, rfl, ?_, fun j hj => ?_⟩
  · show w.heap.size ≤ (Sort.grow _ os).heap.size
    unfold Sort.grow
    simp only [Array.size_append]
    rw [hsz]
    omega
  · show (Sort.grow _ os).heap[j]? = _
    unfold Sort.grow
    simp only
    by_cases hjl : j < w.heap.size
    · rw [Array.getElem?_append_left (by rw [hsz]; exact hjl)]
      exact hm.2 j (by omega)
    · exact absurd hj (by omega)

theorem cmp3_neg (a b : Int) : cmp3 a b < 0 ↔ a < b := by unfold cmp3; split <;> (try split) <;> omega
theorem cmp3_zero (a b : Int) : cmp3 a b = 0 ↔ a = b := by unfold cmp3; split <;> (try split) <;> omega
theorem cmpR_lt (x y : Rfr) : ltOf cmpR x y = decide (Rf.Lt x y) := by
  unfold ltOf
  congr 1
  refine propext ?_
  have e1 := cmp3_neg x.1 y.1
  have e2 := cmp3_zero x.1 y.1
  have e3 := cmp3_neg x.2.2.1 y.2.2.1
  have e4 := cmp3_zero x.2.2.1 y.2.2.1
  have e5 := cmp3_neg x.2.2.2 y.2.2.2
  show (if cmp3 x.1 y.1 = 0 then (if cmp3 x.2.2.1 y.2.2.1 = 0 then (if cmp3 x.2.2.2 y.2.2.2 = 0 then 0 else cmp3 x.2.2.2 y.2.2.2) else cmp3 x.2.2.1 y.2.2.1) else cmp3 x.1 y.1) < 0 ↔ _
  unfold Rf.Lt
  split
  · split
    · split <;> omega
    · omega
  · omega
theorem cmpE_lt (x y : Spn) : ltOf cmpE x y = decide (x.1 < y.1) := by
  unfold ltOf
  congr 1
  exact propext (cmp3_neg x.1 y.1)
theorem swoR : Sort.SWO (ltOf cmpR) :=
  ⟨fun x => by rw [cmpR_lt]; simp, fun x y z h1 h2 => by rw [cmpR_lt] at *; simp only [decide_eq_true_eq] at *; exact h1.trans h2, fun x y z h1 h2 => by rw [cmpR_lt] at *; simp only [decide_eq_false_iff_not] at *; unfold Rf.Lt at *; omega⟩
theorem swoE : Sort.SWO (ltOf cmpE) :=
  ⟨fun x => by rw [cmpE_lt]; simp, fun x y z h1 h2 => by rw [cmpE_lt] at *; simp at *; omega, fun x y z h1 h2 => by rw [cmpE_lt] at *; simp at *; omega⟩

set_option maxHeartbeats 1000000 in
theorem sortR_u (w : World) (base : Nat) (a : Option Addr) (n c : Nat) (l : List Rfr) (hO : OwnR 57 w base (.slice a n c) l) (hn : l.length ≤ 1000000) :
    Calls Try.prog 27 #[.slice a n c, .func (.func 28) #[] #[]] w fun e w' => e = .returned (.tuple #[]) ∧ ∃ D : List Rfr, D.Perm l ∧ Rf.Up D ∧ OwnR 57 w' base (.slice a n c) D ∧ Below base w w' := by
  by_cases h0 : l.length = 0
  · obtain rfl : l = [] := List.length_eq_zero_iff.1 h0
    obtain ⟨a', c', e, -, -⟩ := hO.slice
    simp only [Value.slice.injEq] at e
    obtain ⟨rfl, rfl, rfl⟩ := e
    refine (show Calls Try.prog 27 _ _ _ from AnyF.slices_SortFunc_none sortRfr a c (.func (.func 28) #[] #[]) w).mono ?_
    rintro e w' ⟨rfl, rfl⟩
    exact ⟨rfl, [], List.Perm.refl _, List.Pairwise.nil, hO, Below.refl _ _⟩
  · obtain ⟨g, rfl, hgb, hgl, hnl, hat⟩ := hO.at (by omega)
    subst hnl
    have hH : Sort.HoldsK rfr4 4 w g 0 l.toArray := by
      intro j hj
      rw [Sort.size_flatK] at hj
      have hj' : j < l.toArray.size * 4 := hj
      have hq : j / 4 < l.length := by simp at hj'; omega
      rw [Sort.get_flatK _ _ _ _ hj', Nat.zero_add]
      obtain ⟨c0, c1, c2, c3, hf⟩ := hat (j / 4) hq
      have hx : l.toArray[j / 4]! = l[j / 4] := by rw [getElem!_pos _ _ (by simpa using hq)]; simp
      rw [hx]
      have hm : j = j / 4 * 4 + j % 4 := by omega
      have h3 : j % 4 < 4 := Nat.mod_lt _ (by decide)
      refine ⟨?_, hf j⟩
      generalize j % 4 = r at *
      generalize j / 4 = q at *
      subst hm
      match r, h3 with
      | 0, _ => exact c0
      | 1, _ => exact c1
      | 2, _ => exact c2
      | 3, _ => exact c3
    have hcon := AnyQ.slices_SortFunc sortRfr 4 Try.isAgg57 Try.sizeOf57 rfr4 (fun _ => rfl) (fun x v hv => by simp [rfr4] at hv; rcases hv with rfl | rfl | rfl | rfl <;> rfl) cmpR swoR 28 #[] g 0 c l.toArray w (enters_of Try.func28 (by kernel_rfl) rfl) (fun _ _ _ _ x y => cmpR_u x y _) hH hgl (by simp; omega)
    have hcon' : Calls Try.prog 27 #[.slice (some ⟨g, 0, none⟩) l.toArray.size c, .func (.func 28) #[] #[]] w _ := hcon
    rw [show l.toArray.size = l.length by simp] at hcon'
    refine hcon'.mono ?_
    rintro e w' ⟨rfl, d', m, os, ⟨hp1, -, hp3⟩, hs, rfl⟩
    have hds : d'.size = l.length := by rw [hp1]; simp
    have hperm : d'.toList.Perm l := by
      have h := hp3
      simp only [Array.toList_extract, List.extract_eq_take_drop, List.drop_zero, Nat.sub_zero] at h
      rw [List.take_of_length_le (by simp [hds]), List.take_of_length_le (Nat.le_refl _)] at h
      exact h
    refine ⟨rfl, d'.toList, hperm, ?_, ⟨?_, fun x hx => hO.fit x (hperm.mem_iff.1 hx)⟩, sort_world hgb hgl⟩
    · refine List.pairwise_iff_getElem.2 (fun i j hi hj hij => ?_)
      have h := hs i j (Nat.zero_le _) hij (by simp at hj ⊢; omega)
      rw [cmpR_lt] at h
      have h := of_decide_eq_false h
      simp only [Array.length_toList] at hi hj
      rw [getElem!_pos d' j hj, getElem!_pos d' i hi] at h
      simp only [Array.getElem_toList]
      exact h
    · have h := sorted_row (d' := d') (m := m) (os := os) rfr4 4 (by decide) (fun _ => rfl) hO.row hds
      have e : d'.toList.length = l.length := by simp [hds]
      rw [e]
      exact h

set_option maxHeartbeats 1000000 in
theorem sortE_u (w : World) (base : Nat) (a : Option Addr) (n c : Nat) (l : List Spn) (hO : OwnS 59 w base (.slice a n c) l) (hn : l.length ≤ 1000000) :
    Calls Try.prog 20 #[.slice a n c, .func (.func 21) #[] #[]] w fun e w' => e = .returned (.tuple #[]) ∧ ∃ D : List Spn, D.Perm l ∧ Rf.UpE D ∧ OwnS 59 w' base (.slice a n c) D ∧ Below base w w' := by
  by_cases h0 : l.length = 0
  · obtain rfl : l = [] := List.length_eq_zero_iff.1 h0
    obtain ⟨a', c', e, -, -⟩ := hO.slice
    simp only [Value.slice.injEq] at e
    obtain ⟨rfl, rfl, rfl⟩ := e
    refine (show Calls Try.prog 20 _ _ _ from AnyF.slices_SortFunc_none sortEdg a c (.func (.func 21) #[] #[]) w).mono ?_
    rintro e w' ⟨rfl, rfl⟩
    exact ⟨rfl, [], List.Perm.refl _, List.Pairwise.nil, hO, Below.refl _ _⟩
  · obtain ⟨g, rfl, hgb, hgl, hnl, hat⟩ := hO.at (by omega)
    subst hnl
    have hH : Sort.HoldsK spn2 2 w g 0 l.toArray := by
      intro j hj
      rw [Sort.size_flatK] at hj
      have hj' : j < l.toArray.size * 2 := hj
      have hq : j / 2 < l.length := by simp at hj'; omega
      rw [Sort.get_flatK _ _ _ _ hj', Nat.zero_add]
      obtain ⟨c0, c1, hf⟩ := hat (j / 2) hq
      have hx : l.toArray[j / 2]! = l[j / 2] := by rw [getElem!_pos _ _ (by simpa using hq)]; simp
      rw [hx]
      have hm : j = j / 2 * 2 + j % 2 := by omega
      have h3 : j % 2 < 2 := Nat.mod_lt _ (by decide)
      refine ⟨?_, hf j⟩
      generalize j % 2 = r at *
      generalize j / 2 = q at *
      subst hm
      match r, h3 with
      | 0, _ => exact c0
      | 1, _ => exact c1
    have hcon := AnyQ.slices_SortFunc sortEdg 2 Try.isAgg59 Try.sizeOf59 spn2 (fun _ => rfl) (fun x v hv => by simp [spn2] at hv; rcases hv with rfl | rfl <;> rfl) cmpE swoE 21 #[] g 0 c l.toArray w (enters_of Try.func21 (by kernel_rfl) rfl) (fun _ _ _ _ x y => cmpE_u x y _) hH hgl (by simp; omega)
    have hcon' : Calls Try.prog 20 #[.slice (some ⟨g, 0, none⟩) l.toArray.size c, .func (.func 21) #[] #[]] w _ := hcon
    rw [show l.toArray.size = l.length by simp] at hcon'
    refine hcon'.mono ?_
    rintro e w' ⟨rfl, d', m, os, ⟨hp1, -, hp3⟩, hs, rfl⟩
    have hds : d'.size = l.length := by rw [hp1]; simp
    have hperm : d'.toList.Perm l := by
      have h := hp3
      simp only [Array.toList_extract, List.extract_eq_take_drop, List.drop_zero, Nat.sub_zero] at h
      rw [List.take_of_length_le (by simp [hds]), List.take_of_length_le (Nat.le_refl _)] at h
      exact h
    refine ⟨rfl, d'.toList, hperm, ?_, ⟨?_, fun x hx => hO.fit x (hperm.mem_iff.1 hx)⟩, sort_world hgb hgl⟩
    · refine List.pairwise_iff_getElem.2 (fun i j hi hj hij => ?_)
      have h := hs i j (Nat.zero_le _) hij (by simp at hj ⊢; omega)
      rw [cmpE_lt] at h
      have h := of_decide_eq_false h
      simp only [Array.length_toList] at hi hj
      rw [getElem!_pos d' j hj, getElem!_pos d' i hi] at h
      simp only [Array.getElem_toList]
      omega
    · have h := sorted_row (d' := d') (m := m) (os := os) spn2 2 (by decide) (fun _ => rfl) hO.row hds
      have e : d'.toList.length = l.length := by simp [hds]
      rw [e]
      exact h

end Go.Proofs.Ytinlgoljaiolnab
