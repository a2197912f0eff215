/-
  Facts that the proof rests on, part 8. Conditions: those that each of them names.
-/
import Derived.Deep.DeepCutAuto
import Derived.Deep.RegionWith
import Derived.Test.YtkbmadoaomoojaaGreatK00
import Derived.Test.YtkbmadoaomoojaaGreatK06
namespace Go.Proofs.YtkbmadoaomoojaaGreat
set_option maxRecDepth 20000
open Go.RowKit
set_option linter.unusedVariables false
theorem Owns.elem {α β : Type} {A : Rep α} {C : Rep β} {e : TypeId} {base : Nat} {wr w5 : World} {v : Value} {l : List α} (O : Owns A e wr base v l) (hb : base ≤ wr.heap.size) {cs : List Value} {x : β} {P : Nat → Prop} (h : C.rd w5 P cs x) (hP : ∀ b, P b → wr.heap.size ≤ b) (o : Obj) :
 C.rd (w5.alloc o) (fun b => base ≤ b ∧ v.ownBlock ≠ some b) cs x :=
 C.weaken (Rep.below h ((Below.refl _ _).alloc (Nat.le_refl _) _)) (fun b hb _ => ⟨by have := hP b hb; omega, fun e => by have := O.row b e; have := hP b hb; omega⟩)
set_option maxHeartbeats 800000 in
theorem copyList_r (w : World) (P : Nat → Prop) (a : Option Addr) (n c : Nat) (L : List (List UInt8)) (h : rSectors.rd w P [.slice a n c] L) :
 Calls Tryz.prog 20 #[.slice a n c] w fun e w' => ∃ b d, e = .returned (.slice b n d) ∧ rSectors.rd w' (fun k => w.heap.size ≤ k) [.slice b n d] L ∧ Below w.heap.size w w' := by
 have hl : L.length = n ∧ n ≤ 5864062014634 := by
  obtain ⟨a', n', c', e, h1, _, _, h4, _⟩ := h
  simp only [List.cons.injEq, Value.slice.injEq, and_true] at e
  obtain ⟨rfl, rfl, rfl⟩ := e
  have h5 : n * 24 ≤ 140737488351232 := h4
  exact ⟨h1, by omega⟩
 obtain ⟨hn, hn2⟩ := hl
 have HN : Hid _ := hn
 clear hn
 have H0 : Owns rBytes 53 w w.heap.size (.slice none 0 0) (L.take 0) := by rw [List.take_zero]; exact Owns.nil _ _ _ _
 go_enter Tryz.func20, Tryz.ntmps20
 go_wp2
 go_loopw [3, 4] (fun s i wr => ∃ (k : Nat) (M : List (List UInt8)), k ≤ n ∧ i = .int .i64 k ∧ M.length = k ∧ Hid (M = L.take k) ∧ Hid (Owns rBytes 53 wr w.heap.size s M) ∧ Below w.heap.size w wr) (fun _ i _ => n - (intOf i).toNat)
 case atStart => exact ⟨0, _, Nat.zero_le _, rfl, by simp, rfl, H0, Below.refl _ _⟩
 case round =>
  obtain ⟨k, M, hk, rfl, hml, HMk, O, bel⟩ := hrel
  clear H0
  by_cases hlt : k < n
  · have hAr := Rep.below h bel
    obtain ⟨g, off, rfl, -, hgl, hat⟩ := rLists_at hAr (by omega)
    have hkl : k < L.length := by rw [HN.out]; exact hlt
    obtain ⟨x, l, e, hx, hl, hcell⟩ := hat k hkl
    have HNX : Hid (M ++ [L[k]] = L.take (k + 1)) := by unfold Hid; rw [HMk.out, List.take_succ_eq_append_getElem hkl]
    have hz : w.heap.size ≤ wr.heap.size := bel.size
    have hok : Hid ((k + 1) * 24 ≤ 140737488355328 ∧ k + 1 ≤ maxLen) := ⟨by omega, by unfold maxLen; omega⟩
    clear hat hl hAr
    generalize L[k] = X at *
    go_wp2_with (first
     | (go_at_call 42
        refine (copy_r _ _ x l e _ hx).mono ?_
        rintro e w5 ⟨b5, d5, rfl, hr5, bb5⟩
        have hz5 : w.heap.size ≤ (w5.alloc (.cells #[.slice b5 l d5] 53)).heap.size := by have := bb5.size; simp only [World.size_alloc]; omega)
     | (at_builtin
        (refine append_rep elem_sectors rfl _ _ rfl w.heap.size _ M rfl ((O.out.below bb5).below ((Below.refl _ _).alloc (Nat.le_refl _) _)) ⟨w5.heap.size, 0, none⟩ [.slice b5 l d5] X rfl (cell_one_new _ _ _) (O.out.elem hz hr5 (fun b hb => hb) _) (by rw [hml]; exact hok.out.1) (by rw [hml]; exact hok.out.2) hz5 ?_; intro b6 d6 w6 ho6 g6; rw [hml] at ho6)))
    go_roundw
    case rel => exact ⟨k + 1, M ++ [X], by omega, by go_num, by simp [hml], HNX, ho6, ((on bel bb5).alloc (by have := bb5.size; omega) _).grown g6 hz5 (fun k hk => (O.out.row k hk).1)⟩
    case measure => simp [intOf]; omega
  · obtain rfl : k = n := by omega
    go_wp2
    go_ret
    rw [List.take_of_length_le (by rw [HN.out]; exact Nat.le_refl _)] at HMk
    obtain ⟨a', c', e1, e2⟩ := Owns.rd (hs := by decide) O.out (by rw [hml]; show k * 24 ≤ _; omega)
    rw [hml, HMk.out] at e2
    rw [hml] at e1
    exact ⟨a', c', by rw [← e1]; rfl, e2, bel⟩
theorem rSectors_len {w : World} {P : Nat → Prop} {a : Option Addr} {n c : Nat} {L : List (List UInt8)} (h : rSectors.rd w P [.slice a n c] L) : L.length = n ∧ n ≤ 5864062014634 := by
 obtain ⟨a', n', c', e, h1, _, _, h4, _⟩ := h
 simp only [List.cons.injEq, Value.slice.injEq, and_true] at e
 obtain ⟨rfl, rfl, rfl⟩ := e
 have h5 : n * 24 ≤ 140737488351232 := h4
 exact ⟨h1, by omega⟩
end Go.Proofs.YtkbmadoaomoojaaGreat
namespace Go.Proofs.YtkbmadoaomoojaaGreat
set_option maxRecDepth 20000
set_option linter.unusedVariables false
namespace Lf
theorem rise_iff : ∀ {l : List Itm}, rise l = true ↔ ∀ (j : Nat) (h : j + 1 < l.length), l[j].1.toNat < l[j + 1].1.toNat
 | [] => by simp [rise]
 | [x] => by simp [rise]
 | x :: y :: l => by
   rw [rise, Bool.and_eq_true, decide_eq_true_eq, rise_iff (l := y :: l)]
   constructor
   · rintro ⟨h1, h2⟩ j h
     cases j with
     | zero => exact h1
     | succ j => exact h2 j (by simpa using h)
   · intro h
     exact ⟨h 0 (by simp), fun j hj => h (j + 1) (by simpa using hj)⟩
theorem apart_iff : ∀ {l : List Int}, apart l = true ↔ l.Pairwise (· ≠ ·)
 | [] => by simp [apart]
 | k :: l => by
   rw [apart, Bool.and_eq_true, decide_eq_true_eq, apart_iff (l := l), List.pairwise_cons]
   constructor
   · rintro ⟨h1, h2⟩
     exact ⟨fun a ha e => h1 (e ▸ ha), h2⟩
   · rintro ⟨h1, h2⟩
     exact ⟨fun hk => h1 k hk rfl, h2⟩
def LenOk (n : Nod) : Prop := 1 ≤ n.1.length ∧ n.1.length ≤ 3 ∧ (n.2.length = 0 ∨ n.2.length = n.1.length + 1)
def ItemOk (n : Nod) (j : Nat) : Prop := ∀ h : j < n.1.length, (0 < j → n.1[j - 1].1.toNat < n.1[j].1.toNat) ∧ (0 < n.2.length → n.1[j].2.toNat = 0)
def KidOk (n : Nod) (j : Nat) : Prop := ∀ h : j < n.2.length, (1 ≤ n.2[j] ∧ n.2[j] ≤ 2048) ∧ ∀ (i : Nat) (hi : i < j), n.2[i] ≠ n.2[j]
theorem leaf_iff {n : Nod} : isLeaf n = true ↔ n.2.length = 0 := by
 unfold isLeaf
 rw [List.isEmpty_iff, List.length_eq_zero_iff]
theorem parts_iff {n : Nod} : Ok n ↔ LenOk n ∧ (∀ j, ItemOk n j) ∧ ∀ j, KidOk n j := by
 constructor
 · intro h
   refine ⟨⟨h.some_, h.few, h.kids.imp leaf_iff.1 id⟩, fun j hj => ⟨fun h0 => ?_, fun h0 => ?_⟩, fun j hj => ⟨h.pages _ (List.getElem_mem hj), fun i hi => ?_⟩⟩
   · have := rise_iff.1 h.rises (j - 1) (by omega)
     simpa only [Nat.sub_add_cancel h0] using this
   · have := h.bare.resolve_left (fun e => by have := leaf_iff.1 e; omega) _ (List.getElem_mem hj)
     rw [this]; rfl
   · exact List.pairwise_iff_getElem.1 (apart_iff.1 h.apart_) i j (by omega) hj hi
 · rintro ⟨⟨h1, h2, h3⟩, h4, h5⟩
   refine ⟨h1, h2, h3.imp leaf_iff.2 id, rise_iff.2 fun j h => ?_, ?_, fun k hk => ?_, apart_iff.2 (List.pairwise_iff_getElem.2 fun i j hi hj hij => (h5 j hj).2 i hij)⟩
   · exact (h4 (j + 1) h).1 (by omega)
   · rcases Nat.eq_zero_or_pos n.2.length with h0 | h0
     · exact Or.inl (leaf_iff.2 h0)
     · refine Or.inr fun x hx => ?_
       obtain ⟨j, hj, rfl⟩ := List.getElem_of_mem hx
       exact UInt64.toNat_inj.1 ((h4 j hj).2 h0)
   · obtain ⟨j, hj, rfl⟩ := List.getElem_of_mem hk
     exact (h5 j hj).1
theorem enc9 {n : Nod} (h : ¬ (LenOk n ∧ (∀ j, ItemOk n j) ∧ ∀ j, KidOk n j)) : encodeE n = 9 := by
 unfold encodeE
 exact if_neg fun e => h (parts_iff.1 (ok_iff.1 e))
theorem enc0 {n : Nod} (h : LenOk n ∧ (∀ j, ItemOk n j) ∧ ∀ j, KidOk n j) : encodeE n = 0 := by
 unfold encodeE
 exact if_pos (ok_iff.2 (parts_iff.2 h))
end Lf
abbrev Pgs := List (List UInt8)
abbrev Bnd := Option UInt64
namespace Tr
open Oct Crc Lf
structure Wk where
 met : List Bool
 out : List Itm
 leaf : Nat
 bad : Bool
def page (s : Pgs) (p : Int) : List UInt8 := s.getD (p.toNat - 1) []
def nod (s : Pgs) (p : Int) : Nod := decodeN (page s p)
def above (lo : Bnd) (k : UInt64) : Bool := match lo with | none => true | some a => decide (a.toNat ≤ k.toNat)
def under (hi : Bnd) (k : UInt64) : Bool := match hi with | none => true | some a => decide (k.toNat < a.toNat)
def within (lo hi : Bnd) (n : Nod) : Bool := n.1.all fun x => above lo x.1 && under hi x.1
def loOf (n : Nod) (lo : Bnd) (i : Nat) : Bnd := if 0 < i then (n.1[i - 1]?).map (·.1) else lo
def hiOf (n : Nod) (hi : Bnd) (i : Nat) : Bnd := if i < n.1.length then (n.1[i]?).map (·.1) else hi
def open_ (s : Pgs) (p : Int) (w : Wk) : Bool := !w.bad && decide (1 ≤ p) && decide (p ≤ s.length) && !w.met.getD (p.toNat - 1) false
def good (s : Pgs) (p : Int) (lo hi : Bnd) : Bool := decide (decodeE (page s p) = 0) && within lo hi (nod s p)
def node (s : Pgs) : Nat → Int → Bnd → Bnd → Wk → Wk
 | 0, _, _, _, w => { w with bad := true }
 | f + 1, p, lo, hi, w =>
   if open_ s p w = true then
    if good s p lo hi = true then
     if (nod s p).2 = [] then { met := w.met.set (p.toNat - 1) true, out := w.out ++ (nod s p).1, leaf := 16 - f, bad := decide (0 < w.leaf) && decide (w.leaf ≠ 16 - f) }
     else (List.range (nod s p).2.length).foldl (fun v i => node s f ((nod s p).2.getD i 0) (loOf (nod s p) lo i) (hiOf (nod s p) hi i) v) { w with met := w.met.set (p.toNat - 1) true }
    else { w with met := w.met.set (p.toNat - 1) true, bad := true }
   else { w with bad := true }
def kidsOf (s : Pgs) (f : Nat) (n : Nod) (lo hi : Bnd) (j : Nat) (w : Wk) : Wk :=
 (List.range j).foldl (fun v i => node s f (n.2.getD i 0) (loOf n lo i) (hiOf n hi i) v) w
theorem kidsOf_zero (s : Pgs) (f : Nat) (n : Nod) (lo hi : Bnd) (w : Wk) : kidsOf s f n lo hi 0 w = w := rfl
theorem kidsOf_succ (s : Pgs) (f : Nat) (n : Nod) (lo hi : Bnd) (j : Nat) (w : Wk) : kidsOf s f n lo hi (j + 1) w = node s f (n.2.getD j 0) (loOf n lo j) (hiOf n hi j) (kidsOf s f n lo hi j w) := by
 unfold kidsOf
 rw [List.range_succ, List.foldl_append]
 rfl
theorem node_bad (s : Pgs) : ∀ (f : Nat) (p : Int) (lo hi : Bnd) (w : Wk), w.bad = true → node s f p lo hi w = w
 | 0, p, lo, hi, w, h => by unfold node; cases w; simp only at h; rw [h]
 | f + 1, p, lo, hi, w, h => by
   have : open_ s p w = false := by unfold open_; rw [h]; rfl
   unfold node
   rw [this]
   cases w
   simp only at h
   rw [h]
   rfl
def its (s : Pgs) : Nat → Int → List Itm
 | 0, _ => []
 | d + 1, p => if (nod s p).2 = [] then (nod s p).1 else (nod s p).2.flatMap (its s d)
def pgs (s : Pgs) : Nat → Int → List Int
 | 0, _ => []
 | d + 1, p => p :: (nod s p).2.flatMap (pgs s d)
def Fit (s : Pgs) : Nat → Bnd → Bnd → Int → Prop
 | 0, _, _, _ => False
 | d + 1, lo, hi, p => (1 ≤ p ∧ p ≤ s.length) ∧ good s p lo hi = true ∧ (if d = 0 then (nod s p).2 = [] else (nod s p).2 ≠ [] ∧ ∀ (i : Nat) (h : i < (nod s p).2.length), Fit s d (loOf (nod s p) lo i) (hiOf (nod s p) hi i) (nod s p).2[i])
def mark (m : List Bool) (l : List Int) : List Bool := l.foldl (fun m p => m.set (p.toNat - 1) true) m
theorem mark_length : ∀ (l : List Int) (m : List Bool), (mark m l).length = m.length
 | [], m => rfl
 | p :: l, m => by unfold mark; rw [List.foldl_cons]; exact (mark_length l _).trans (by rw [List.length_set])
theorem mark_append (m : List Bool) (l k : List Int) : mark m (l ++ k) = mark (mark m l) k := by unfold mark; rw [List.foldl_append]
theorem mark_cons (m : List Bool) (p : Int) (l : List Int) : mark m (p :: l) = mark (m.set (p.toNat - 1) true) l := rfl
theorem getD_set_bool (m : List Bool) (i j : Nat) (hi : i < m.length) : (m.set i true).getD j false = (decide (i = j) || m.getD j false) := by
 simp only [List.getD, List.getElem?_set]
 by_cases e : i = j
 · subst e
   rw [if_pos rfl, if_pos hi]
   simp
 · rw [if_neg e]
   simp [e]
theorem mark_get : ∀ (l : List Int) (m : List Bool) (q : Nat), (∀ p ∈ l, 1 ≤ p ∧ p ≤ m.length) → ((mark m l).getD q false = true ↔ m.getD q false = true ∨ ((q : Int) + 1) ∈ l)
 | [], m, q, _ => by simp [mark]
 | p :: l, m, q, h => by
   have hp := h p (by simp)
   rw [mark_cons, mark_get l _ q (fun r hr => by rw [List.length_set]; exact h r (by simp [hr])), getD_set_bool _ _ _ (by omega), Bool.or_eq_true, decide_eq_true_eq, List.mem_cons]
   have : p.toNat - 1 = q ↔ (q : Int) + 1 = p := by omega
   rw [this]
   constructor
   · rintro ((h | h) | h)
     · exact .inr (.inl h)
     · exact .inl h
     · exact .inr (.inr h)
   · rintro (h | h | h)
     · exact .inl (.inr h)
     · exact .inl (.inl h)
     · exact .inr h
theorem fit_pages {s : Pgs} : ∀ {d : Nat} {lo hi : Bnd} {p : Int}, Fit s d lo hi p → ∀ q ∈ pgs s d p, 1 ≤ q ∧ q ≤ s.length
 | d + 1, lo, hi, p, h, q, hq => by
   obtain ⟨h1, h2, h3⟩ := h
   rcases List.mem_cons.1 hq with rfl | hq
   · exact h1
   · by_cases hd : d = 0
     · rw [if_pos hd] at h3
       rw [h3] at hq
       simp at hq
     · rw [if_neg hd] at h3
       obtain ⟨k, hk, hqk⟩ := List.mem_flatMap.1 hq
       obtain ⟨i, hi', rfl⟩ := List.getElem_of_mem hk
       exact fit_pages (h3.2 i hi') q hqk
def done (s : Pgs) (f d : Nat) (p : Int) (w : Wk) : Wk := { met := mark w.met (pgs s d p), out := w.out ++ its s d p, leaf := 16 - f + d, bad := false }
def kpgs (s : Pgs) (d : Nat) (n : Nod) (j : Nat) : List Int := (n.2.take j).flatMap (pgs s d)
def kits (s : Pgs) (d : Nat) (n : Nod) (j : Nat) : List Itm := (n.2.take j).flatMap (its s d)
theorem kpgs_succ (s : Pgs) (d : Nat) (n : Nod) {j : Nat} (h : j < n.2.length) : kpgs s d n (j + 1) = kpgs s d n j ++ pgs s d n.2[j] := by
 unfold kpgs
 rw [List.take_succ_eq_append_getElem h, List.flatMap_append, List.flatMap_cons, List.flatMap_nil, List.append_nil]
theorem kits_succ (s : Pgs) (d : Nat) (n : Nod) {j : Nat} (h : j < n.2.length) : kits s d n (j + 1) = kits s d n j ++ its s d n.2[j] := by
 unfold kits
 rw [List.take_succ_eq_append_getElem h, List.flatMap_append, List.flatMap_cons, List.flatMap_nil, List.append_nil]
theorem getD_kid {n : Nod} {j : Nat} (h : j < n.2.length) : n.2.getD j 0 = n.2[j] := by simp [List.getD, List.getElem?_eq_getElem h]
theorem open_iff {s : Pgs} {p : Int} {w : Wk} : open_ s p w = true ↔ w.bad = false ∧ 1 ≤ p ∧ p ≤ s.length ∧ w.met.getD (p.toNat - 1) false = false := by
 unfold open_
 simp only [Bool.and_eq_true, Bool.not_eq_true', decide_eq_true_eq, and_assoc]
theorem walk_fit (s : Pgs) : ∀ (f d : Nat) (p : Int) (lo hi : Bnd) (w : Wk), d ≤ f → f ≤ 16 → Fit s d lo hi p → w.bad = false → w.met.length = s.length → (pgs s d p).Nodup → (∀ q ∈ pgs s d p, w.met.getD (q.toNat - 1) false = false) →
 (w.leaf = 0 ∨ w.leaf = 16 - f + d) → node s f p lo hi w = done s f d p w
 | f, 0, p, lo, hi, w, _, _, h, _, _, _, _, _ => False.elim h
 | 0, d + 1, p, lo, hi, w, h, _, _, _, _, _, _, _ => by omega
 | f + 1, d + 1, p, lo, hi, w, hdf, hf, hfit, hb, hm, hnd, hfree, hleaf => by
   obtain ⟨h1, h2, h3⟩ := hfit
   have ho : open_ s p w = true := open_iff.2 ⟨hb, h1.1, h1.2, hfree p (by simp [pgs])⟩
   unfold node
   rw [if_pos ho, if_pos h2]
   by_cases hd : d = 0
   · subst hd
     rw [if_pos rfl] at h3
     rw [if_pos h3]
     have e1 : 16 - f = 16 - (f + 1) + (0 + 1) := by omega
     have e2 : (decide (0 < w.leaf) && decide (w.leaf ≠ 16 - f)) = false := by
      rw [Bool.and_eq_false_iff, decide_eq_false_iff_not, decide_eq_false_iff_not]
      omega
     rw [e2]
     unfold done
     simp only [pgs, its, h3, List.flatMap_nil, mark_cons]
     simp only [mark, List.foldl_nil, if_true]
     rw [e1]
   · rw [if_neg hd] at h3
     obtain ⟨hne, hk⟩ := h3
     rw [if_neg hne]
     have hnd' := List.nodup_cons.1 hnd
     -- the kids, one by one
     have key : ∀ j, j ≤ (nod s p).2.length → kidsOf s f (nod s p) lo hi j { w with met := w.met.set (p.toNat - 1) true } =
      { met := mark w.met (p :: kpgs s d (nod s p) j), out := w.out ++ kits s d (nod s p) j, leaf := if j = 0 then w.leaf else 16 - f + d, bad := false } := by
      intro j
      induction j with
      | zero =>
        intro _
        rw [kidsOf_zero]
        simp only [kpgs, kits, List.take_zero, List.flatMap_nil, List.append_nil, mark_cons, if_true]
        simp only [mark, List.foldl_nil, hb]
      | succ j ih =>
        intro hj
        have hjl : j < (nod s p).2.length := by omega
        rw [kidsOf_succ, ih (by omega), getD_kid hjl]
        have hsub : ∀ q ∈ pgs s d (nod s p).2[j], q ∈ (nod s p).2.flatMap (pgs s d) := fun q hq => List.mem_flatMap.2 ⟨_, List.getElem_mem hjl, hq⟩
        have hsplit : (nod s p).2.flatMap (pgs s d) = kpgs s d (nod s p) j ++ (pgs s d (nod s p).2[j] ++ ((nod s p).2.drop (j + 1)).flatMap (pgs s d)) := by
         unfold kpgs
         conv => lhs; rw [← List.take_append_drop j (nod s p).2, List.drop_eq_getElem_cons hjl]
         rw [List.flatMap_append, List.flatMap_cons]
        have hnk := hnd'.2
        rw [hsplit] at hnk
        have hn1 := (List.nodup_append.1 hnk)
        have hn2 := (List.nodup_append.1 hn1.2.1)
        have hbnd : ∀ q ∈ (p :: kpgs s d (nod s p) j), 1 ≤ q ∧ q ≤ w.met.length := by
         intro q hq
         rw [hm]
         rcases List.mem_cons.1 hq with rfl | hq
         · exact h1
         · obtain ⟨k, hk', hqk⟩ := List.mem_flatMap.1 hq
           obtain ⟨i, hi', rfl⟩ := List.getElem_of_mem (List.mem_of_mem_take hk')
           exact fit_pages (hk i hi') q hqk
        rw [walk_fit s f d _ _ _ _ (by omega) (by omega) (hk j hjl) rfl (by simp only [mark_length, hm]) hn2.1 (fun q hq => ?_) ?_]
        · unfold done
          simp only [kpgs_succ s d _ hjl, kits_succ s d _ hjl, List.append_assoc]
          rw [← mark_append]
          simp only [List.cons_append]
          congr 1
        · simp only
          by_cases hj0 : j = 0
          · rw [if_pos hj0]
            rcases hleaf with h | h
            · exact .inl h
            · exact .inr (by omega)
          · rw [if_neg hj0]
            exact .inr rfl
        · have hq0 := fit_pages (hk j hjl) q hq
          rw [Bool.eq_false_iff]
          intro hmk
          have := (mark_get _ _ (q.toNat - 1) hbnd).1 hmk
          rcases this with h | h
          · rw [hfree q (by unfold pgs; exact List.mem_cons_of_mem _ (hsub q hq))] at h
            cases h
          · rw [show ((q.toNat - 1 : Nat) : Int) + 1 = q by omega] at h
            rcases List.mem_cons.1 h with rfl | h
            · exact hnd'.1 (hsub q hq)
            · exact hn1.2.2 q h q (List.mem_append_left _ hq) rfl
     have hall := key (nod s p).2.length (Nat.le_refl _)
     unfold kidsOf at hall
     rw [hall]
     have hpos : (nod s p).2.length ≠ 0 := fun h => hne (List.length_eq_zero_iff.1 h)
     unfold done
     rw [if_neg hpos]
     unfold kpgs kits
     simp only [List.take_length, pgs, its, if_neg hne]
     congr 1
     omega
end Tr
namespace Tr
open Oct Crc Lf
structure Found (s : Pgs) (f d : Nat) (lo hi : Bnd) (p : Int) (w : Wk) : Prop where
 pos : 1 ≤ d
 le : d ≤ f
 fit : Fit s d lo hi p
 was : w.bad = false
 nodup : (pgs s d p).Nodup
 free : ∀ q ∈ pgs s d p, w.met.getD (q.toNat - 1) false = false
 leaf : w.leaf = 0 ∨ w.leaf = 16 - f + d
structure Some (s : Pgs) (f d : Nat) (lo hi : Bnd) (p : Int) (w : Wk) (j : Nat) : Prop where
 pos : 1 ≤ d
 le : d ≤ f
 fit : ∀ (i : Nat) (h : i < (nod s p).2.length), i < j → Fit s d (loOf (nod s p) lo i) (hiOf (nod s p) hi i) (nod s p).2[i]
 eq : kidsOf s f (nod s p) lo hi j { w with met := w.met.set (p.toNat - 1) true } = { met := mark w.met (p :: kpgs s d (nod s p) j), out := w.out ++ kits s d (nod s p) j, leaf := 16 - f + d, bad := false }
 nodup : (p :: kpgs s d (nod s p) j).Nodup
 free : ∀ q ∈ (p :: kpgs s d (nod s p) j), w.met.getD (q.toNat - 1) false = false
 leaf : w.leaf = 0 ∨ w.leaf = 16 - f + d
theorem walk_found (s : Pgs) : ∀ (f : Nat) (p : Int) (lo hi : Bnd) (w : Wk), f ≤ 16 → w.met.length = s.length → (node s f p lo hi w).bad = false → ∃ d, Found s f d lo hi p w
 | 0, p, lo, hi, w, _, _, h => by unfold node at h; cases h
 | f + 1, p, lo, hi, w, hf, hm, h => by
   unfold node at h
   by_cases ho : open_ s p w = true
   · rw [if_pos ho] at h
     obtain ⟨hb, hp1, hp2, hmet⟩ := open_iff.1 ho
     by_cases hg : good s p lo hi = true
     · rw [if_pos hg] at h
       by_cases hk : (nod s p).2 = []
       · rw [if_pos hk] at h
         simp only [Bool.and_eq_false_iff, decide_eq_false_iff_not] at h
         refine ⟨1, ⟨Nat.le_refl _, by omega, ⟨⟨hp1, hp2⟩, hg, by rw [if_pos rfl]; exact hk⟩, hb, ?_, ?_, by omega⟩⟩
         · simp [pgs, hk]
         · intro q hq
           simp only [pgs, hk, List.flatMap_nil, List.mem_singleton] at hq
           rw [hq]; exact hmet
       · rw [if_neg hk] at h
         have hall : (kidsOf s f (nod s p) lo hi (nod s p).2.length { w with met := w.met.set (p.toNat - 1) true }).bad = false := h
         have key : ∀ j, 1 ≤ j → j ≤ (nod s p).2.length → (kidsOf s f (nod s p) lo hi j { w with met := w.met.set (p.toNat - 1) true }).bad = false → ∃ d, Some s f d lo hi p w j := by
          intro j
          induction j with
          | zero => intro h; omega
          | succ j ih =>
            intro _ hj hbad
            have hjl : j < (nod s p).2.length := by omega
            rw [kidsOf_succ] at hbad
            by_cases hj0 : j = 0
            · subst hj0
              rw [kidsOf_zero] at hbad
              obtain ⟨d, F⟩ := walk_found s f _ _ _ _ (by omega) (by simp only [List.length_set]; exact hm) hbad
              rw [getD_kid hjl] at F
              have hfr : ∀ q ∈ pgs s d (nod s p).2[0], q ≠ p ∧ w.met.getD (q.toNat - 1) false = false := by
               intro q hq
               have h0 := F.free q hq
               have hq0 := fit_pages F.fit q hq
               simp only at h0
               rw [getD_set_bool _ _ _ (by omega), Bool.or_eq_false_iff, decide_eq_false_iff_not] at h0
               exact ⟨fun e => h0.1 (by rw [e]), h0.2⟩
              have hk1 : kpgs s d (nod s p) (0 + 1) = pgs s d (nod s p).2[0] := by rw [kpgs_succ s d _ hjl]; simp [kpgs]
              refine ⟨d, ⟨F.pos, F.le, fun i hi' hij => ?_, ?_, ?_, ?_, ?_⟩⟩
              · obtain rfl : i = 0 := by omega
                exact F.fit
              · rw [kidsOf_succ, kidsOf_zero, getD_kid hjl, walk_fit s f d _ _ _ _ F.le (by omega) F.fit F.was (by simp only [List.length_set]; exact hm) F.nodup F.free F.leaf]
                unfold done
                rw [hk1, mark_cons]
                simp only [kits_succ s d _ hjl]
                simp [kits]
              · rw [hk1]
                exact List.nodup_cons.2 ⟨fun h => (hfr p h).1 rfl, F.nodup⟩
              · intro q hq
                rw [hk1] at hq
                rcases List.mem_cons.1 hq with rfl | hq
                · exact hmet
                · exact (hfr q hq).2
              · exact F.leaf
            · have hbj : (kidsOf s f (nod s p) lo hi j { w with met := w.met.set (p.toNat - 1) true }).bad = false := by
               cases hx : (kidsOf s f (nod s p) lo hi j { w with met := w.met.set (p.toNat - 1) true }).bad with
               | false => rfl
               | true => rw [node_bad _ _ _ _ _ _ hx, hx] at hbad; cases hbad
              obtain ⟨d, G⟩ := ih (by omega) (by omega) hbj
              rw [G.eq] at hbad
              obtain ⟨d', F⟩ := walk_found s f _ _ _ _ (by omega) (by simp only [mark_length]; exact hm) hbad
              rw [getD_kid hjl] at F
              have hdd : d' = d := by
               have := F.leaf
               have := G.pos
               simp only at *
               omega
              subst hdd
              have hbnd : ∀ q ∈ (p :: kpgs s d' (nod s p) j), 1 ≤ q ∧ q ≤ w.met.length := by
               intro q hq
               rw [hm]
               rcases List.mem_cons.1 hq with rfl | hq
               · exact ⟨hp1, hp2⟩
               · obtain ⟨k, hk', hqk⟩ := List.mem_flatMap.1 hq
                 obtain ⟨i, hi', e⟩ := List.getElem_of_mem hk'
                 rw [List.length_take] at hi'
                 rw [List.getElem_take] at e
                 subst e
                 exact fit_pages (G.fit i (by omega) (by omega)) q hqk
              have hfr : ∀ q ∈ pgs s d' (nod s p).2[j], q ∉ (p :: kpgs s d' (nod s p) j) ∧ w.met.getD (q.toNat - 1) false = false := by
               intro q hq
               have h0 := F.free q hq
               have hq0 := fit_pages F.fit q hq
               simp only at h0
               have hn : ¬ (mark w.met (p :: kpgs s d' (nod s p) j)).getD (q.toNat - 1) false = true := by rw [h0]; decide
               rw [mark_get _ _ _ hbnd, show ((q.toNat - 1 : Nat) : Int) + 1 = q by omega] at hn
               exact ⟨fun h => hn (.inr h), by
                cases hx : w.met.getD (q.toNat - 1) false with
                | false => rfl
                | true => exact absurd (.inl hx) hn⟩
              refine ⟨d', ⟨G.pos, G.le, fun i hi' hij => ?_, ?_, ?_, ?_, G.leaf⟩⟩
              · by_cases e : i = j
                · subst e; exact F.fit
                · exact G.fit i hi' (by omega)
              · rw [kidsOf_succ, G.eq, getD_kid hjl, walk_fit s f d' _ _ _ _ F.le (by omega) F.fit rfl (by simp only [mark_length]; exact hm) F.nodup F.free F.leaf]
                unfold done
                simp only [kpgs_succ s d' _ hjl, kits_succ s d' _ hjl, List.append_assoc]
                rw [← mark_append]
                simp only [List.cons_append]
              · rw [kpgs_succ s d' _ hjl, ← List.cons_append]
                refine List.nodup_append.2 ⟨G.nodup, F.nodup, fun a ha b hb e => ?_⟩
                subst e
                exact (hfr a hb).1 ha
              · intro q hq
                rw [kpgs_succ s d' _ hjl, ← List.cons_append] at hq
                rcases List.mem_append.1 hq with hq | hq
                · exact G.free q hq
                · exact (hfr q hq).2
         have hpos : (nod s p).2.length ≠ 0 := fun h => hk (List.length_eq_zero_iff.1 h)
         obtain ⟨d, G⟩ := key _ (by omega) (Nat.le_refl _) hall
         have e1 : kpgs s d (nod s p) (nod s p).2.length = (nod s p).2.flatMap (pgs s d) := by unfold kpgs; rw [List.take_length]
         refine ⟨d + 1, ⟨by omega, by have := G.le; omega, ⟨⟨hp1, hp2⟩, hg, ?_⟩, hb, ?_, ?_, ?_⟩⟩
         · rw [if_neg (by have := G.pos; omega)]
           exact ⟨hk, fun i hi' => G.fit i hi' hi'⟩
         · have := G.nodup; rw [e1] at this; exact this
         · have := G.free; rw [e1] at this; exact this
         · have := G.leaf; have := G.le; omega
     · rw [if_neg hg] at h; cases h
   · rw [if_neg ho] at h; cases h
def Up (l : List Itm) : Prop := l.Pairwise fun x y => x.1.toNat < y.1.toNat
theorem up_of_rise : ∀ {l : List Itm}, rise l = true → Up l
 | [], _ => List.Pairwise.nil
 | [x], _ => by unfold Up; simp
 | x :: y :: l, h => by
   simp only [rise, Bool.and_eq_true, decide_eq_true_eq] at h
   have ih := up_of_rise h.2
   unfold Up at ih ⊢
   refine List.pairwise_cons.2 ⟨fun z hz => ?_, ih⟩
   rcases List.mem_cons.1 hz with rfl | hz
   · exact h.1
   · exact Nat.lt_trans h.1 ((List.pairwise_cons.1 ih).1 z hz)
theorem above_le {lo : Bnd} {a b : UInt64} (h : above lo a = true) (hab : a.toNat ≤ b.toNat) : above lo b = true := by
 unfold above at *
 cases lo with
 | none => rfl
 | some c => simp only [decide_eq_true_eq] at *; omega
theorem under_le {hi : Bnd} {a b : UInt64} (h : under hi b = true) (hab : a.toNat ≤ b.toNat) : under hi a = true := by
 unfold under at *
 cases hi with
 | none => rfl
 | some c => simp only [decide_eq_true_eq] at *; omega
theorem good_ok {s : Pgs} {p : Int} {lo hi : Bnd} (h : good s p lo hi = true) : Lf.Ok (nod s p) ∧ enc (nod s p) = page s p ∧ ∀ x ∈ (nod s p).1, above lo x.1 = true ∧ under hi x.1 = true := by
 unfold good at h
 rw [Bool.and_eq_true, decide_eq_true_eq] at h
 have h1 := enc_decode h.1
 refine ⟨ok_iff.1 h1.1, h1.2, fun x hx => ?_⟩
 have := List.all_eq_true.1 h.2 x hx
 rwa [Bool.and_eq_true] at this
theorem lo_of {n : Nod} {lo : Bnd} {i : Nat} (hi : i ≤ n.1.length) (hlo : ∀ x ∈ n.1, above lo x.1 = true) {k : UInt64} (h : above (loOf n lo i) k = true) : above lo k = true := by
 unfold loOf at h
 by_cases h0 : 0 < i
 · rw [if_pos h0, List.getElem?_eq_getElem (show i - 1 < n.1.length by omega)] at h
   simp only [Option.map_some, above, decide_eq_true_eq] at h
   exact above_le (hlo _ (List.getElem_mem (show i - 1 < n.1.length by omega))) h
 · rw [if_neg h0] at h; exact h
theorem hi_of {n : Nod} {hi : Bnd} {i : Nat} (hhi : ∀ x ∈ n.1, under hi x.1 = true) {k : UInt64} (h : under (hiOf n hi i) k = true) : under hi k = true := by
 unfold hiOf at h
 by_cases h0 : i < n.1.length
 · rw [if_pos h0, List.getElem?_eq_getElem h0] at h
   simp only [Option.map_some, under, decide_eq_true_eq] at h
   exact under_le (hhi _ (List.getElem_mem h0)) (Nat.le_of_lt h)
 · rw [if_neg h0] at h; exact h
theorem fit_up {s : Pgs} : ∀ {d : Nat} {lo hi : Bnd} {p : Int}, Fit s d lo hi p → Up (its s d p) ∧ ∀ x ∈ its s d p, above lo x.1 = true ∧ under hi x.1 = true
 | d + 1, lo, hi, p, h => by
   obtain ⟨h1, h2, h3⟩ := h
   obtain ⟨hok, -, hin⟩ := good_ok h2
   unfold its
   by_cases hd : d = 0
   · rw [if_pos hd] at h3
     rw [if_pos h3]
     exact ⟨up_of_rise hok.rises, hin⟩
   · rw [if_neg hd] at h3
     obtain ⟨hne, hk⟩ := h3
     rw [if_neg hne]
     have hlen : (nod s p).2.length = (nod s p).1.length + 1 := hok.kids.resolve_left (fun h => hne (by unfold isLeaf at h; exact List.isEmpty_iff.1 h))
     have hup := up_of_rise hok.rises
     have key : ∀ j, j ≤ (nod s p).2.length → Up (kits s d (nod s p) j) ∧ ∀ x ∈ kits s d (nod s p) j, above lo x.1 = true ∧ under hi x.1 = true ∧ (j < (nod s p).2.length → under (hiOf (nod s p) hi (j - 1)) x.1 = true) := by
      intro j
      induction j with
      | zero => intro _; exact ⟨by unfold Up kits; simp, fun x hx => by simp [kits] at hx⟩
      | succ j ih =>
        intro hj
        have hjl : j < (nod s p).2.length := by omega
        obtain ⟨i1, i2⟩ := ih (by omega)
        obtain ⟨f1, f2⟩ := fit_up (hk j hjl)
        rw [kits_succ s d _ hjl]
        refine ⟨List.pairwise_append.2 ⟨i1, f1, fun a ha b hb => ?_⟩, fun x hx => ?_⟩
        · -- all that stands ahead of the j-th kid is below its first key
          have hb1 := (f2 b hb).1
          have ha1 := (i2 a ha).2.2 hjl
          by_cases hj0 : j = 0
          · subst hj0; simp [kits] at ha
          · unfold loOf at hb1
            rw [if_pos (by omega), List.getElem?_eq_getElem (show j - 1 < (nod s p).1.length by omega)] at hb1
            unfold hiOf at ha1
            rw [if_pos (show j - 1 < (nod s p).1.length by omega), List.getElem?_eq_getElem (show j - 1 < (nod s p).1.length by omega)] at ha1
            simp only [Option.map_some, above, under, decide_eq_true_eq] at hb1 ha1
            omega
        · have hnew : ∀ x ∈ its s d (nod s p).2[j], above lo x.1 = true ∧ under hi x.1 = true ∧ (j + 1 < (nod s p).2.length → under (hiOf (nod s p) hi (j + 1 - 1)) x.1 = true) := fun x hx =>
           ⟨lo_of (by omega) (fun y hy => (hin y hy).1) (f2 x hx).1, hi_of (fun y hy => (hin y hy).2) (f2 x hx).2, fun _ => (f2 x hx).2⟩
          rcases List.mem_append.1 hx with hx | hx
          · refine ⟨(i2 x hx).1, (i2 x hx).2.1, fun hlt => ?_⟩
            have hx1 := (i2 x hx).2.2 hjl
            by_cases hj0 : j = 0
            · subst hj0; simp [kits] at hx
            · have hr := List.pairwise_iff_getElem.1 hup (j - 1) j (by omega) (by omega) (by omega)
              unfold hiOf at hx1 ⊢
              rw [if_pos (show j - 1 < (nod s p).1.length by omega), List.getElem?_eq_getElem (show j - 1 < (nod s p).1.length by omega)] at hx1
              rw [show j + 1 - 1 = j by omega, if_pos (show j < (nod s p).1.length by omega), List.getElem?_eq_getElem (show j < (nod s p).1.length by omega)]
              simp only [Option.map_some, under, decide_eq_true_eq] at hx1 ⊢
              omega
          · exact hnew x hx
     obtain ⟨k1, k2⟩ := key _ (Nat.le_refl _)
     unfold kits at k1 k2
     rw [List.take_length] at k1 k2
     exact ⟨k1, fun x hx => ⟨(k2 x hx).1, (k2 x hx).2.1⟩⟩
end Tr
namespace Tr
open Oct Crc Lf
def none_ (s : Pgs) : Wk := { met := List.replicate s.length false, out := [], leaf := 0, bad := false }
def walk (s : Pgs) (root : Int) : Wk := node s 16 root none none (none_ s)
def readE (s : Pgs) (root : Int) : Int := if 2048 < s.length then 3 else if root = 0 then 0 else if (walk s root).bad = true then 9 else 0
def readI (s : Pgs) (root : Int) : List Itm := if readE s root = 0 ∧ root ≠ 0 then (walk s root).out else []
def numbers (m : List Bool) : List Int := ((List.range m.length).filter fun i => m.getD i false).map fun (i : Nat) => (i : Int) + 1
def readP (s : Pgs) (root : Int) : List Int := if readE s root = 0 ∧ root ≠ 0 then numbers (walk s root).met else []
theorem none_met (s : Pgs) (q : Nat) : (none_ s).met.getD q false = false := by
 unfold none_
 simp only [List.getD, List.getElem?_replicate]
 split <;> rfl
theorem mem_numbers {m : List Bool} {q : Int} : q ∈ numbers m ↔ 1 ≤ q ∧ q ≤ m.length ∧ m.getD (q.toNat - 1) false = true := by
 unfold numbers
 simp only [List.mem_map, List.mem_filter, List.mem_range]
 constructor
 · rintro ⟨i, ⟨h1, h2⟩, rfl⟩
   refine ⟨by omega, by omega, ?_⟩
   rw [show ((i : Int) + 1).toNat - 1 = i by omega]; exact h2
 · rintro ⟨h1, h2, h3⟩
   exact ⟨q.toNat - 1, ⟨by omega, h3⟩, by omega⟩
structure Whole (s : Pgs) (root : Int) (d : Nat) : Prop where
 pos : 1 ≤ d
 le : d ≤ 16
 fit : Fit s d none none root
 nodup : (pgs s d root).Nodup
theorem whole_walk {s : Pgs} {root : Int} {d : Nat} (h : Whole s root d) : walk s root = { met := mark (none_ s).met (pgs s d root), out := its s d root, leaf := d, bad := false } := by
 unfold walk
 rw [walk_fit s 16 d root none none (none_ s) h.le (Nat.le_refl _) h.fit rfl (by simp [none_]) h.nodup (fun q _ => none_met s _) (.inl rfl)]
 unfold done
 simp [none_]
theorem whole_of {s : Pgs} {root : Int} (h : (walk s root).bad = false) : ∃ d, Whole s root d := by
 obtain ⟨d, F⟩ := walk_found s 16 root none none (none_ s) (Nat.le_refl _) (by simp [none_]) h
 exact ⟨d, ⟨F.pos, F.le, F.fit, F.nodup⟩⟩
theorem fit_root {s : Pgs} {d : Nat} {lo hi : Bnd} {p : Int} (h : Fit s d lo hi p) : 1 ≤ p ∧ p ≤ s.length := by
 cases d with
 | zero => exact False.elim h
 | succ d => exact h.1
theorem read_zero {s : Pgs} {root : Int} (h : readE s root = 0) : s.length ≤ 2048 ∧ (root = 0 ∧ readI s root = [] ∧ readP s root = [] ∨ root ≠ 0 ∧ ∃ d, Whole s root d ∧ readI s root = its s d root ∧ readP s root = numbers (mark (none_ s).met (pgs s d root))) := by
 have h0 := h
 unfold readE at h
 by_cases h1 : 2048 < s.length
 · rw [if_pos h1] at h; cases h
 · rw [if_neg h1] at h
   refine ⟨by omega, ?_⟩
   by_cases h2 : root = 0
   · refine .inl ⟨h2, ?_, ?_⟩
     · unfold readI; rw [if_neg (fun h => h.2 h2)]
     · unfold readP; rw [if_neg (fun h => h.2 h2)]
   · rw [if_neg h2] at h
     refine .inr ⟨h2, ?_⟩
     cases hb : (walk s root).bad with
     | true => rw [hb, if_pos rfl] at h; cases h
     | false =>
       obtain ⟨d, hw⟩ := whole_of hb
       refine ⟨d, hw, ?_, ?_⟩
       · unfold readI; rw [if_pos ⟨h0, h2⟩, whole_walk hw]
       · unfold readP; rw [if_pos ⟨h0, h2⟩, whole_walk hw]
theorem read_whole {s : Pgs} {root : Int} {d : Nat} (hl : s.length ≤ 2048) (h : Whole s root d) : readE s root = 0 ∧ readI s root = its s d root ∧ readP s root = numbers (mark (none_ s).met (pgs s d root)) := by
 have h0 : root ≠ 0 := fun e => by have := (fit_root h.fit).1; omega
 have hw := whole_walk h
 have e : readE s root = 0 := by unfold readE; rw [if_neg (by omega), if_neg h0, hw]; rfl
 refine ⟨e, ?_, ?_⟩
 · unfold readI; rw [if_pos ⟨e, h0⟩, hw]
 · unfold readP; rw [if_pos ⟨e, h0⟩, hw]
theorem mem_readP {s : Pgs} {root : Int} {d : Nat} (hl : s.length ≤ 2048) (h : Whole s root d) (q : Int) : q ∈ readP s root ↔ q ∈ pgs s d root := by
 have hp := fit_pages h.fit
 have hn : (none_ s).met.length = s.length := by simp [none_]
 rw [(read_whole hl h).2.2, mem_numbers, mark_length, hn]
 constructor
 · rintro ⟨h1, h2, h3⟩
   have := (mark_get _ _ _ (fun r hr => by rw [hn]; exact hp r hr)).1 h3
   rw [none_met, show ((q.toNat - 1 : Nat) : Int) + 1 = q by omega] at this
   rcases this with h | h
   · cases h
   · exact h
 · intro hq
   obtain ⟨h1, h2⟩ := hp q hq
   refine ⟨h1, h2, (mark_get _ _ _ (fun r hr => by rw [hn]; exact hp r hr)).2 (.inr ?_)⟩
   rw [show ((q.toNat - 1 : Nat) : Int) + 1 = q by omega]
   exact hq
theorem flat_congr {α β : Type} {f g : α → List β} : ∀ {l : List α}, (∀ a ∈ l, f a = g a) → l.flatMap f = l.flatMap g
 | [], _ => rfl
 | x :: l, h => by rw [List.flatMap_cons, List.flatMap_cons, h x (by simp), flat_congr (l := l) fun a ha => h a (by simp [ha])]
theorem fit_same {s s' : Pgs} : ∀ {d : Nat} {lo hi : Bnd} {p : Int}, Fit s d lo hi p → (∀ q ∈ pgs s d p, q ≤ s'.length ∧ page s' q = page s q) → Fit s' d lo hi p ∧ its s' d p = its s d p ∧ pgs s' d p = pgs s d p
 | d + 1, lo, hi, p, h, hs => by
   obtain ⟨h1, h2, h3⟩ := h
   obtain ⟨q1, q2⟩ := hs p (by simp [pgs])
   have hn : nod s' p = nod s p := by unfold nod; rw [q2]
   have hg : good s' p lo hi = true := by unfold good at h2 ⊢; rw [q2, hn]; exact h2
   by_cases hd : d = 0
   · rw [if_pos hd] at h3
     refine ⟨⟨⟨h1.1, q1⟩, hg, by rw [if_pos hd, hn]; exact h3⟩, ?_, ?_⟩
     · unfold its; rw [hn, if_pos h3, if_pos h3]
     · unfold pgs; rw [hn, h3]; simp
   · rw [if_neg hd] at h3
     have hk : ∀ (i : Nat) (hi' : i < (nod s p).2.length), _ := fun i hi' => fit_same (h3.2 i hi') (fun q hq => hs q (by unfold pgs; exact List.mem_cons_of_mem _ (List.mem_flatMap.2 ⟨_, List.getElem_mem hi', hq⟩)))
     have e1 : (nod s p).2.flatMap (its s' d) = (nod s p).2.flatMap (its s d) := flat_congr fun k hk' => by
      obtain ⟨i, hi', rfl⟩ := List.getElem_of_mem hk'
      exact (hk i hi').2.1
     have e2 : (nod s p).2.flatMap (pgs s' d) = (nod s p).2.flatMap (pgs s d) := flat_congr fun k hk' => by
      obtain ⟨i, hi', rfl⟩ := List.getElem_of_mem hk'
      exact (hk i hi').2.2
     refine ⟨⟨⟨h1.1, q1⟩, hg, ?_⟩, ?_, ?_⟩
     · rw [if_neg hd, hn]
       exact ⟨h3.1, fun i hi' => (hk i hi').1⟩
     · unfold its; rw [hn, if_neg h3.1, if_neg h3.1, e1]
     · unfold pgs; rw [hn, e2]
theorem whole_same {s s' : Pgs} {root : Int} {d : Nat} (h : Whole s root d) (hs : ∀ q ∈ pgs s d root, q ≤ s'.length ∧ page s' q = page s q) : Whole s' root d ∧ its s' d root = its s d root ∧ pgs s' d root = pgs s d root := by
 obtain ⟨f1, f2, f3⟩ := fit_same h.fit hs
 exact ⟨⟨h.pos, h.le, f1, by rw [f3]; exact h.nodup⟩, f2, f3⟩
def rangeOf (l : List Itm) (from_ : UInt64) (n : Nat) : List Itm := (l.filter fun x => decide (from_.toNat ≤ x.1.toNat)).take n
end Tr
end Go.Proofs.YtkbmadoaomoojaaGreat
