/-
  Facts that the proof rests on, part 8. Conditions: those that each of them names.
-/
import Derived.Deep.DeepCutAuto
import Derived.Deep.RegionWith
import Derived.Test.YtkbmadoaomoojaaGreatT00
import Derived.Test.YtkbmadoaomoojaaGreatT06
namespace Go.Proofs.YtkbmadoaomoojaaGreat
set_option maxHeartbeats 16000000
set_option maxRecDepth 20000
open Go.RowKit
set_option linter.unusedVariables false
theorem Owns.elem {α β : Type} {A : Rep α} {C : Rep β} {e : TypeId} {base : Nat} {wr w5 : World} {v : Value} {l : List α} (O : Owns A e wr base v l) (hb : base ≤ wr.heap.size) {cs : List Value} {x : β} {P : Nat → Prop} (h : C.rd w5 P cs x) (hP : ∀ b, P b → wr.heap.size ≤ b) (o : Obj) :
 C.rd (w5.alloc o) (fun b => base ≤ b ∧ v.ownBlock ≠ some b) cs x :=
 C.weaken (Rep.below h ((Below.refl _ _).alloc (zw0 _) _)) (fun b hb _ => ⟨by have := hP b hb; omega, fun e => by have := O.row b e; have := hP b hb; omega⟩)
theorem qVJ (w : World) (P : Nat → Prop) (a : Option Addr) (n c : Nat) (L : List (List UInt8)) (h : rSectors.rd w P [.slice a n c] L) :
 Calls Tryz.prog 20 #[.slice a n c] w fun e w' => ∃ b d, e = .returned (.slice b n d) ∧ rSectors.rd w' (fun k => w.heap.size ≤ k) [.slice b n d] L ∧ Below w.heap.size w w' := by
 have hl : L.length = n ∧ n ≤ 5864062014634 := by
  obtain ⟨a', n', c', e, h1, _, _, h4, _⟩ := h
  simp only [List.cons.injEq, Value.slice.injEq, and_true] at e
  obtain ⟨rfl, rfl, rfl⟩ := e
  have h5 : n * 24 ≤ 140737488351232 := h4
  exact ⟨h1, by omega⟩
 obtain ⟨hn, hn2⟩ := hl
 have HN : Hid _ := hn
 clear hn
 have H0 : Owns rBytes 53 w w.heap.size (.slice none 0 0) (L.take 0) := by rw [List.take_zero]; exact Owns.nil _ _ _ _
 go_enter Tryz.func20, Tryz.ntmps20
 go_wp2
 go_loopw [3, 4] (fun s i wr => ∃ (k : Nat) (M : List (List UInt8)), k ≤ n ∧ i = .int .i64 k ∧ M.length = k ∧ Hid (M = L.take k) ∧ Hid (Owns rBytes 53 wr w.heap.size s M) ∧ Below w.heap.size w wr) (fun _ i _ => n - (intOf i).toNat)
 case atStart => exact ⟨0, _, Nat.zero_le _, rfl, by simp, rfl, H0, Below.refl _ _⟩
 case round =>
  obtain ⟨k, M, hk, rfl, hml, HMk, O, bel⟩ := hrel
  clear H0
  by_cases hlt : k < n
  · have hAr := Rep.below h bel
    obtain ⟨g, off, rfl, -, hgl, hat⟩ := q8X hAr (by omega)
    have hkl : k < L.length := by rw [HN.out]; exact hlt
    obtain ⟨x, l, e, hx, hl, hcell⟩ := hat k hkl
    have HNX : Hid (M ++ [L[k]] = L.take (k + 1)) := by unfold Hid; rw [HMk.out, List.take_succ_eq_append_getElem hkl]
    have hz : w.heap.size ≤ wr.heap.size := bel.size
    have hok : Hid ((k + 1) * 24 ≤ 140737488355328 ∧ k + 1 ≤ maxLen) := ⟨by omega, by unfold maxLen; omega⟩
    clear hat hl hAr
    generalize L[k] = X at *
    go_wp2_with (first
     | (go_at_call 42
        refine (copy_r _ _ x l e _ hx).mono ?_
        rintro e w5 ⟨b5, d5, rfl, hr5, bb5⟩
        have hz5 : w.heap.size ≤ (w5.alloc (.cells #[.slice b5 l d5] 53)).heap.size := by have := bb5.size; simp only [World.size_alloc]; omega)
     | (at_builtin
        (refine append_rep elem_sectors rfl _ _ rfl w.heap.size _ M rfl ((O.out.below bb5).below ((Below.refl _ _).alloc (zw0 _) _)) ⟨w5.heap.size, 0, none⟩ [.slice b5 l d5] X rfl (cell_one_new _ _ _) (O.out.elem hz hr5 (fun b hb => hb) _) (by rw [hml]; exact hok.out.1) (by rw [hml]; exact hok.out.2) hz5 ?_; intro b6 d6 w6 ho6 g6; rw [hml] at ho6)))
    go_roundw
    case rel => exact ⟨k + 1, M ++ [X], by omega, by go_num, by simp [hml], HNX, ho6, ((on bel bb5).alloc (by have := bb5.size; omega) _).grown g6 hz5 (fun k hk => (O.out.row k hk).1)⟩
    case measure => simp [intOf]; omega
  · obtain rfl : k = n := by omega
    go_wp2
    go_ret
    rw [List.take_of_length_le (by rw [HN.out]; exact zw0 _)] at HMk
    obtain ⟨a', c', e1, e2⟩ := Owns.rd (hs := by decide) O.out (by rw [hml]; show k * 24 ≤ _; omega)
    rw [hml, HMk.out] at e2
    rw [hml] at e1
    exact ⟨a', c', by rw [← e1]; rfl, e2, bel⟩
theorem q4q {w : World} {P : Nat → Prop} {a : Option Addr} {n c : Nat} {L : List (List UInt8)} (h : rSectors.rd w P [.slice a n c] L) : L.length = n ∧ n ≤ 5864062014634 := by
 obtain ⟨a', n', c', e, h1, _, _, h4, _⟩ := h
 simp only [List.cons.injEq, Value.slice.injEq, and_true] at e
 obtain ⟨rfl, rfl, rfl⟩ := e
 have h5 : n * 24 ≤ 140737488351232 := h4
 exact ⟨h1, by omega⟩
end Go.Proofs.YtkbmadoaomoojaaGreat
namespace Go.Proofs.YtkbmadoaomoojaaGreat
set_option maxHeartbeats 16000000
set_option maxRecDepth 20000
set_option linter.unusedVariables false
namespace Lf
theorem rise_iff : ∀ {l : List Itm}, rise l = true ↔ ∀ (j : Nat) (h : j + 1 < l.length), l[j].1.toNat < l[j + 1].1.toNat
 | [] => by simp [rise]
 | [x] => by simp [rise]
 | x :: y :: l => by
   rw [rise, Bool.and_eq_true, decide_eq_true_eq, rise_iff (l := y :: l)]
   constructor
   · rintro ⟨h1, h2⟩ j h
     cases j with
     | zero => exact h1
     | succ j => exact h2 j (by simpa using h)
   · intro h
     exact ⟨h 0 (by simp), fun j hj => h (j + 1) (by simpa using hj)⟩
theorem apart_iff : ∀ {l : List Int}, apart l = true ↔ l.Pairwise (· ≠ ·)
 | [] => by simp [apart]
 | k :: l => by
   rw [apart, Bool.and_eq_true, decide_eq_true_eq, apart_iff (l := l), List.pairwise_cons]
   constructor
   · rintro ⟨h1, h2⟩
     exact ⟨fun a ha e => h1 (e ▸ ha), h2⟩
   · rintro ⟨h1, h2⟩
     exact ⟨fun hk => h1 k hk rfl, h2⟩
def LenOk (n : Nod) : Prop := 1 ≤ n.1.length ∧ n.1.length ≤ 3 ∧ (n.2.length = 0 ∨ n.2.length = n.1.length + 1)
def ItemOk (n : Nod) (j : Nat) : Prop := ∀ h : j < n.1.length, (0 < j → n.1[j - 1].1.toNat < n.1[j].1.toNat) ∧ (0 < n.2.length → n.1[j].2.toNat = 0)
def KidOk (n : Nod) (j : Nat) : Prop := ∀ h : j < n.2.length, (1 ≤ n.2[j] ∧ n.2[j] ≤ 2048) ∧ ∀ (i : Nat) (hi : i < j), n.2[i] ≠ n.2[j]
theorem leaf_iff {n : Nod} : isLeaf n = true ↔ n.2.length = 0 := by
 unfold isLeaf
 rw [List.isEmpty_iff, List.length_eq_zero_iff]
theorem parts_iff {n : Nod} : Ok n ↔ LenOk n ∧ (∀ j, ItemOk n j) ∧ ∀ j, KidOk n j := by
 constructor
 · intro h
   refine ⟨⟨h.some_, h.few, h.kids.imp leaf_iff.1 id⟩, fun j hj => ⟨fun h0 => ?_, fun h0 => ?_⟩, fun j hj => ⟨h.pages _ (List.getElem_mem hj), fun i hi => ?_⟩⟩
   · have := rise_iff.1 h.rises (j - 1) (by omega)
     simpa only [Nat.sub_add_cancel h0] using this
   · have := h.bare.resolve_left (fun e => by have := leaf_iff.1 e; omega) _ (List.getElem_mem hj)
     rw [this]; rfl
   · exact List.pairwise_iff_getElem.1 (apart_iff.1 h.apart_) i j (by omega) hj hi
 · rintro ⟨⟨h1, h2, h3⟩, h4, h5⟩
   refine ⟨h1, h2, h3.imp leaf_iff.2 id, rise_iff.2 fun j h => ?_, ?_, fun k hk => ?_, apart_iff.2 (List.pairwise_iff_getElem.2 fun i j hi hj hij => (h5 j hj).2 i hij)⟩
   · exact (h4 (j + 1) h).1 (by omega)
   · rcases Nat.eq_zero_or_pos n.2.length with h0 | h0
     · exact Or.inl (leaf_iff.2 h0)
     · refine Or.inr fun x hx => ?_
       obtain ⟨j, hj, rfl⟩ := List.getElem_of_mem hx
       exact UInt64.toNat_inj.1 ((h4 j hj).2 h0)
   · obtain ⟨j, hj, rfl⟩ := List.getElem_of_mem hk
     exact (h5 j hj).1
theorem enc9 {n : Nod} (h : ¬ (LenOk n ∧ (∀ j, ItemOk n j) ∧ ∀ j, KidOk n j)) : encodeE n = 9 := by
 unfold encodeE
 exact if_neg fun e => h (parts_iff.1 (ok_iff.1 e))
theorem enc0 {n : Nod} (h : LenOk n ∧ (∀ j, ItemOk n j) ∧ ∀ j, KidOk n j) : encodeE n = 0 := by
 unfold encodeE
 exact if_pos (ok_iff.2 (parts_iff.2 h))
end Lf
abbrev Pgs := List (List UInt8)
abbrev Bnd := Option UInt64
namespace Tr
open Oct Crc Lf
structure Wk where
 met : List Bool
 out : List Itm
 leaf : Nat
 bad : Bool
def page (s : Pgs) (p : Int) : List UInt8 := s.getD (p.toNat - 1) []
def nod (s : Pgs) (p : Int) : Nod := decodeN (page s p)
def above (lo : Bnd) (k : UInt64) : Bool := match lo with | none => true | some a => decide (a.toNat ≤ k.toNat)
def under (hi : Bnd) (k : UInt64) : Bool := match hi with | none => true | some a => decide (k.toNat < a.toNat)
def within (lo hi : Bnd) (n : Nod) : Bool := n.1.all fun x => above lo x.1 && under hi x.1
def loOf (n : Nod) (lo : Bnd) (i : Nat) : Bnd := if 0 < i then (n.1[i - 1]?).map (·.1) else lo
def hiOf (n : Nod) (hi : Bnd) (i : Nat) : Bnd := if i < n.1.length then (n.1[i]?).map (·.1) else hi
def open_ (s : Pgs) (p : Int) (w : Wk) : Bool := !w.bad && decide (1 ≤ p) && decide (p ≤ s.length) && !w.met.getD (p.toNat - 1) false
def good (s : Pgs) (p : Int) (lo hi : Bnd) : Bool := decide (decodeE (page s p) = 0) && within lo hi (nod s p)
def node (s : Pgs) : Nat → Int → Bnd → Bnd → Wk → Wk
 | 0, _, _, _, w => { w with bad := true }
 | f + 1, p, lo, hi, w =>
   if open_ s p w = true then
    if good s p lo hi = true then
     if (nod s p).2 = [] then { met := w.met.set (p.toNat - 1) true, out := w.out ++ (nod s p).1, leaf := 16 - f, bad := decide (0 < w.leaf) && decide (w.leaf ≠ 16 - f) }
     else (List.range (nod s p).2.length).foldl (fun v i => node s f ((nod s p).2.getD i 0) (loOf (nod s p) lo i) (hiOf (nod s p) hi i) v) { w with met := w.met.set (p.toNat - 1) true }
    else { w with met := w.met.set (p.toNat - 1) true, bad := true }
   else { w with bad := true }
def kidsOf (s : Pgs) (f : Nat) (n : Nod) (lo hi : Bnd) (j : Nat) (w : Wk) : Wk :=
 (List.range j).foldl (fun v i => node s f (n.2.getD i 0) (loOf n lo i) (hiOf n hi i) v) w
theorem qGX (s : Pgs) (f : Nat) (n : Nod) (lo hi : Bnd) (w : Wk) : kidsOf s f n lo hi 0 w = w := rfl
theorem kidsOf_succ (s : Pgs) (f : Nat) (n : Nod) (lo hi : Bnd) (j : Nat) (w : Wk) : kidsOf s f n lo hi (j + 1) w = node s f (n.2.getD j 0) (loOf n lo j) (hiOf n hi j) (kidsOf s f n lo hi j w) := by
 unfold kidsOf
 rw [List.range_succ, List.foldl_append]
 rfl
theorem node_bad (s : Pgs) : ∀ (f : Nat) (p : Int) (lo hi : Bnd) (w : Wk), w.bad = true → node s f p lo hi w = w
 | 0, p, lo, hi, w, h => by unfold node; cases w; simp only at h; rw [h]
 | f + 1, p, lo, hi, w, h => by
   have : open_ s p w = false := by unfold open_; rw [h]; rfl
   unfold node
   rw [this]
   cases w
   simp only at h
   rw [h]
   rfl
def its (s : Pgs) : Nat → Int → List Itm
 | 0, _ => []
 | d + 1, p => if (nod s p).2 = [] then (nod s p).1 else (nod s p).2.flatMap (its s d)
def pgs (s : Pgs) : Nat → Int → List Int
 | 0, _ => []
 | d + 1, p => p :: (nod s p).2.flatMap (pgs s d)
def Fit (s : Pgs) : Nat → Bnd → Bnd → Int → Prop
 | 0, _, _, _ => False
 | d + 1, lo, hi, p => (1 ≤ p ∧ p ≤ s.length) ∧ good s p lo hi = true ∧ (if d = 0 then (nod s p).2 = [] else (nod s p).2 ≠ [] ∧ ∀ (i : Nat) (h : i < (nod s p).2.length), Fit s d (loOf (nod s p) lo i) (hiOf (nod s p) hi i) (nod s p).2[i])
def mark (m : List Bool) (l : List Int) : List Bool := l.foldl (fun m p => m.set (p.toNat - 1) true) m
theorem q9j : ∀ (l : List Int) (m : List Bool), (mark m l).length = m.length
 | [], m => rfl
 | p :: l, m => by unfold mark; rw [List.foldl_cons]; exact (q9j l _).trans (by rw [List.length_set])
theorem qPZ (m : List Bool) (l k : List Int) : mark m (l ++ k) = mark (mark m l) k := by unfold mark; rw [List.foldl_append]
theorem qIQ (m : List Bool) (p : Int) (l : List Int) : mark m (p :: l) = mark (m.set (p.toNat - 1) true) l := rfl
theorem qJz (m : List Bool) (i j : Nat) (hi : i < m.length) : (m.set i true).getD j false = (decide (i = j) || m.getD j false) := by
 simp only [List.getD, List.getElem?_set]
 by_cases e : i = j
 · subst e
   rw [if_pos rfl, if_pos hi]
   simp
 · rw [if_neg e]
   simp [e]
theorem qIx : ∀ (l : List Int) (m : List Bool) (q : Nat), (∀ p ∈ l, 1 ≤ p ∧ p ≤ m.length) → ((mark m l).getD q false = true ↔ m.getD q false = true ∨ ((q : Int) + 1) ∈ l)
 | [], m, q, _ => by simp [mark]
 | p :: l, m, q, h => by
   have hp := h p (by simp)
   rw [qIQ, qIx l _ q (fun r hr => by rw [List.length_set]; exact h r (by simp [hr])), qJz _ _ _ (by omega), Bool.or_eq_true, decide_eq_true_eq, List.mem_cons]
   have : p.toNat - 1 = q ↔ (q : Int) + 1 = p := by omega
   rw [this]
   constructor
   · rintro ((h | h) | h)
     · exact .inr (.inl h)
     · exact .inl h
     · exact .inr (.inr h)
   · rintro (h | h | h)
     · exact .inl (.inr h)
     · exact .inl (.inl h)
     · exact .inr h
theorem q2Q {s : Pgs} : ∀ {d : Nat} {lo hi : Bnd} {p : Int}, Fit s d lo hi p → ∀ q ∈ pgs s d p, 1 ≤ q ∧ q ≤ s.length
 | d + 1, lo, hi, p, h, q, hq => by
   obtain ⟨h1, h2, h3⟩ := h
   rcases List.mem_cons.1 hq with rfl | hq
   · exact h1
   · by_cases hd : d = 0
     · rw [if_pos hd] at h3
       rw [h3] at hq
       simp at hq
     · rw [if_neg hd] at h3
       obtain ⟨k, hk, hqk⟩ := List.mem_flatMap.1 hq
       obtain ⟨i, hi', rfl⟩ := List.getElem_of_mem hk
       exact q2Q (h3.2 i hi') q hqk
def done (s : Pgs) (f d : Nat) (p : Int) (w : Wk) : Wk := { met := mark w.met (pgs s d p), out := w.out ++ its s d p, leaf := 16 - f + d, bad := false }
def kpgs (s : Pgs) (d : Nat) (n : Nod) (j : Nat) : List Int := (n.2.take j).flatMap (pgs s d)
def kits (s : Pgs) (d : Nat) (n : Nod) (j : Nat) : List Itm := (n.2.take j).flatMap (its s d)
theorem q3Q (s : Pgs) (d : Nat) (n : Nod) {j : Nat} (h : j < n.2.length) : kpgs s d n (j + 1) = kpgs s d n j ++ pgs s d n.2[j] := by
 unfold kpgs
 rw [List.take_succ_eq_append_getElem h, List.flatMap_append, List.flatMap_cons, List.flatMap_nil, List.append_nil]
theorem q5j (s : Pgs) (d : Nat) (n : Nod) {j : Nat} (h : j < n.2.length) : kits s d n (j + 1) = kits s d n j ++ its s d n.2[j] := by
 unfold kits
 rw [List.take_succ_eq_append_getElem h, List.flatMap_append, List.flatMap_cons, List.flatMap_nil, List.append_nil]
theorem getD_kid {n : Nod} {j : Nat} (h : j < n.2.length) : n.2.getD j 0 = n.2[j] := by simp [List.getD, zw3 h]
theorem open_iff {s : Pgs} {p : Int} {w : Wk} : open_ s p w = true ↔ w.bad = false ∧ 1 ≤ p ∧ p ≤ s.length ∧ w.met.getD (p.toNat - 1) false = false := by
 unfold open_
 simp only [Bool.and_eq_true, Bool.not_eq_true', decide_eq_true_eq, and_assoc]
theorem qMq (s : Pgs) : ∀ (f d : Nat) (p : Int) (lo hi : Bnd) (w : Wk), d ≤ f → f ≤ 16 → Fit s d lo hi p → w.bad = false → w.met.length = s.length → (pgs s d p).Nodup → (∀ q ∈ pgs s d p, w.met.getD (q.toNat - 1) false = false) →
 (w.leaf = 0 ∨ w.leaf = 16 - f + d) → node s f p lo hi w = done s f d p w
 | f, 0, p, lo, hi, w, _, _, h, _, _, _, _, _ => False.elim h
 | 0, d + 1, p, lo, hi, w, h, _, _, _, _, _, _, _ => by omega
 | f + 1, d + 1, p, lo, hi, w, hdf, hf, hfit, hb, hm, hnd, hfree, hleaf => by
   obtain ⟨h1, h2, h3⟩ := hfit
   have ho : open_ s p w = true := open_iff.2 ⟨hb, h1.1, h1.2, hfree p (by simp [pgs])⟩
   unfold node
   rw [if_pos ho, if_pos h2]
   by_cases hd : d = 0
   · subst hd
     rw [if_pos rfl] at h3
     rw [if_pos h3]
     have e1 : 16 - f = 16 - (f + 1) + (0 + 1) := by omega
     have e2 : (decide (0 < w.leaf) && decide (w.leaf ≠ 16 - f)) = false := by
      rw [Bool.and_eq_false_iff, decide_eq_false_iff_not, decide_eq_false_iff_not]
      omega
     rw [e2]
     unfold done
     simp only [pgs, its, h3, List.flatMap_nil, qIQ]
     simp only [mark, List.foldl_nil, if_true]
     rw [e1]
   · rw [if_neg hd] at h3
     obtain ⟨hne, hk⟩ := h3
     rw [if_neg hne]
     have hnd' := List.nodup_cons.1 hnd
     -- the kids, one by one
     have key : ∀ j, j ≤ (nod s p).2.length → kidsOf s f (nod s p) lo hi j { w with met := w.met.set (p.toNat - 1) true } =
      { met := mark w.met (p :: kpgs s d (nod s p) j), out := w.out ++ kits s d (nod s p) j, leaf := if j = 0 then w.leaf else 16 - f + d, bad := false } := by
      intro j
      induction j with
      | zero =>
        intro _
        rw [qGX]
        simp only [kpgs, kits, List.take_zero, List.flatMap_nil, List.append_nil, qIQ, if_true]
        simp only [mark, List.foldl_nil, hb]
      | succ j ih =>
        intro hj
        have hjl : j < (nod s p).2.length := by omega
        rw [kidsOf_succ, ih (by omega), getD_kid hjl]
        have hsub : ∀ q ∈ pgs s d (nod s p).2[j], q ∈ (nod s p).2.flatMap (pgs s d) := fun q hq => List.mem_flatMap.2 ⟨_, List.getElem_mem hjl, hq⟩
        have hsplit : (nod s p).2.flatMap (pgs s d) = kpgs s d (nod s p) j ++ (pgs s d (nod s p).2[j] ++ ((nod s p).2.drop (j + 1)).flatMap (pgs s d)) := by
         unfold kpgs
         conv => lhs; rw [← List.take_append_drop j (nod s p).2, List.drop_eq_getElem_cons hjl]
         rw [List.flatMap_append, List.flatMap_cons]
        have hnk := hnd'.2
        rw [hsplit] at hnk
        have hn1 := (List.nodup_append.1 hnk)
        have hn2 := (List.nodup_append.1 hn1.2.1)
        have hbnd : ∀ q ∈ (p :: kpgs s d (nod s p) j), 1 ≤ q ∧ q ≤ w.met.length := by
         intro q hq
         rw [hm]
         rcases List.mem_cons.1 hq with rfl | hq
         · exact h1
         · obtain ⟨k, hk', hqk⟩ := List.mem_flatMap.1 hq
           obtain ⟨i, hi', rfl⟩ := List.getElem_of_mem (List.mem_of_mem_take hk')
           exact q2Q (hk i hi') q hqk
        rw [qMq s f d _ _ _ _ (by omega) (by omega) (hk j hjl) rfl (by simp only [q9j, hm]) hn2.1 (fun q hq => ?_) ?_]
        · unfold done
          simp only [q3Q s d _ hjl, q5j s d _ hjl, List.append_assoc]
          rw [← qPZ]
          simp only [List.cons_append]
          congr 1
        · simp only
          by_cases hj0 : j = 0
          · rw [if_pos hj0]
            rcases hleaf with h | h
            · exact .inl h
            · exact .inr (by omega)
          · rw [if_neg hj0]
            exact .inr rfl
        · have hq0 := q2Q (hk j hjl) q hq
          rw [Bool.eq_false_iff]
          intro hmk
          have := (qIx _ _ (q.toNat - 1) hbnd).1 hmk
          rcases this with h | h
          · rw [hfree q (by unfold pgs; exact List.mem_cons_of_mem _ (hsub q hq))] at h
            cases h
          · rw [show ((q.toNat - 1 : Nat) : Int) + 1 = q by omega] at h
            rcases List.mem_cons.1 h with rfl | h
            · exact hnd'.1 (hsub q hq)
            · exact hn1.2.2 q h q (List.mem_append_left _ hq) rfl
     have hall := key (nod s p).2.length (zw0 _)
     unfold kidsOf at hall
     rw [hall]
     have hpos : (nod s p).2.length ≠ 0 := fun h => hne (List.length_eq_zero_iff.1 h)
     unfold done
     rw [if_neg hpos]
     unfold kpgs kits
     simp only [List.take_length, pgs, its, if_neg hne]
     congr 1
     omega
end Tr
namespace Tr
open Oct Crc Lf
structure Found (s : Pgs) (f d : Nat) (lo hi : Bnd) (p : Int) (w : Wk) : Prop where
 pos : 1 ≤ d
 le : d ≤ f
 fit : Fit s d lo hi p
 was : w.bad = false
 nodup : (pgs s d p).Nodup
 free : ∀ q ∈ pgs s d p, w.met.getD (q.toNat - 1) false = false
 leaf : w.leaf = 0 ∨ w.leaf = 16 - f + d
structure Some (s : Pgs) (f d : Nat) (lo hi : Bnd) (p : Int) (w : Wk) (j : Nat) : Prop where
 pos : 1 ≤ d
 le : d ≤ f
 fit : ∀ (i : Nat) (h : i < (nod s p).2.length), i < j → Fit s d (loOf (nod s p) lo i) (hiOf (nod s p) hi i) (nod s p).2[i]
 eq : kidsOf s f (nod s p) lo hi j { w with met := w.met.set (p.toNat - 1) true } = { met := mark w.met (p :: kpgs s d (nod s p) j), out := w.out ++ kits s d (nod s p) j, leaf := 16 - f + d, bad := false }
 nodup : (p :: kpgs s d (nod s p) j).Nodup
 free : ∀ q ∈ (p :: kpgs s d (nod s p) j), w.met.getD (q.toNat - 1) false = false
 leaf : w.leaf = 0 ∨ w.leaf = 16 - f + d
theorem qKz (s : Pgs) : ∀ (f : Nat) (p : Int) (lo hi : Bnd) (w : Wk), f ≤ 16 → w.met.length = s.length → (node s f p lo hi w).bad = false → ∃ d, Found s f d lo hi p w
 | 0, p, lo, hi, w, _, _, h => by unfold node at h; cases h
 | f + 1, p, lo, hi, w, hf, hm, h => by
   unfold node at h
   by_cases ho : open_ s p w = true
   · rw [if_pos ho] at h
     obtain ⟨hb, hp1, hp2, hmet⟩ := open_iff.1 ho
     by_cases hg : good s p lo hi = true
     · rw [if_pos hg] at h
       by_cases hk : (nod s p).2 = []
       · rw [if_pos hk] at h
         simp only [Bool.and_eq_false_iff, decide_eq_false_iff_not] at h
         refine ⟨1, ⟨zw0 _, by omega, ⟨⟨hp1, hp2⟩, hg, by rw [if_pos rfl]; exact hk⟩, hb, ?_, ?_, by omega⟩⟩
         · simp [pgs, hk]
         · intro q hq
           simp only [pgs, hk, List.flatMap_nil, List.mem_singleton] at hq
           rw [hq]; exact hmet
       · rw [if_neg hk] at h
         have hall : (kidsOf s f (nod s p) lo hi (nod s p).2.length { w with met := w.met.set (p.toNat - 1) true }).bad = false := h
         have key : ∀ j, 1 ≤ j → j ≤ (nod s p).2.length → (kidsOf s f (nod s p) lo hi j { w with met := w.met.set (p.toNat - 1) true }).bad = false → ∃ d, Some s f d lo hi p w j := by
          intro j
          induction j with
          | zero => intro h; omega
          | succ j ih =>
            intro _ hj hbad
            have hjl : j < (nod s p).2.length := by omega
            rw [kidsOf_succ] at hbad
            by_cases hj0 : j = 0
            · subst hj0
              rw [qGX] at hbad
              obtain ⟨d, F⟩ := qKz s f _ _ _ _ (by omega) (by simp only [List.length_set]; exact hm) hbad
              rw [getD_kid hjl] at F
              have hfr : ∀ q ∈ pgs s d (nod s p).2[0], q ≠ p ∧ w.met.getD (q.toNat - 1) false = false := by
               intro q hq
               have h0 := F.free q hq
               have hq0 := q2Q F.fit q hq
               simp only at h0
               rw [qJz _ _ _ (by omega), Bool.or_eq_false_iff, decide_eq_false_iff_not] at h0
               exact ⟨fun e => h0.1 (by rw [e]), h0.2⟩
              have hk1 : kpgs s d (nod s p) (0 + 1) = pgs s d (nod s p).2[0] := by rw [q3Q s d _ hjl]; simp [kpgs]
              refine ⟨d, ⟨F.pos, F.le, fun i hi' hij => ?_, ?_, ?_, ?_, ?_⟩⟩
              · obtain rfl : i = 0 := by omega
                exact F.fit
              · rw [kidsOf_succ, qGX, getD_kid hjl, qMq s f d _ _ _ _ F.le (by omega) F.fit F.was (by simp only [List.length_set]; exact hm) F.nodup F.free F.leaf]
                unfold done
                rw [hk1, qIQ]
                simp only [q5j s d _ hjl]
                simp [kits]
              · rw [hk1]
                exact List.nodup_cons.2 ⟨fun h => (hfr p h).1 rfl, F.nodup⟩
              · intro q hq
                rw [hk1] at hq
                rcases List.mem_cons.1 hq with rfl | hq
                · exact hmet
                · exact (hfr q hq).2
              · exact F.leaf
            · have hbj : (kidsOf s f (nod s p) lo hi j { w with met := w.met.set (p.toNat - 1) true }).bad = false := by
               cases hx : (kidsOf s f (nod s p) lo hi j { w with met := w.met.set (p.toNat - 1) true }).bad with
               | false => rfl
               | true => rw [node_bad _ _ _ _ _ _ hx, hx] at hbad; cases hbad
              obtain ⟨d, G⟩ := ih (by omega) (by omega) hbj
              rw [G.eq] at hbad
              obtain ⟨d', F⟩ := qKz s f _ _ _ _ (by omega) (by simp only [q9j]; exact hm) hbad
              rw [getD_kid hjl] at F
              have hdd : d' = d := by
               have := F.leaf
               have := G.pos
               simp only at *
               omega
              subst hdd
              have hbnd : ∀ q ∈ (p :: kpgs s d' (nod s p) j), 1 ≤ q ∧ q ≤ w.met.length := by
               intro q hq
               rw [hm]
               rcases List.mem_cons.1 hq with rfl | hq
               · exact ⟨hp1, hp2⟩
               · obtain ⟨k, hk', hqk⟩ := List.mem_flatMap.1 hq
                 obtain ⟨i, hi', e⟩ := List.getElem_of_mem hk'
                 rw [zw4] at hi'
                 rw [List.getElem_take] at e
                 subst e
                 exact q2Q (G.fit i (by omega) (by omega)) q hqk
              have hfr : ∀ q ∈ pgs s d' (nod s p).2[j], q ∉ (p :: kpgs s d' (nod s p) j) ∧ w.met.getD (q.toNat - 1) false = false := by
               intro q hq
               have h0 := F.free q hq
               have hq0 := q2Q F.fit q hq
               simp only at h0
               have hn : ¬ (mark w.met (p :: kpgs s d' (nod s p) j)).getD (q.toNat - 1) false = true := by rw [h0]; decide
               rw [qIx _ _ _ hbnd, show ((q.toNat - 1 : Nat) : Int) + 1 = q by omega] at hn
               exact ⟨fun h => hn (.inr h), by
                cases hx : w.met.getD (q.toNat - 1) false with
                | false => rfl
                | true => exact absurd (.inl hx) hn⟩
              refine ⟨d', ⟨G.pos, G.le, fun i hi' hij => ?_, ?_, ?_, ?_, G.leaf⟩⟩
              · by_cases e : i = j
                · subst e; exact F.fit
                · exact G.fit i hi' (by omega)
              · rw [kidsOf_succ, G.eq, getD_kid hjl, qMq s f d' _ _ _ _ F.le (by omega) F.fit rfl (by simp only [q9j]; exact hm) F.nodup F.free F.leaf]
                unfold done
                simp only [q3Q s d' _ hjl, q5j s d' _ hjl, List.append_assoc]
                rw [← qPZ]
                simp only [List.cons_append]
              · rw [q3Q s d' _ hjl, ← List.cons_append]
                refine List.nodup_append.2 ⟨G.nodup, F.nodup, fun a ha b hb e => ?_⟩
                subst e
                exact (hfr a hb).1 ha
              · intro q hq
                rw [q3Q s d' _ hjl, ← List.cons_append] at hq
                rcases List.mem_append.1 hq with hq | hq
                · exact G.free q hq
                · exact (hfr q hq).2
         have hpos : (nod s p).2.length ≠ 0 := fun h => hk (List.length_eq_zero_iff.1 h)
         obtain ⟨d, G⟩ := key _ (by omega) (zw0 _) hall
         have e1 : kpgs s d (nod s p) (nod s p).2.length = (nod s p).2.flatMap (pgs s d) := by unfold kpgs; rw [List.take_length]
         refine ⟨d + 1, ⟨by omega, by have := G.le; omega, ⟨⟨hp1, hp2⟩, hg, ?_⟩, hb, ?_, ?_, ?_⟩⟩
         · rw [if_neg (by have := G.pos; omega)]
           exact ⟨hk, fun i hi' => G.fit i hi' hi'⟩
         · have := G.nodup; rw [e1] at this; exact this
         · have := G.free; rw [e1] at this; exact this
         · have := G.leaf; have := G.le; omega
     · rw [if_neg hg] at h; cases h
   · rw [if_neg ho] at h; cases h
def Up (l : List Itm) : Prop := l.Pairwise fun x y => x.1.toNat < y.1.toNat
theorem up_of_rise : ∀ {l : List Itm}, rise l = true → Up l
 | [], _ => List.Pairwise.nil
 | [x], _ => by unfold Up; simp
 | x :: y :: l, h => by
   simp only [rise, Bool.and_eq_true, decide_eq_true_eq] at h
   have ih := up_of_rise h.2
   unfold Up at ih ⊢
   refine List.pairwise_cons.2 ⟨fun z hz => ?_, ih⟩
   rcases List.mem_cons.1 hz with rfl | hz
   · exact h.1
   · exact Nat.lt_trans h.1 ((List.pairwise_cons.1 ih).1 z hz)
theorem z0j {lo : Bnd} {a b : UInt64} (h : above lo a = true) (hab : a.toNat ≤ b.toNat) : above lo b = true := by
 unfold above at *
 cases lo with
 | none => rfl
 | some c => simp only [decide_eq_true_eq] at *; omega
theorem qBX {hi : Bnd} {a b : UInt64} (h : under hi b = true) (hab : a.toNat ≤ b.toNat) : under hi a = true := by
 unfold under at *
 cases hi with
 | none => rfl
 | some c => simp only [decide_eq_true_eq] at *; omega
theorem good_ok {s : Pgs} {p : Int} {lo hi : Bnd} (h : good s p lo hi = true) : Lf.Ok (nod s p) ∧ enc (nod s p) = page s p ∧ ∀ x ∈ (nod s p).1, above lo x.1 = true ∧ under hi x.1 = true := by
 unfold good at h
 rw [Bool.and_eq_true, decide_eq_true_eq] at h
 have h1 := enc_decode h.1
 refine ⟨ok_iff.1 h1.1, h1.2, fun x hx => ?_⟩
 have := List.all_eq_true.1 h.2 x hx
 rwa [Bool.and_eq_true] at this
theorem lo_of {n : Nod} {lo : Bnd} {i : Nat} (hi : i ≤ n.1.length) (hlo : ∀ x ∈ n.1, above lo x.1 = true) {k : UInt64} (h : above (loOf n lo i) k = true) : above lo k = true := by
 unfold loOf at h
 by_cases h0 : 0 < i
 · rw [if_pos h0, zw3 (show i - 1 < n.1.length by omega)] at h
   simp only [Option.map_some, above, decide_eq_true_eq] at h
   exact z0j (hlo _ (List.getElem_mem (show i - 1 < n.1.length by omega))) h
 · rw [if_neg h0] at h; exact h
theorem hi_of {n : Nod} {hi : Bnd} {i : Nat} (hhi : ∀ x ∈ n.1, under hi x.1 = true) {k : UInt64} (h : under (hiOf n hi i) k = true) : under hi k = true := by
 unfold hiOf at h
 by_cases h0 : i < n.1.length
 · rw [if_pos h0, zw3 h0] at h
   simp only [Option.map_some, under, decide_eq_true_eq] at h
   exact qBX (hhi _ (List.getElem_mem h0)) (Nat.le_of_lt h)
 · rw [if_neg h0] at h; exact h
theorem qCX {s : Pgs} : ∀ {d : Nat} {lo hi : Bnd} {p : Int}, Fit s d lo hi p → Up (its s d p) ∧ ∀ x ∈ its s d p, above lo x.1 = true ∧ under hi x.1 = true
 | d + 1, lo, hi, p, h => by
   obtain ⟨h1, h2, h3⟩ := h
   obtain ⟨hok, -, hin⟩ := good_ok h2
   unfold its
   by_cases hd : d = 0
   · rw [if_pos hd] at h3
     rw [if_pos h3]
     exact ⟨up_of_rise hok.rises, hin⟩
   · rw [if_neg hd] at h3
     obtain ⟨hne, hk⟩ := h3
     rw [if_neg hne]
     have hlen : (nod s p).2.length = (nod s p).1.length + 1 := hok.kids.resolve_left (fun h => hne (by unfold isLeaf at h; exact List.isEmpty_iff.1 h))
     have hup := up_of_rise hok.rises
     have key : ∀ j, j ≤ (nod s p).2.length → Up (kits s d (nod s p) j) ∧ ∀ x ∈ kits s d (nod s p) j, above lo x.1 = true ∧ under hi x.1 = true ∧ (j < (nod s p).2.length → under (hiOf (nod s p) hi (j - 1)) x.1 = true) := by
      intro j
      induction j with
      | zero => intro _; exact ⟨by unfold Up kits; simp, fun x hx => by simp [kits] at hx⟩
      | succ j ih =>
        intro hj
        have hjl : j < (nod s p).2.length := by omega
        obtain ⟨i1, i2⟩ := ih (by omega)
        obtain ⟨f1, f2⟩ := qCX (hk j hjl)
        rw [q5j s d _ hjl]
        refine ⟨List.pairwise_append.2 ⟨i1, f1, fun a ha b hb => ?_⟩, fun x hx => ?_⟩
        · -- all that stands ahead of the j-th kid is below its first key
          have hb1 := (f2 b hb).1
          have ha1 := (i2 a ha).2.2 hjl
          by_cases hj0 : j = 0
          · subst hj0; simp [kits] at ha
          · unfold loOf at hb1
            rw [if_pos (by omega), zw3 (show j - 1 < (nod s p).1.length by omega)] at hb1
            unfold hiOf at ha1
            rw [if_pos (show j - 1 < (nod s p).1.length by omega), zw3 (show j - 1 < (nod s p).1.length by omega)] at ha1
            simp only [Option.map_some, above, under, decide_eq_true_eq] at hb1 ha1
            omega
        · have hnew : ∀ x ∈ its s d (nod s p).2[j], above lo x.1 = true ∧ under hi x.1 = true ∧ (j + 1 < (nod s p).2.length → under (hiOf (nod s p) hi (j + 1 - 1)) x.1 = true) := fun x hx =>
           ⟨lo_of (by omega) (fun y hy => (hin y hy).1) (f2 x hx).1, hi_of (fun y hy => (hin y hy).2) (f2 x hx).2, fun _ => (f2 x hx).2⟩
          rcases List.mem_append.1 hx with hx | hx
          · refine ⟨(i2 x hx).1, (i2 x hx).2.1, fun hlt => ?_⟩
            have hx1 := (i2 x hx).2.2 hjl
            by_cases hj0 : j = 0
            · subst hj0; simp [kits] at hx
            · have hr := List.pairwise_iff_getElem.1 hup (j - 1) j (by omega) (by omega) (by omega)
              unfold hiOf at hx1 ⊢
              rw [if_pos (show j - 1 < (nod s p).1.length by omega), zw3 (show j - 1 < (nod s p).1.length by omega)] at hx1
              rw [show j + 1 - 1 = j by omega, if_pos (show j < (nod s p).1.length by omega), zw3 (show j < (nod s p).1.length by omega)]
              simp only [Option.map_some, under, decide_eq_true_eq] at hx1 ⊢
              omega
          · exact hnew x hx
     obtain ⟨k1, k2⟩ := key _ (zw0 _)
     unfold kits at k1 k2
     rw [List.take_length] at k1 k2
     exact ⟨k1, fun x hx => ⟨(k2 x hx).1, (k2 x hx).2.1⟩⟩
end Tr
namespace Tr
open Oct Crc Lf
def none_ (s : Pgs) : Wk := { met := List.replicate s.length false, out := [], leaf := 0, bad := false }
def walk (s : Pgs) (root : Int) : Wk := node s 16 root none none (none_ s)
def readE (s : Pgs) (root : Int) : Int := if 2048 < s.length then 3 else if root = 0 then 0 else if (walk s root).bad = true then 9 else 0
def readI (s : Pgs) (root : Int) : List Itm := if readE s root = 0 ∧ root ≠ 0 then (walk s root).out else []
def numbers (m : List Bool) : List Int := ((List.range m.length).filter fun i => m.getD i false).map fun (i : Nat) => (i : Int) + 1
def readP (s : Pgs) (root : Int) : List Int := if readE s root = 0 ∧ root ≠ 0 then numbers (walk s root).met else []
theorem none_met (s : Pgs) (q : Nat) : (none_ s).met.getD q false = false := by
 unfold none_
 simp only [List.getD, List.getElem?_replicate]
 split <;> rfl
theorem mem_numbers {m : List Bool} {q : Int} : q ∈ numbers m ↔ 1 ≤ q ∧ q ≤ m.length ∧ m.getD (q.toNat - 1) false = true := by
 unfold numbers
 simp only [List.mem_map, List.mem_filter, List.mem_range]
 constructor
 · rintro ⟨i, ⟨h1, h2⟩, rfl⟩
   refine ⟨by omega, by omega, ?_⟩
   rw [show ((i : Int) + 1).toNat - 1 = i by omega]; exact h2
 · rintro ⟨h1, h2, h3⟩
   exact ⟨q.toNat - 1, ⟨by omega, h3⟩, by omega⟩
structure z0x (s : Pgs) (root : Int) (d : Nat) : Prop where
 pos : 1 ≤ d
 le : d ≤ 16
 fit : Fit s d none none root
 nodup : (pgs s d root).Nodup
theorem qEQ {s : Pgs} {root : Int} {d : Nat} (h : z0x s root d) : walk s root = { met := mark (none_ s).met (pgs s d root), out := its s d root, leaf := d, bad := false } := by
 unfold walk
 rw [qMq s 16 d root none none (none_ s) h.le (zw0 _) h.fit rfl (by simp [none_]) h.nodup (fun q _ => none_met s _) (.inl rfl)]
 unfold done
 simp [none_]
theorem whole_of {s : Pgs} {root : Int} (h : (walk s root).bad = false) : ∃ d, z0x s root d := by
 obtain ⟨d, F⟩ := qKz s 16 root none none (none_ s) (zw0 _) (by simp [none_]) h
 exact ⟨d, ⟨F.pos, F.le, F.fit, F.nodup⟩⟩
theorem qJj {s : Pgs} {d : Nat} {lo hi : Bnd} {p : Int} (h : Fit s d lo hi p) : 1 ≤ p ∧ p ≤ s.length := by
 cases d with
 | zero => exact False.elim h
 | succ d => exact h.1
theorem qDQ {s : Pgs} {root : Int} (h : readE s root = 0) : s.length ≤ 2048 ∧ (root = 0 ∧ readI s root = [] ∧ readP s root = [] ∨ root ≠ 0 ∧ ∃ d, z0x s root d ∧ readI s root = its s d root ∧ readP s root = numbers (mark (none_ s).met (pgs s d root))) := by
 have h0 := h
 unfold readE at h
 by_cases h1 : 2048 < s.length
 · rw [if_pos h1] at h; cases h
 · rw [if_neg h1] at h
   refine ⟨by omega, ?_⟩
   by_cases h2 : root = 0
   · refine .inl ⟨h2, ?_, ?_⟩
     · unfold readI; rw [if_neg (fun h => h.2 h2)]
     · unfold readP; rw [if_neg (fun h => h.2 h2)]
   · rw [if_neg h2] at h
     refine .inr ⟨h2, ?_⟩
     cases hb : (walk s root).bad with
     | true => rw [hb, if_pos rfl] at h; cases h
     | false =>
       obtain ⟨d, hw⟩ := whole_of hb
       refine ⟨d, hw, ?_, ?_⟩
       · unfold readI; rw [if_pos ⟨h0, h2⟩, qEQ hw]
       · unfold readP; rw [if_pos ⟨h0, h2⟩, qEQ hw]
theorem qBz {s : Pgs} {root : Int} {d : Nat} (hl : s.length ≤ 2048) (h : z0x s root d) : readE s root = 0 ∧ readI s root = its s d root ∧ readP s root = numbers (mark (none_ s).met (pgs s d root)) := by
 have h0 : root ≠ 0 := fun e => by have := (qJj h.fit).1; omega
 have hw := qEQ h
 have e : readE s root = 0 := by unfold readE; rw [if_neg (by omega), if_neg h0, hw]; rfl
 refine ⟨e, ?_, ?_⟩
 · unfold readI; rw [if_pos ⟨e, h0⟩, hw]
 · unfold readP; rw [if_pos ⟨e, h0⟩, hw]
theorem mem_readP {s : Pgs} {root : Int} {d : Nat} (hl : s.length ≤ 2048) (h : z0x s root d) (q : Int) : q ∈ readP s root ↔ q ∈ pgs s d root := by
 have hp := q2Q h.fit
 have hn : (none_ s).met.length = s.length := by simp [none_]
 rw [(qBz hl h).2.2, mem_numbers, q9j, hn]
 constructor
 · rintro ⟨h1, h2, h3⟩
   have := (qIx _ _ _ (fun r hr => by rw [hn]; exact hp r hr)).1 h3
   rw [none_met, show ((q.toNat - 1 : Nat) : Int) + 1 = q by omega] at this
   rcases this with h | h
   · cases h
   · exact h
 · intro hq
   obtain ⟨h1, h2⟩ := hp q hq
   refine ⟨h1, h2, (qIx _ _ _ (fun r hr => by rw [hn]; exact hp r hr)).2 (.inr ?_)⟩
   rw [show ((q.toNat - 1 : Nat) : Int) + 1 = q by omega]
   exact hq
theorem qKJ {α β : Type} {f g : α → List β} : ∀ {l : List α}, (∀ a ∈ l, f a = g a) → l.flatMap f = l.flatMap g
 | [], _ => rfl
 | x :: l, h => by rw [List.flatMap_cons, List.flatMap_cons, h x (by simp), qKJ (l := l) fun a ha => h a (by simp [ha])]
theorem fit_same {s s' : Pgs} : ∀ {d : Nat} {lo hi : Bnd} {p : Int}, Fit s d lo hi p → (∀ q ∈ pgs s d p, q ≤ s'.length ∧ page s' q = page s q) → Fit s' d lo hi p ∧ its s' d p = its s d p ∧ pgs s' d p = pgs s d p
 | d + 1, lo, hi, p, h, hs => by
   obtain ⟨h1, h2, h3⟩ := h
   obtain ⟨q1, q2⟩ := hs p (by simp [pgs])
   have hn : nod s' p = nod s p := by unfold nod; rw [q2]
   have hg : good s' p lo hi = true := by unfold good at h2 ⊢; rw [q2, hn]; exact h2
   by_cases hd : d = 0
   · rw [if_pos hd] at h3
     refine ⟨⟨⟨h1.1, q1⟩, hg, by rw [if_pos hd, hn]; exact h3⟩, ?_, ?_⟩
     · unfold its; rw [hn, if_pos h3, if_pos h3]
     · unfold pgs; rw [hn, h3]; simp
   · rw [if_neg hd] at h3
     have hk : ∀ (i : Nat) (hi' : i < (nod s p).2.length), _ := fun i hi' => fit_same (h3.2 i hi') (fun q hq => hs q (by unfold pgs; exact List.mem_cons_of_mem _ (List.mem_flatMap.2 ⟨_, List.getElem_mem hi', hq⟩)))
     have e1 : (nod s p).2.flatMap (its s' d) = (nod s p).2.flatMap (its s d) := qKJ fun k hk' => by
      obtain ⟨i, hi', rfl⟩ := List.getElem_of_mem hk'
      exact (hk i hi').2.1
     have e2 : (nod s p).2.flatMap (pgs s' d) = (nod s p).2.flatMap (pgs s d) := qKJ fun k hk' => by
      obtain ⟨i, hi', rfl⟩ := List.getElem_of_mem hk'
      exact (hk i hi').2.2
     refine ⟨⟨⟨h1.1, q1⟩, hg, ?_⟩, ?_, ?_⟩
     · rw [if_neg hd, hn]
       exact ⟨h3.1, fun i hi' => (hk i hi').1⟩
     · unfold its; rw [hn, if_neg h3.1, if_neg h3.1, e1]
     · unfold pgs; rw [hn, e2]
def floorOf (l : List Itm) (key : UInt64) : Option Itm := (l.filter fun x => decide (x.1.toNat ≤ key.toNat)).getLast?
def rangeOf (l : List Itm) (from_ : UInt64) (n : Nat) : List Itm := (l.filter fun x => decide (from_.toNat ≤ x.1.toNat)).take n
def laid (x : Itm) (gone : Bool) : List Itm → Bool → List Itm
 | [], true => []
 | [], false => [x]
 | y :: l, done => (if done = false ∧ x.1.toNat ≤ y.1.toNat then [x] else []) ++ (if y.1 ≠ x.1 then [y] else []) ++ laid x gone l (done || decide (x.1.toNat ≤ y.1.toNat))
def after (l : List Itm) (x : Itm) (gone : Bool) : List Itm := laid x gone l gone
theorem qQq (x : Itm) (g : Bool) : ∀ l : List Itm, laid x g l true = l.filter fun y => decide (y.1 ≠ x.1)
 | [] => rfl
 | y :: l => by
   unfold laid
   rw [Bool.true_or, qQq x g l, if_neg (by simp), List.filter_cons]
   by_cases h : y.1 ≠ x.1
   · simp [h]
   · simp [h]
theorem after_put {l : List Itm} (h : Up l) (x : Itm) : after l x false = (l.filter fun y => decide (y.1.toNat < x.1.toNat)) ++ [x] ++ l.filter fun y => decide (x.1.toNat < y.1.toNat) := by
 unfold after
 induction l with
 | nil => rfl
 | cons y l ih =>
   have hp := List.pairwise_cons.1 h
   unfold laid
   by_cases c : x.1.toNat ≤ y.1.toNat
   · have e1 : ((y :: l).filter fun z => decide (z.1.toNat < x.1.toNat)) = [] := List.filter_eq_nil_iff.2 fun z hz => by
      rcases List.mem_cons.1 hz with rfl | hz
      · simp; omega
      · have := hp.1 z hz; simp; omega
     have e2 : (l.filter fun z => decide (z.1 ≠ x.1)) = l.filter fun z => decide (x.1.toNat < z.1.toNat) := List.filter_congr fun z hz => by
      have := hp.1 z hz
      rw [decide_eq_true (show x.1.toNat < z.1.toNat by omega)]
      exact decide_eq_true (fun e => by rw [e] at this; omega)
     rw [e1, decide_eq_true c, Bool.or_true, qQq, e2, if_pos (show false = false ∧ x.1.toNat ≤ y.1.toNat from ⟨rfl, c⟩)]
     by_cases e : y.1 = x.1
     · have e3 : ((y :: l).filter fun z => decide (x.1.toNat < z.1.toNat)) = l.filter fun z => decide (x.1.toNat < z.1.toNat) := List.filter_cons_of_neg (by simp [e])
       rw [e3, if_neg (fun h => h e)]
       simp
     · have hne : y.1.toNat ≠ x.1.toNat := fun h => e (UInt64.toNat_inj.1 h)
       have e3 : ((y :: l).filter fun z => decide (x.1.toNat < z.1.toNat)) = y :: l.filter fun z => decide (x.1.toNat < z.1.toNat) := List.filter_cons_of_pos (by simp; omega)
       rw [e3, if_pos e]
       simp
   · have e1 : ((y :: l).filter fun z => decide (z.1.toNat < x.1.toNat)) = y :: l.filter fun z => decide (z.1.toNat < x.1.toNat) := List.filter_cons_of_pos (by simp; omega)
     have e2 : ((y :: l).filter fun z => decide (x.1.toNat < z.1.toNat)) = l.filter fun z => decide (x.1.toNat < z.1.toNat) := List.filter_cons_of_neg (by simp; omega)
     rw [e1, e2, decide_eq_false c, Bool.or_false, ih hp.2, if_neg (fun h => c h.2), if_pos (fun e => c (by rw [e]; exact zw0 _))]
     simp
theorem after_gone (l : List Itm) (x : Itm) : after l x true = l.filter fun y => decide (y.1 ≠ x.1) := qQq x true l
end Tr
namespace Tr
open Oct Crc Lf
structure Lw where
 met : List Int
 leaf : Nat
def keyF (l : List Itm) : UInt64 := (l.head?.map (·.1)).getD 0
def keyL (l : List Itm) : UInt64 := (l.getLast?.map (·.1)).getD 0
def fits (n : Nod) (j : Nat) (a b : UInt64) : Bool := (decide (j = 0) || decide (((n.1.map Prod.fst).getD (j - 1) 0).toNat ≤ a.toNat)) && (decide (j = n.1.length) || decide (b.toNat < ((n.1.map Prod.fst).getD j 0).toNat))
def lkids (g : Int → Lw → Option (Lw × UInt64 × UInt64)) (n : Nod) : Nat → Lw → Option (Lw × UInt64 × UInt64)
 | 0, w => some (w, 0, 0)
 | j + 1, w => (lkids g n j w).bind fun r => (g (n.2.getD j 0) r.1).bind fun t => if fits n j t.2.1 t.2.2 = true then some (t.1, if j = 0 then t.2.1 else r.2.1, t.2.2) else none
def may (s : Pgs) (p : Int) (w : Lw) : Bool := decide (p ∉ w.met) && decide (1 ≤ p) && decide (p ≤ s.length) && decide (decodeE (page s p) = 0)
def lwalk (s : Pgs) : Nat → Int → Lw → Option (Lw × UInt64 × UInt64)
 | 0, _, _ => none
 | f + 1, p, w =>
   if may s p w = true then
    if (nod s p).2 = [] then (if w.leaf = 0 ∨ w.leaf = 16 - f then some (⟨w.met ++ [p], 16 - f⟩, keyF (nod s p).1, keyL (nod s p).1) else none)
    else lkids (lwalk s f) (nod s p) (nod s p).2.length ⟨w.met ++ [p], w.leaf⟩
   else none
theorem may_iff {s : Pgs} {p : Int} {w : Lw} : may s p w = true ↔ p ∉ w.met ∧ 1 ≤ p ∧ p ≤ s.length ∧ decodeE (page s p) = 0 := by
 unfold may
 simp only [Bool.and_eq_true, decide_eq_true_eq, and_assoc]
theorem qFx {l : List Itm} (h : l ≠ []) : ∃ x ∈ l, x.1 = keyF l := by
 cases l with
 | nil => exact absurd rfl h
 | cons x l => exact ⟨x, by simp, rfl⟩
theorem keyL_mem {l : List Itm} (h : l ≠ []) : ∃ x ∈ l, x.1 = keyL l := by
 refine ⟨l.getLast h, List.getLast_mem h, ?_⟩
 unfold keyL
 rw [List.getLast?_eq_some_getLast h]
 rfl
theorem qHq {a b : List Itm} (h : a ≠ []) : keyF (a ++ b) = keyF a := by
 cases a with
 | nil => exact absurd rfl h
 | cons x l => rfl
theorem qQz {a b : List Itm} (h : b ≠ []) : keyL (a ++ b) = keyL b := by
 unfold keyL
 rw [List.getLast?_append, List.getLast?_eq_some_getLast h]
 rfl
theorem keyF_le {l : List Itm} (h : Up l) {x : Itm} (hx : x ∈ l) : (keyF l).toNat ≤ x.1.toNat := by
 cases l with
 | nil => simp at hx
 | cons y l =>
   rcases List.mem_cons.1 hx with rfl | hx
   · exact zw0 _
   · exact Nat.le_of_lt ((List.pairwise_cons.1 h).1 x hx)
theorem le_keyL {l : List Itm} (h : Up l) {x : Itm} (hx : x ∈ l) : x.1.toNat ≤ (keyL l).toNat := by
 have hne : l ≠ [] := fun e => by rw [e] at hx; simp at hx
 have e := List.dropLast_concat_getLast hne
 unfold keyL
 rw [List.getLast?_eq_some_getLast hne]
 rw [← e] at hx h
 rcases List.mem_append.1 hx with hx | hx
 · exact Nat.le_of_lt ((List.pairwise_append.1 h).2.2 x hx _ (by simp))
 · rw [List.mem_singleton.1 hx]; exact zw0 _
theorem qQj {s : Pgs} : ∀ {d : Nat} {lo hi : Bnd} {p : Int}, Fit s d lo hi p → its s d p ≠ []
 | d + 1, lo, hi, p, h => by
   obtain ⟨h1, h2, h3⟩ := h
   obtain ⟨hok, -, -⟩ := good_ok h2
   unfold its
   by_cases hd : d = 0
   · rw [if_pos hd] at h3
     rw [if_pos h3]
     intro e
     have := hok.some_
     rw [e] at this
     simp at this
   · rw [if_neg hd] at h3
     rw [if_neg h3.1]
     have hpos : 0 < (nod s p).2.length := List.length_pos_iff.2 h3.1
     have := qQj (h3.2 0 hpos)
     intro e
     have h0 := List.flatMap_eq_nil_iff.1 e _ (List.getElem_mem hpos)
     exact this h0
theorem kits_ne {s : Pgs} {d : Nat} {n : Nod} {j : Nat} (hj : j < n.2.length) (h : its s d n.2[j] ≠ []) : kits s d n (j + 1) ≠ [] := by
 rw [q5j s d n hj]
 intro e
 exact h (List.append_eq_nil_iff.1 e).2
theorem fits_iff {n : Nod} {j : Nat} {a b : UInt64} (hj : j ≤ n.1.length) : fits n j a b = true ↔ (∀ h : 0 < j, (n.1[j - 1]'(by omega)).1.toNat ≤ a.toNat) ∧ (∀ h : j < n.1.length, b.toNat < n.1[j].1.toNat) := by
 unfold fits
 rw [Bool.and_eq_true, Bool.or_eq_true, Bool.or_eq_true, decide_eq_true_eq, decide_eq_true_eq, decide_eq_true_eq, decide_eq_true_eq]
 constructor
 · rintro ⟨h1, h2⟩
   refine ⟨fun h => ?_, fun h => ?_⟩
   · have := h1.resolve_left (by omega)
     simpa [List.getD, zw3 (show j - 1 < n.1.length by omega)] using this
   · have := h2.resolve_left (by omega)
     simpa [List.getD, zw3 h] using this
 · rintro ⟨h1, h2⟩
   refine ⟨?_, ?_⟩
   · by_cases h : j = 0
     · exact .inl h
     · refine .inr ?_
       have := h1 (by omega)
       simpa [List.getD, zw3 (show j - 1 < n.1.length by omega)] using this
   · by_cases h : j = n.1.length
     · exact .inl h
     · refine .inr ?_
       have := h2 (by omega)
       simpa [List.getD, zw3 (show j < n.1.length by omega)] using this
theorem kids_len {n : Nod} (h : Lf.Ok n) (hk : n.2 ≠ []) : n.2.length = n.1.length + 1 := h.kids.resolve_left (fun e => hk (by unfold isLeaf at e; exact List.isEmpty_iff.1 e))
theorem lw_fit (s : Pgs) : ∀ (f d : Nat) (p : Int) (lo hi : Bnd) (w : Lw), d ≤ f → f ≤ 16 → Fit s d lo hi p → (pgs s d p).Nodup → (∀ q ∈ pgs s d p, q ∉ w.met) → (w.leaf = 0 ∨ w.leaf = 16 - f + d) →
 lwalk s f p w = some (⟨w.met ++ pgs s d p, 16 - f + d⟩, keyF (its s d p), keyL (its s d p))
 | f, 0, p, lo, hi, w, _, _, h, _, _, _ => False.elim h
 | 0, d + 1, p, lo, hi, w, h, _, _, _, _, _ => by omega
 | f + 1, d + 1, p, lo, hi, w, hdf, hf, hfit, hnd, hfree, hleaf => by
   obtain ⟨h1, h2, h3⟩ := hfit
   obtain ⟨hok, -, hin⟩ := good_ok h2
   have hdec : decodeE (page s p) = 0 := by unfold good at h2; rw [Bool.and_eq_true, decide_eq_true_eq] at h2; exact h2.1
   have hm : may s p w = true := may_iff.2 ⟨hfree p (by simp [pgs]), h1.1, h1.2, hdec⟩
   unfold lwalk
   rw [if_pos hm]
   by_cases hd : d = 0
   · subst hd
     rw [if_pos rfl] at h3
     rw [if_pos h3, if_pos (by omega)]
     have e1 : 16 - f = 16 - (f + 1) + (0 + 1) := by omega
     simp only [pgs, its, h3, List.flatMap_nil, if_true]
     rw [e1]
   · rw [if_neg hd] at h3
     obtain ⟨hne, hk⟩ := h3
     rw [if_neg hne]
     have hlen := kids_len hok hne
     have hnd' := List.nodup_cons.1 hnd
     have key : ∀ j, j ≤ (nod s p).2.length → lkids (lwalk s f) (nod s p) j ⟨w.met ++ [p], w.leaf⟩ =
      some (⟨w.met ++ (p :: kpgs s d (nod s p) j), if j = 0 then w.leaf else 16 - f + d⟩, keyF (kits s d (nod s p) j), keyL (kits s d (nod s p) j)) := by
      intro j
      induction j with
      | zero =>
        intro _
        simp [lkids, kpgs, kits, keyF, keyL]
      | succ j ih =>
        intro hj
        have hjl : j < (nod s p).2.length := by omega
        have hsub : ∀ q ∈ pgs s d (nod s p).2[j], q ∈ (nod s p).2.flatMap (pgs s d) := fun q hq => List.mem_flatMap.2 ⟨_, List.getElem_mem hjl, hq⟩
        have hsplit : (nod s p).2.flatMap (pgs s d) = kpgs s d (nod s p) j ++ (pgs s d (nod s p).2[j] ++ ((nod s p).2.drop (j + 1)).flatMap (pgs s d)) := by
         unfold kpgs
         conv => lhs; rw [← List.take_append_drop j (nod s p).2, List.drop_eq_getElem_cons hjl]
         rw [List.flatMap_append, List.flatMap_cons]
        have hnk := hnd'.2
        rw [hsplit] at hnk
        have hn1 := (List.nodup_append.1 hnk)
        have hn2 := (List.nodup_append.1 hn1.2.1)
        have hne' := qQj (hk j hjl)
        obtain ⟨u1, u2⟩ := qCX (hk j hjl)
        have ec := lw_fit s f d (nod s p).2[j] _ _ ⟨w.met ++ (p :: kpgs s d (nod s p) j), if j = 0 then w.leaf else 16 - f + d⟩ (by omega) (by omega) (hk j hjl) hn2.1 (fun q hq hm => by
         simp only [List.mem_append, List.mem_cons] at hm
         rcases hm with h | h | h
         · exact hfree q (by unfold pgs; exact List.mem_cons_of_mem _ (hsub q hq)) h
         · exact hnd'.1 (h ▸ hsub q hq)
         · exact hn1.2.2 q h q (List.mem_append_left _ hq) rfl) (by
         simp only
         by_cases hj0 : j = 0
         · rw [if_pos hj0]
           rcases hleaf with h | h
           · exact .inl h
           · exact .inr (by omega)
         · rw [if_neg hj0]
           exact .inr rfl)
        have hft : fits (nod s p) j (keyF (its s d (nod s p).2[j])) (keyL (its s d (nod s p).2[j])) = true := by
         refine (fits_iff (by omega)).2 ⟨fun h => ?_, fun h => ?_⟩
         · obtain ⟨x, hx, e⟩ := qFx hne'
           have := (u2 x hx).1
           unfold loOf at this
           rw [if_pos h, zw3 (show j - 1 < (nod s p).1.length by omega)] at this
           simp only [Option.map_some, above, decide_eq_true_eq] at this
           rw [← e]; exact this
         · obtain ⟨x, hx, e⟩ := keyL_mem hne'
           have := (u2 x hx).2
           unfold hiOf at this
           rw [if_pos h, zw3 h] at this
           simp only [Option.map_some, under, decide_eq_true_eq] at this
           rw [← e]; exact this
        unfold lkids
        rw [ih (by omega), Option.bind_some, getD_kid hjl]
        simp only
        rw [ec, Option.bind_some]
        simp only
        rw [if_pos hft, q3Q s d _ hjl, q5j s d _ hjl, qQz hne']
        simp only [List.append_assoc, List.cons_append, Nat.add_eq_zero_iff, Nat.succ_ne_self, and_false, if_false]
        by_cases hj0 : j = 0
        · subst hj0
          simp [kits, kpgs]
        · have hkn : kits s d (nod s p) j ≠ [] := by
           obtain ⟨i, rfl⟩ : ∃ i, j = i + 1 := ⟨j - 1, by omega⟩
           exact kits_ne (by omega) (qQj (hk i (by omega)))
          rw [if_neg hj0, qHq hkn]
     rw [key _ (zw0 _)]
     have hpos : (nod s p).2.length ≠ 0 := fun h => hne (List.length_eq_zero_iff.1 h)
     unfold kpgs kits
     rw [if_neg hpos]
     simp only [List.take_length, pgs, its, if_neg hne]
     congr 3
     omega
structure LFound (s : Pgs) (f d : Nat) (p : Int) (w : Lw) (w' : Lw) (a b : UInt64) : Prop where
 pos : 1 ≤ d
 le : d ≤ f
 eq : w' = ⟨w.met ++ pgs s d p, 16 - f + d⟩
 nodup : (pgs s d p).Nodup
 free : ∀ q ∈ pgs s d p, q ∉ w.met
 leaf : w.leaf = 0 ∨ w.leaf = 16 - f + d
 least : a = keyF (its s d p)
 most : b = keyL (its s d p)
 fit : ∀ lo hi : Bnd, above lo a = true → under hi b = true → Fit s d lo hi p
structure LSome (s : Pgs) (f d : Nat) (p : Int) (w : Lw) (j : Nat) (w' : Lw) (a b : UInt64) : Prop where
 pos : 1 ≤ d
 le : d ≤ f
 eq : w' = ⟨w.met ++ (p :: kpgs s d (nod s p) j), 16 - f + d⟩
 nodup : (p :: kpgs s d (nod s p) j).Nodup
 free : ∀ q ∈ (p :: kpgs s d (nod s p) j), q ∉ w.met
 leaf : w.leaf = 0 ∨ w.leaf = 16 - f + d
 least : a = keyF (kits s d (nod s p) j)
 most : b = keyL (kits s d (nod s p) j)
 ne : kits s d (nod s p) j ≠ []
 fit : ∀ lo hi : Bnd, above lo a = true → (j = (nod s p).2.length → under hi b = true) → ∀ (i : Nat) (h : i < (nod s p).2.length), i < j → Fit s d (loOf (nod s p) lo i) (hiOf (nod s p) hi i) (nod s p).2[i]
 low : (keyF (kits s d (nod s p) j)).toNat < (((nod s p).1.map Prod.fst).getD 0 0).toNat
 top : 2 ≤ j → (((nod s p).1.map Prod.fst).getD (j - 2) 0).toNat ≤ b.toNat
theorem lw_found (s : Pgs) : ∀ (f : Nat) (p : Int) (w w' : Lw) (a b : UInt64), f ≤ 16 → lwalk s f p w = some (w', a, b) → ∃ d, LFound s f d p w w' a b
 | 0, p, w, w', a, b, _, h => by unfold lwalk at h; cases h
 | f + 1, p, w, w', a, b, hf, h => by
   unfold lwalk at h
   by_cases hm : may s p w = true
   · rw [if_pos hm] at h
     obtain ⟨hmet, hp1, hp2, hdec⟩ := may_iff.1 hm
     have hok := ok_iff.1 (enc_decode hdec).1
     have hok : Lf.Ok (nod s p) := hok
     by_cases hk : (nod s p).2 = []
     · rw [if_pos hk] at h
       by_cases hl : w.leaf = 0 ∨ w.leaf = 16 - f
       · rw [if_pos hl] at h
         simp only [Option.some.injEq, Prod.mk.injEq] at h
         obtain ⟨rfl, rfl, rfl⟩ := h
         have hI : its s 1 p = (nod s p).1 := by unfold its; rw [if_pos hk]
         have hup := up_of_rise hok.rises
         refine ⟨1, ⟨zw0 _, by omega, ?_, ?_, ?_, by omega, by rw [hI], by rw [hI], fun lo hi h1 h2 => ⟨⟨hp1, hp2⟩, ?_, by rw [if_pos rfl]; exact hk⟩⟩⟩
         · simp only [pgs, hk, List.flatMap_nil]
           congr 1
           omega
         · simp [pgs, hk]
         · intro q hq
           simp only [pgs, hk, List.flatMap_nil, List.mem_singleton] at hq
           rw [hq]; exact hmet
         · unfold good
           rw [Bool.and_eq_true, decide_eq_true_eq]
           refine ⟨hdec, List.all_eq_true.2 fun x hx => ?_⟩
           rw [Bool.and_eq_true]
           exact ⟨z0j h1 (keyF_le hup hx), qBX h2 (le_keyL hup hx)⟩
       · rw [if_neg hl] at h; cases h
     · rw [if_neg hk] at h
       have hlen := kids_len hok hk
       have hs1 := hok.some_
       have key : ∀ j, 1 ≤ j → j ≤ (nod s p).2.length → ∀ w' a b, lkids (lwalk s f) (nod s p) j ⟨w.met ++ [p], w.leaf⟩ = some (w', a, b) → ∃ d, LSome s f d p w j w' a b := by
        intro j
        induction j with
        | zero => intro h; omega
        | succ j ih =>
          intro _ hj w' a b he
          have hjl : j < (nod s p).2.length := by omega
          unfold lkids at he
          rw [Option.bind_eq_some_iff] at he
          obtain ⟨⟨v, a1, b1⟩, hv, he⟩ := he
          rw [Option.bind_eq_some_iff] at he
          obtain ⟨⟨v2, a2, b2⟩, hv2, he⟩ := he
          simp only at he hv2
          by_cases hft : fits (nod s p) j a2 b2 = true
          · rw [if_pos hft] at he
            simp only [Option.some.injEq, Prod.mk.injEq] at he
            obtain ⟨rfl, ha, rfl⟩ := he
            obtain ⟨t1, t2⟩ := (fits_iff (by omega)).1 hft
            rw [getD_kid hjl] at hv2
            obtain ⟨d, F⟩ := lw_found s f _ _ _ _ _ (by omega) hv2
            have F0 := F.fit none none rfl rfl
            have hne' := qQj F0
            have hup' := (qCX F0).1
            have hab : a2.toNat ≤ b2.toNat := by
             rw [F.least, F.most]
             obtain ⟨x, hx, e⟩ := keyL_mem hne'
             rw [← e]
             exact keyF_le hup' hx
            by_cases hj0 : j = 0
            · subst hj0
              rw [if_pos rfl] at ha
              subst ha
              unfold lkids at hv
              simp only [Option.some.injEq, Prod.mk.injEq] at hv
              obtain ⟨rfl, -, -⟩ := hv
              have hk1 : kpgs s d (nod s p) (0 + 1) = pgs s d (nod s p).2[0] := by rw [q3Q s d _ hjl]; simp [kpgs]
              have hk2 : kits s d (nod s p) (0 + 1) = its s d (nod s p).2[0] := by rw [q5j s d _ hjl]; simp [kits]
              have hfr : ∀ q ∈ pgs s d (nod s p).2[0], q ≠ p ∧ q ∉ w.met := by
               intro q hq
               have h0 := F.free q hq
               simp only [List.mem_append, List.mem_singleton, not_or] at h0
               exact ⟨h0.2, h0.1⟩
              have hi0 := t2 (by omega)
              refine ⟨d, ⟨F.pos, F.le, ?_, ?_, ?_, F.leaf, by rw [hk2]; exact F.least, by rw [hk2]; exact F.most, by rw [hk2]; exact hne', fun lo hi h1 h2 i hi' hij => ?_, ?_, fun h => by omega⟩⟩
              · rw [F.eq, hk1]; simp
              · rw [hk1]
                exact List.nodup_cons.2 ⟨fun h => (hfr p h).1 rfl, F.nodup⟩
              · intro q hq
                rw [hk1] at hq
                rcases List.mem_cons.1 hq with rfl | hq
                · exact hmet
                · exact (hfr q hq).2
              · obtain rfl : i = 0 := by omega
                refine F.fit _ _ (by unfold loOf; rw [if_neg (by omega)]; exact h1) ?_
                unfold hiOf
                rw [if_pos (by omega), zw3 (show 0 < (nod s p).1.length by omega)]
                simp only [Option.map_some, under, decide_eq_true_eq]
                exact hi0
              · rw [hk2, ← F.least]
                rw [show ((nod s p).1.map Prod.fst).getD 0 0 = ((nod s p).1[0]'(by omega)).1 by simp [List.getD, zw3 (show 0 < (nod s p).1.length by omega)]]
                omega
            · rw [if_neg hj0] at ha
              subst ha
              obtain ⟨d', G⟩ := ih (by omega) (by omega) _ _ _ hv
              have hGe := G.eq
              subst hGe
              have hdd : d' = d := by
               have := F.leaf
               have := F.pos
               have := G.pos
               simp only at *
               omega
              subst hdd
              have hfr : ∀ q ∈ pgs s d' (nod s p).2[j], q ∉ (p :: kpgs s d' (nod s p) j) ∧ q ∉ w.met := by
               intro q hq
               have h0 := F.free q hq
               simp only [List.mem_append, not_or] at h0
               exact ⟨h0.2, h0.1⟩
              have hlow := t1 (by omega)
              refine ⟨d', ⟨F.pos, F.le, ?_, ?_, ?_, G.leaf, ?_, ?_, kits_ne hjl hne', fun lo hi h1 h2 i hi' hij => ?_, ?_, fun _ => ?_⟩⟩
              · rw [F.eq, q3Q s d' _ hjl]; simp
              · rw [q3Q s d' _ hjl, ← List.cons_append]
                refine List.nodup_append.2 ⟨G.nodup, F.nodup, fun x hx y hy e => ?_⟩
                subst e
                exact (hfr x hy).1 hx
              · intro q hq
                rw [q3Q s d' _ hjl, ← List.cons_append] at hq
                rcases List.mem_append.1 hq with hq | hq
                · exact G.free q hq
                · exact (hfr q hq).2
              · rw [q5j s d' _ hjl, qHq G.ne]; exact G.least
              · rw [q5j s d' _ hjl, qQz hne']; exact F.most
              · by_cases e : i = j
                · subst e
                  refine F.fit _ _ ?_ ?_
                  · unfold loOf
                    rw [if_pos (by omega), zw3 (show i - 1 < (nod s p).1.length by omega)]
                    simp only [Option.map_some, above, decide_eq_true_eq]
                    exact hlow
                  · unfold hiOf
                    by_cases hl : i < (nod s p).1.length
                    · rw [if_pos hl, zw3 hl]
                      simp only [Option.map_some, under, decide_eq_true_eq]
                      exact t2 hl
                    · rw [if_neg hl]
                      exact h2 (by omega)
                · exact G.fit lo hi h1 (fun h => by omega) i hi' (by omega)
              · rw [q5j s d' _ hjl, qHq G.ne]; exact G.low
              · rw [show j + 1 - 2 = j - 1 by omega, show ((nod s p).1.map Prod.fst).getD (j - 1) 0 = ((nod s p).1[j - 1]'(by omega)).1 by simp [List.getD, zw3 (show j - 1 < (nod s p).1.length by omega)]]
                omega
          · rw [if_neg hft] at he; cases he
       obtain ⟨d, G⟩ := key _ (by omega) (zw0 _) _ _ _ h
       have e1 : kpgs s d (nod s p) (nod s p).2.length = (nod s p).2.flatMap (pgs s d) := by unfold kpgs; rw [List.take_length]
       have e2 : kits s d (nod s p) (nod s p).2.length = its s (d + 1) p := by unfold kits; rw [List.take_length]; unfold its; rw [if_neg hk]
       refine ⟨d + 1, ⟨by omega, by have := G.le; omega, ?_, ?_, ?_, ?_, by rw [← e2]; exact G.least, by rw [← e2]; exact G.most, fun lo hi h1 h2 => ⟨⟨hp1, hp2⟩, ?_, ?_⟩⟩⟩
       · rw [G.eq, e1]
         simp only [pgs]
         congr 1
         have := G.le; omega
       · have := G.nodup; rw [e1] at this; exact this
       · have := G.free; rw [e1] at this; exact this
       · have := G.leaf; have := G.le; omega
       · have hlow := G.low
         have htop := G.top (by omega)
         rw [show ((nod s p).1.map Prod.fst).getD 0 0 = ((nod s p).1[0]'(by omega)).1 by simp [List.getD, zw3 (show 0 < (nod s p).1.length by omega)], ← G.least] at hlow
         rw [show (nod s p).2.length - 2 = (nod s p).1.length - 1 by omega, show ((nod s p).1.map Prod.fst).getD ((nod s p).1.length - 1) 0 = ((nod s p).1[(nod s p).1.length - 1]'(by omega)).1 by simp [List.getD, zw3 (show (nod s p).1.length - 1 < (nod s p).1.length by omega)]] at htop
         have hup := up_of_rise hok.rises
         unfold good
         rw [Bool.and_eq_true, decide_eq_true_eq]
         refine ⟨hdec, List.all_eq_true.2 fun x hx => ?_⟩
         obtain ⟨i, hi', rfl⟩ := List.getElem_of_mem hx
         rw [Bool.and_eq_true]
         have q1 : ((nod s p).1[0]'(by omega)).1.toNat ≤ (nod s p).1[i].1.toNat := by
          by_cases e : i = 0
          · subst e; exact zw0 _
          · exact Nat.le_of_lt (List.pairwise_iff_getElem.1 hup 0 i (by omega) hi' (by omega))
         have q2 : (nod s p).1[i].1.toNat ≤ ((nod s p).1[(nod s p).1.length - 1]'(by omega)).1.toNat := by
          by_cases e : i = (nod s p).1.length - 1
          · subst e; exact zw0 _
          · exact Nat.le_of_lt (List.pairwise_iff_getElem.1 hup i ((nod s p).1.length - 1) hi' (by omega) (by omega))
         exact ⟨z0j h1 (by omega), qBX h2 (by omega)⟩
       · rw [if_neg (by have := G.pos; omega)]
         exact ⟨hk, fun i hi' => G.fit lo hi h1 (fun _ => h2) i hi' hi'⟩
   · rw [if_neg hm] at h; cases h
def lnone : Lw := ⟨[], 0⟩
def lread (s : Pgs) (root : Int) : Option (Lw × UInt64 × UInt64) := lwalk s 16 root lnone
theorem lread_whole {s : Pgs} {root : Int} {d : Nat} (h : z0x s root d) : lread s root = some (⟨pgs s d root, d⟩, keyF (its s d root), keyL (its s d root)) := by
 unfold lread
 rw [lw_fit s 16 d root none none lnone h.le (zw0 _) h.fit h.nodup (fun q _ => by simp [lnone]) (.inl rfl)]
 simp [lnone]
theorem qUX {s : Pgs} {root : Int} {w : Lw} {a b : UInt64} (h : lread s root = some (w, a, b)) : ∃ d, z0x s root d ∧ w = ⟨pgs s d root, d⟩ := by
 obtain ⟨d, F⟩ := lw_found s 16 root lnone w a b (zw0 _) h
 refine ⟨d, ⟨F.pos, F.le, F.fit none none rfl rfl, F.nodup⟩, ?_⟩
 rw [F.eq]
 simp [lnone]
theorem lread_none {s : Pgs} {root : Int} : lread s root = none ↔ (walk s root).bad = true := by
 constructor
 · intro h
   cases hb : (walk s root).bad with
   | true => rfl
   | false =>
     obtain ⟨d, hw⟩ := whole_of hb
     rw [lread_whole hw] at h
     cases h
 · intro hb
   cases h : lread s root with
   | none => rfl
   | some r =>
     obtain ⟨w, a, b⟩ := r
     obtain ⟨d, hw, -⟩ := qUX h
     rw [qEQ hw] at hb
     cases hb
theorem qZj {s : Pgs} : ∀ {d : Nat} {lo hi : Bnd} {p : Int}, Fit s d lo hi p → 2 ^ d ≤ (pgs s d p).length + 1
 | d + 1, lo, hi, p, h => by
   obtain ⟨h1, h2, h3⟩ := h
   obtain ⟨hok, -, -⟩ := good_ok h2
   by_cases hd : d = 0
   · subst hd
     simp [pgs]
   · rw [if_neg hd] at h3
     have hlen := kids_len hok h3.1
     have hs1 := hok.some_
     have k0 := qZj (h3.2 0 (by omega))
     have k1 := qZj (h3.2 1 (by omega))
     have e : kpgs s d (nod s p) 2 = pgs s d ((nod s p).2[0]'(by omega)) ++ pgs s d ((nod s p).2[1]'(by omega)) := by
      have e1 := q3Q s d (nod s p) (show 1 < (nod s p).2.length by omega)
      have e0 := q3Q s d (nod s p) (show 0 < (nod s p).2.length by omega)
      refine e1.trans ?_
      refine congrArg (· ++ _) (e0.trans ?_)
      simp [kpgs]
     have hle : (kpgs s d (nod s p) 2).length ≤ ((nod s p).2.flatMap (pgs s d)).length := by
      unfold kpgs
      conv => rhs; rw [← List.take_append_drop 2 (nod s p).2, List.flatMap_append, zw2]
      omega
     rw [e, zw2] at hle
     rw [Nat.pow_succ]
     unfold pgs
     rw [List.length_cons]
     omega
theorem qIj : ∀ (n : Nat) (l : List Int), l.Nodup → (∀ q ∈ l, 1 ≤ q ∧ q ≤ n) → l.length ≤ n
 | 0, l, _, h => by
   cases l with
   | nil => simp
   | cons x l => have := h x (by simp); omega
 | n + 1, l, hn, h => by
   have h1 := qIj n (l.filter fun q => decide (q ≠ (n : Int) + 1)) (List.Pairwise.filter _ hn) (fun q hq => by
    obtain ⟨hq, hne⟩ := List.mem_filter.1 hq
    have := h q hq
    simp only [decide_eq_true_eq] at hne
    omega)
   have h2 : l.length ≤ (l.filter fun q => decide (q ≠ (n : Int) + 1)).length + 1 := by
    clear h1 h
    induction l with
    | nil => simp
    | cons x l ih =>
      have hc := List.nodup_cons.1 hn
      by_cases e : x = (n : Int) + 1
      · have : l.filter (fun q => decide (q ≠ (n : Int) + 1)) = l := List.filter_eq_self.2 fun q hq => by
         simp only [decide_eq_true_eq]
         intro e'
         exact hc.1 (by rw [e, ← e']; exact hq)
        rw [List.filter_cons_of_neg (by simp [e]), this, List.length_cons]
        omega
      · rw [List.filter_cons_of_pos (by simp [e]), List.length_cons, List.length_cons]
        have := ih hc.2
        omega
   omega
end Tr
abbrev Brn := UInt64 × Int
abbrev Cnt := List Itm × List Brn
namespace Tr
open Oct Crc Lf
def slot (s : Pgs) : Nat := (s.findIdx? fun b => b.isEmpty).getD s.length
def putAt (s : Pgs) (i : Nat) (b : List UInt8) : Pgs := if i < s.length then s.set i b else s ++ [b]
def add (s : Pgs) (n : Nod) : Except Int (Pgs × Int) := if slot s = 2048 then .error 51 else if ok n = true then .ok (putAt s (slot s) (enc n), (slot s : Int) + 1) else .error 9
def groupsN {α : Type} : Nat → List α → List (List α)
 | 0, _ => []
 | c + 1, l => l.take ((l.length + c) / (c + 1)) :: groupsN c (l.drop ((l.length + c) / (c + 1)))
def groups {α : Type} (most : Nat) (l : List α) : List (List α) := groupsN ((l.length + most - 1) / most) l
def leafOver (g : List Itm) : Nod := (g, [])
def over (g : List Brn) : Nod := (g.tail.map fun b => (b.1, 0), g.map (·.2))
def fromK (g : List Brn) : UInt64 := (g.head?.map (·.1)).getD 0
def layG {α : Type} (mk : List α → Nod) (fr : List α → UInt64) : List (List α) → Pgs × List Brn → Except Int (Pgs × List Brn)
 | [], st => .ok st
 | g :: gs, st => match add st.1 (mk g) with
   | .error e => .error e
   | .ok r => layG mk fr gs (r.1, st.2 ++ [(fr g, r.2)])
def lay (s : Pgs) (c : Cnt) : Except Int (Pgs × List Brn) := match layG leafOver keyF (groups 3 c.1) (s, []) with
 | .error e => .error e
 | .ok st => layG over fromK (groups 4 c.2) st
def contOf (n : Nod) (from_ : UInt64) : Cnt := if n.2 = [] then (n.1, []) else ([], (from_, n.2.getD 0 0) :: (n.1.zip n.2.tail).map fun z => (z.1.1, z.2))
def nodeE (s : Pgs) (p : Int) : Except Int Nod := if 1 ≤ p ∧ p ≤ s.length ∧ decodeE (page s p) = 0 then .ok (nod s p) else .error 9
def csize (c : Cnt) : Nat := c.1.length + c.2.length
def joined (a b : Cnt) : Cnt := (a.1 ++ b.1, a.2 ++ b.2)
def replaced (l : List Brn) (i j : Nat) (m : List Brn) : List Brn := l.take i ++ m ++ l.drop j
def mend (s : Pgs) (ks : List Brn) (first : Nat) (now : Cnt) : Except Int (Cnt × Nat × Nat) :=
 if 2 ≤ csize now then .ok (now, first, first + 1)
 else if 0 < first then match nodeE s (ks.getD (first - 1) (0, 0)).2 with
  | .error e => .error e
  | .ok n => .ok (joined (contOf n (ks.getD (first - 1) (0, 0)).1) now, first - 1, first + 1)
 else match nodeE s (ks.getD (first + 1) (0, 0)).2 with
  | .error e => .error e
  | .ok n => .ok (joined now (contOf n (ks.getD (first + 1) (0, 0)).1), first, first + 1 + 1)
def change (T : List Itm → List Itm) (key : UInt64) : Nat → Pgs → Brn → Except Int (Pgs × Cnt)
 | 0, _, _ => .error 9
 | d + 1, s, b => match nodeE s b.2 with
   | .error e => .error e
   | .ok n => if n.2 = [] then .ok (s, (T n.1, []))
     else match change T key d s ((contOf n b.1).2.getD (way n key) (0, 0)) with
      | .error e => .error e
      | .ok r => match mend r.1 (contOf n b.1).2 (way n key) r.2 with
        | .error e => .error e
        | .ok m => match lay r.1 m.1 with
          | .error e => .error e
          | .ok q => .ok (q.1, ([], replaced (contOf n b.1).2 m.2.1 m.2.2 q.2))
def rootOf : Nat → Pgs → Cnt → Except Int (Pgs × Int)
 | 0, _, _ => .error 9
 | k + 1, s, c => if c.1 ≠ [] ∨ 1 < c.2.length then (match lay s c with
     | .error e => .error e
     | .ok r => rootOf k r.1 ([], r.2))
  else .ok (s, (c.2.head?.map (·.2)).getD 0)
def turned (T : List Itm → List Itm) (key : UInt64) (s : Pgs) (root : Int) (d : Nat) : Except Int (Pgs × Cnt) := if root = 0 then .ok (s, (T [], [])) else change T key d s (0, root)
def changed (T : List Itm → List Itm) (key : UInt64) (s : Pgs) (root : Int) (d : Nat) : Except Int (Pgs × Int) := match turned T key s root d with
 | .error e => .error e
 | .ok r => rootOf 5 r.1 r.2
structure Ext (s s' : Pgs) : Prop where
 len : s.length ≤ s'.length
 same : ∀ q : Int, 1 ≤ q → page s q ≠ [] → page s' q = page s q
theorem Ext.refl (s : Pgs) : Ext s s := ⟨zw0 _, fun _ _ _ => rfl⟩
theorem Ext.trans {a b c : Pgs} (h : Ext a b) (h' : Ext b c) : Ext a c :=
 ⟨zw1 h.len h'.len, fun q h1 h2 => (h'.same q h1 (by rw [h.same q h1 h2]; exact h2)).trans (h.same q h1 h2)⟩
theorem slot_le (s : Pgs) : slot s ≤ s.length := by
 unfold slot
 cases h : s.findIdx? (fun b => b.isEmpty) with
 | none => simp
 | some i => simp only [Option.getD_some]; exact Nat.le_of_lt (List.findIdx?_eq_some_iff_getElem.1 h).1
theorem slot_free (s : Pgs) : page s ((slot s : Int) + 1) = [] := by
 unfold page
 rw [show ((slot s : Int) + 1).toNat - 1 = slot s by omega]
 unfold slot
 cases h : s.findIdx? (fun b => b.isEmpty) with
 | none => simp [List.getD]
 | some i =>
   obtain ⟨hi, hb, -⟩ := List.findIdx?_eq_some_iff_getElem.1 h
   simp only [Option.getD_some, List.getD, zw3 hi, List.isEmpty_iff] at hb ⊢
   exact hb
theorem putAt_length (s : Pgs) (i : Nat) (b : List UInt8) : (putAt s i b).length = if i < s.length then s.length else s.length + 1 := by
 unfold putAt
 split <;> simp
theorem qUj (s : Pgs) (i : Nat) (b : List UInt8) (hi : i ≤ s.length) (q : Int) (hq : 1 ≤ q) : page (putAt s i b) q = if q = (i : Int) + 1 then b else page s q := by
 unfold page putAt
 by_cases e : q = (i : Int) + 1
 · rw [if_pos e]
   subst e
   rw [show ((i : Int) + 1).toNat - 1 = i by omega]
   by_cases h : i < s.length
   · rw [if_pos h]; simp [List.getD, h]
   · rw [if_neg h]
     obtain rfl : i = s.length := by omega
     simp [List.getD]
 · rw [if_neg e]
   have hne : i ≠ q.toNat - 1 := by omega
   by_cases h : i < s.length
   · rw [if_pos h]; simp [List.getD, hne]
   · rw [if_neg h]
     simp only [List.getD]
     by_cases hl : q.toNat - 1 < s.length
     · rw [List.getElem?_append_left hl]
     · rw [List.getElem?_eq_none (by simp; omega), List.getElem?_eq_none (by omega)]
structure Added (s : Pgs) (n : Nod) (s' : Pgs) (q : Int) : Prop where
 ok_ : Lf.Ok n
 pos : 1 ≤ q
 le : q ≤ s'.length
 few : s'.length ≤ 2048
 len : s'.length ≤ s.length + 1
 was : page s q = []
 is : page s' q = enc n
 ext : Ext s s'
theorem enc_ne {n : Nod} (h : Lf.Ok n) : enc n ≠ [] := fun e => by have := enc_len h; rw [e] at this; cases this
theorem add_ok {s s' : Pgs} {n : Nod} {q : Int} (hl : s.length ≤ 2048) (h : add s n = .ok (s', q)) : Added s n s' q := by
 unfold add at h
 by_cases h1 : slot s = 2048
 · rw [if_pos h1] at h; cases h
 · rw [if_neg h1] at h
   by_cases h2 : ok n = true
   · rw [if_pos h2] at h
     simp only [Except.ok.injEq, Prod.mk.injEq] at h
     obtain ⟨rfl, rfl⟩ := h
     have hs := slot_le s
     have hok := ok_iff.1 h2
     have hpl := putAt_length s (slot s) (enc n)
     refine ⟨hok, by omega, ?_, ?_, ?_, slot_free s, by rw [qUj _ _ _ hs _ (by omega), if_pos rfl], ⟨?_, fun q hq hne => ?_⟩⟩
     · rw [hpl]; split <;> omega
     · rw [hpl]; split <;> omega
     · rw [hpl]; split <;> omega
     · rw [hpl]; split <;> omega
     · rw [qUj _ _ _ hs _ hq, if_neg]
       intro e
       rw [e, slot_free] at hne
       exact hne rfl
   · rw [if_neg h2] at h; cases h
theorem add_error {s : Pgs} {n : Nod} {e : Int} (hl : s.length ≤ 2048) (hn : Lf.Ok n) (h : add s n = .error e) : e = 51 ∧ s.length = 2048 := by
 unfold add at h
 by_cases h1 : slot s = 2048
 · rw [if_pos h1] at h
   have := slot_le s
   cases h
   exact ⟨rfl, by omega⟩
 · rw [if_neg h1, if_pos (ok_iff.2 hn)] at h; cases h
theorem qJx {s : Pgs} : ∀ {d : Nat} {lo hi : Bnd} {p : Int}, Fit s d lo hi p → ∀ q ∈ pgs s d p, page s q ≠ []
 | d + 1, lo, hi, p, h, q, hq => by
   obtain ⟨h1, h2, h3⟩ := h
   rcases List.mem_cons.1 hq with rfl | hq
   · obtain ⟨hok, he, -⟩ := good_ok h2
     rw [← he]
     exact enc_ne hok
   · by_cases hd : d = 0
     · rw [if_pos hd] at h3
       rw [h3] at hq
       simp at hq
     · rw [if_neg hd] at h3
       obtain ⟨k, hk, hqk⟩ := List.mem_flatMap.1 hq
       obtain ⟨i, hi', rfl⟩ := List.getElem_of_mem hk
       exact qJx (h3.2 i hi') q hqk
theorem qHx {s s' : Pgs} (e : Ext s s') {d : Nat} {lo hi : Bnd} {p : Int} (h : Fit s d lo hi p) : Fit s' d lo hi p ∧ its s' d p = its s d p ∧ pgs s' d p = pgs s d p :=
 fit_same h (fun q hq => ⟨by have := (q2Q h q hq).2; have := e.len; omega, e.same q (q2Q h q hq).1 (qJx h q hq)⟩)
def nx (hi : Bnd) : List Brn → Bnd
 | [] => hi
 | b :: _ => some b.1
def q6x (s : Pgs) (d : Nat) (hi : Bnd) : List Brn → Prop
 | [] => True
 | b :: r => Fit s d (some b.1) (nx hi r) b.2 ∧ q6x s d hi r
def cits (s : Pgs) (d : Nat) (bs : List Brn) : List Itm := bs.flatMap fun b => its s d b.2
def cpgs (s : Pgs) (d : Nat) (bs : List Brn) : List Int := bs.flatMap fun b => pgs s d b.2
theorem nx_append (hi : Bnd) (a b : List Brn) : nx hi (a ++ b) = nx (nx hi b) a := by
 cases a with
 | nil => rfl
 | cons x a => rfl
theorem chain_append {s : Pgs} {d : Nat} {hi : Bnd} : ∀ {a b : List Brn}, q6x s d hi (a ++ b) ↔ q6x s d (nx hi b) a ∧ q6x s d hi b
 | [], b => by simp [q6x]
 | x :: a, b => by
   show (Fit s d (some x.1) (nx hi (a ++ b)) x.2 ∧ q6x s d hi (a ++ b)) ↔ (Fit s d (some x.1) (nx (nx hi b) a) x.2 ∧ q6x s d (nx hi b) a) ∧ q6x s d hi b
   rw [nx_append, chain_append (a := a)]
   exact and_assoc.symm
theorem q2X (s : Pgs) (d : Nat) (a b : List Brn) : cits s d (a ++ b) = cits s d a ++ cits s d b := by unfold cits; rw [List.flatMap_append]
theorem q1j (s : Pgs) (d : Nat) (a b : List Brn) : cpgs s d (a ++ b) = cpgs s d a ++ cpgs s d b := by unfold cpgs; rw [List.flatMap_append]
theorem qJZ {s s' : Pgs} (e : Ext s s') {d : Nat} {hi : Bnd} : ∀ {bs : List Brn}, q6x s d hi bs → q6x s' d hi bs ∧ cits s' d bs = cits s d bs ∧ cpgs s' d bs = cpgs s d bs
 | [], _ => ⟨trivial, rfl, rfl⟩
 | b :: r, h => by
   obtain ⟨h1, h2⟩ := h
   obtain ⟨f1, f2, f3⟩ := qHx e h1
   obtain ⟨c1, c2, c3⟩ := qJZ e h2
   unfold cits cpgs at *
   exact ⟨⟨f1, c1⟩, by rw [List.flatMap_cons, List.flatMap_cons, f2, c2], by rw [List.flatMap_cons, List.flatMap_cons, f3, c3]⟩
theorem q7z {s : Pgs} {d : Nat} {hi : Bnd} : ∀ {bs : List Brn}, q6x s d hi bs → ∀ q ∈ cpgs s d bs, (1 ≤ q ∧ q ≤ s.length) ∧ page s q ≠ []
 | [], _, q, hq => by simp [cpgs] at hq
 | b :: r, h, q, hq => by
   unfold cpgs at hq
   rw [List.flatMap_cons] at hq
   rcases List.mem_append.1 hq with hq | hq
   · exact ⟨q2Q h.1 q hq, qJx h.1 q hq⟩
   · exact q7z h.2 q hq
theorem qNQ {s : Pgs} {d : Nat} {hi : Bnd} : ∀ {bs : List Brn}, q6x s d hi bs → Up (cits s d bs) ∧ ∀ x ∈ cits s d bs, above (nx none bs) x.1 = true ∧ under hi x.1 = true
 | [], _ => ⟨by unfold Up cits; simp, fun x hx => by simp [cits] at hx⟩
 | [b], h => by
   obtain ⟨f1, f2⟩ := qCX h.1
   unfold cits
   simp only [List.flatMap_cons, List.flatMap_nil, List.append_nil]
   exact ⟨f1, f2⟩
 | b :: b' :: r, h => by
   obtain ⟨f1, f2⟩ := qCX h.1
   obtain ⟨c1, c2⟩ := qNQ h.2
   have e : cits s d (b :: b' :: r) = its s d b.2 ++ cits s d (b' :: r) := rfl
   have hlt : b.1.toNat ≤ b'.1.toNat := by
    obtain ⟨x, hx, -⟩ := qFx (qQj h.1)
    have := f2 x hx
    simp only [nx, above, under, decide_eq_true_eq] at this
    omega
   rw [e]
   refine ⟨List.pairwise_append.2 ⟨f1, c1, fun x hx y hy => ?_⟩, fun x hx => ?_⟩
   · have h1 := (f2 x hx).2
     have h2 := (c2 y hy).1
     simp only [nx, above, under, decide_eq_true_eq] at h1 h2
     omega
   · rcases List.mem_append.1 hx with hx | hx
     · refine ⟨(f2 x hx).1, ?_⟩
       -- below the next key, which is below the bound
       have h1 := (f2 x hx).2
       obtain ⟨y, hy, -⟩ := qFx (show cits s d (b' :: r) ≠ [] from fun e' => qQj h.2.1 (List.append_eq_nil_iff.1 e').1)
       have h2 := c2 y hy
       have h3 := h2.1
       simp only [nx, above, under, decide_eq_true_eq] at h1 h3
       exact qBX h2.2 (by omega)
     · have h2 := c2 x hx
       refine ⟨?_, h2.2⟩
       have h3 := h2.1
       simp only [nx, above, decide_eq_true_eq] at h3 ⊢
       omega
end Tr
end Go.Proofs.YtkbmadoaomoojaaGreat
