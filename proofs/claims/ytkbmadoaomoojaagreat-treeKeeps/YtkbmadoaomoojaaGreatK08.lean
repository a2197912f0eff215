/-
  Facts that the proof rests on, part 9. Conditions: those that each of them names.
-/
import Derived.Test.YtkbmadoaomoojaaGreatK07
namespace Go.Proofs.YtkbmadoaomoojaaGreat
set_option maxRecDepth 20000
set_option linter.unusedVariables false
namespace Tr
open Oct Crc Lf
structure Lw where
 met : List Int
 leaf : Nat
def keyF (l : List Itm) : UInt64 := (l.head?.map (·.1)).getD 0
def keyL (l : List Itm) : UInt64 := (l.getLast?.map (·.1)).getD 0
def fits (n : Nod) (j : Nat) (a b : UInt64) : Bool := (decide (j = 0) || decide (((n.1.map Prod.fst).getD (j - 1) 0).toNat ≤ a.toNat)) && (decide (j = n.1.length) || decide (b.toNat < ((n.1.map Prod.fst).getD j 0).toNat))
def lkids (g : Int → Lw → Option (Lw × UInt64 × UInt64)) (n : Nod) : Nat → Lw → Option (Lw × UInt64 × UInt64)
 | 0, w => some (w, 0, 0)
 | j + 1, w => (lkids g n j w).bind fun r => (g (n.2.getD j 0) r.1).bind fun t => if fits n j t.2.1 t.2.2 = true then some (t.1, if j = 0 then t.2.1 else r.2.1, t.2.2) else none
def may (s : Pgs) (p : Int) (w : Lw) : Bool := decide (p ∉ w.met) && decide (1 ≤ p) && decide (p ≤ s.length) && decide (decodeE (page s p) = 0)
def lwalk (s : Pgs) : Nat → Int → Lw → Option (Lw × UInt64 × UInt64)
 | 0, _, _ => none
 | f + 1, p, w =>
   if may s p w = true then
    if (nod s p).2 = [] then (if w.leaf = 0 ∨ w.leaf = 16 - f then some (⟨w.met ++ [p], 16 - f⟩, keyF (nod s p).1, keyL (nod s p).1) else none)
    else lkids (lwalk s f) (nod s p) (nod s p).2.length ⟨w.met ++ [p], w.leaf⟩
   else none
theorem may_iff {s : Pgs} {p : Int} {w : Lw} : may s p w = true ↔ p ∉ w.met ∧ 1 ≤ p ∧ p ≤ s.length ∧ decodeE (page s p) = 0 := by
 unfold may
 simp only [Bool.and_eq_true, decide_eq_true_eq, and_assoc]
theorem keyF_mem {l : List Itm} (h : l ≠ []) : ∃ x ∈ l, x.1 = keyF l := by
 cases l with
 | nil => exact absurd rfl h
 | cons x l => exact ⟨x, by simp, rfl⟩
theorem keyL_mem {l : List Itm} (h : l ≠ []) : ∃ x ∈ l, x.1 = keyL l := by
 refine ⟨l.getLast h, List.getLast_mem h, ?_⟩
 unfold keyL
 rw [List.getLast?_eq_some_getLast h]
 rfl
theorem keyF_append {a b : List Itm} (h : a ≠ []) : keyF (a ++ b) = keyF a := by
 cases a with
 | nil => exact absurd rfl h
 | cons x l => rfl
theorem keyL_append {a b : List Itm} (h : b ≠ []) : keyL (a ++ b) = keyL b := by
 unfold keyL
 rw [List.getLast?_append, List.getLast?_eq_some_getLast h]
 rfl
theorem keyF_le {l : List Itm} (h : Up l) {x : Itm} (hx : x ∈ l) : (keyF l).toNat ≤ x.1.toNat := by
 cases l with
 | nil => simp at hx
 | cons y l =>
   rcases List.mem_cons.1 hx with rfl | hx
   · exact Nat.le_refl _
   · exact Nat.le_of_lt ((List.pairwise_cons.1 h).1 x hx)
theorem le_keyL {l : List Itm} (h : Up l) {x : Itm} (hx : x ∈ l) : x.1.toNat ≤ (keyL l).toNat := by
 have hne : l ≠ [] := fun e => by rw [e] at hx; simp at hx
 have e := List.dropLast_concat_getLast hne
 unfold keyL
 rw [List.getLast?_eq_some_getLast hne]
 rw [← e] at hx h
 rcases List.mem_append.1 hx with hx | hx
 · exact Nat.le_of_lt ((List.pairwise_append.1 h).2.2 x hx _ (by simp))
 · rw [List.mem_singleton.1 hx]; exact Nat.le_refl _
theorem its_ne {s : Pgs} : ∀ {d : Nat} {lo hi : Bnd} {p : Int}, Fit s d lo hi p → its s d p ≠ []
 | d + 1, lo, hi, p, h => by
   obtain ⟨h1, h2, h3⟩ := h
   obtain ⟨hok, -, -⟩ := good_ok h2
   unfold its
   by_cases hd : d = 0
   · rw [if_pos hd] at h3
     rw [if_pos h3]
     intro e
     have := hok.some_
     rw [e] at this
     simp at this
   · rw [if_neg hd] at h3
     rw [if_neg h3.1]
     have hpos : 0 < (nod s p).2.length := List.length_pos_iff.2 h3.1
     have := its_ne (h3.2 0 hpos)
     intro e
     have h0 := List.flatMap_eq_nil_iff.1 e _ (List.getElem_mem hpos)
     exact this h0
theorem kits_ne {s : Pgs} {d : Nat} {n : Nod} {j : Nat} (hj : j < n.2.length) (h : its s d n.2[j] ≠ []) : kits s d n (j + 1) ≠ [] := by
 rw [kits_succ s d n hj]
 intro e
 exact h (List.append_eq_nil_iff.1 e).2
theorem fits_iff {n : Nod} {j : Nat} {a b : UInt64} (hj : j ≤ n.1.length) : fits n j a b = true ↔ (∀ h : 0 < j, (n.1[j - 1]'(by omega)).1.toNat ≤ a.toNat) ∧ (∀ h : j < n.1.length, b.toNat < n.1[j].1.toNat) := by
 unfold fits
 rw [Bool.and_eq_true, Bool.or_eq_true, Bool.or_eq_true, decide_eq_true_eq, decide_eq_true_eq, decide_eq_true_eq, decide_eq_true_eq]
 constructor
 · rintro ⟨h1, h2⟩
   refine ⟨fun h => ?_, fun h => ?_⟩
   · have := h1.resolve_left (by omega)
     simpa [List.getD, List.getElem?_eq_getElem (show j - 1 < n.1.length by omega)] using this
   · have := h2.resolve_left (by omega)
     simpa [List.getD, List.getElem?_eq_getElem h] using this
 · rintro ⟨h1, h2⟩
   refine ⟨?_, ?_⟩
   · by_cases h : j = 0
     · exact .inl h
     · refine .inr ?_
       have := h1 (by omega)
       simpa [List.getD, List.getElem?_eq_getElem (show j - 1 < n.1.length by omega)] using this
   · by_cases h : j = n.1.length
     · exact .inl h
     · refine .inr ?_
       have := h2 (by omega)
       simpa [List.getD, List.getElem?_eq_getElem (show j < n.1.length by omega)] using this
theorem kids_len {n : Nod} (h : Lf.Ok n) (hk : n.2 ≠ []) : n.2.length = n.1.length + 1 := h.kids.resolve_left (fun e => hk (by unfold isLeaf at e; exact List.isEmpty_iff.1 e))
theorem lw_fit (s : Pgs) : ∀ (f d : Nat) (p : Int) (lo hi : Bnd) (w : Lw), d ≤ f → f ≤ 16 → Fit s d lo hi p → (pgs s d p).Nodup → (∀ q ∈ pgs s d p, q ∉ w.met) → (w.leaf = 0 ∨ w.leaf = 16 - f + d) →
 lwalk s f p w = some (⟨w.met ++ pgs s d p, 16 - f + d⟩, keyF (its s d p), keyL (its s d p))
 | f, 0, p, lo, hi, w, _, _, h, _, _, _ => False.elim h
 | 0, d + 1, p, lo, hi, w, h, _, _, _, _, _ => by omega
 | f + 1, d + 1, p, lo, hi, w, hdf, hf, hfit, hnd, hfree, hleaf => by
   obtain ⟨h1, h2, h3⟩ := hfit
   obtain ⟨hok, -, hin⟩ := good_ok h2
   have hdec : decodeE (page s p) = 0 := by unfold good at h2; rw [Bool.and_eq_true, decide_eq_true_eq] at h2; exact h2.1
   have hm : may s p w = true := may_iff.2 ⟨hfree p (by simp [pgs]), h1.1, h1.2, hdec⟩
   unfold lwalk
   rw [if_pos hm]
   by_cases hd : d = 0
   · subst hd
     rw [if_pos rfl] at h3
     rw [if_pos h3, if_pos (by omega)]
     have e1 : 16 - f = 16 - (f + 1) + (0 + 1) := by omega
     simp only [pgs, its, h3, List.flatMap_nil, if_true]
     rw [e1]
   · rw [if_neg hd] at h3
     obtain ⟨hne, hk⟩ := h3
     rw [if_neg hne]
     have hlen := kids_len hok hne
     have hnd' := List.nodup_cons.1 hnd
     have key : ∀ j, j ≤ (nod s p).2.length → lkids (lwalk s f) (nod s p) j ⟨w.met ++ [p], w.leaf⟩ =
      some (⟨w.met ++ (p :: kpgs s d (nod s p) j), if j = 0 then w.leaf else 16 - f + d⟩, keyF (kits s d (nod s p) j), keyL (kits s d (nod s p) j)) := by
      intro j
      induction j with
      | zero =>
        intro _
        simp [lkids, kpgs, kits, keyF, keyL]
      | succ j ih =>
        intro hj
        have hjl : j < (nod s p).2.length := by omega
        have hsub : ∀ q ∈ pgs s d (nod s p).2[j], q ∈ (nod s p).2.flatMap (pgs s d) := fun q hq => List.mem_flatMap.2 ⟨_, List.getElem_mem hjl, hq⟩
        have hsplit : (nod s p).2.flatMap (pgs s d) = kpgs s d (nod s p) j ++ (pgs s d (nod s p).2[j] ++ ((nod s p).2.drop (j + 1)).flatMap (pgs s d)) := by
         unfold kpgs
         conv => lhs; rw [← List.take_append_drop j (nod s p).2, List.drop_eq_getElem_cons hjl]
         rw [List.flatMap_append, List.flatMap_cons]
        have hnk := hnd'.2
        rw [hsplit] at hnk
        have hn1 := (List.nodup_append.1 hnk)
        have hn2 := (List.nodup_append.1 hn1.2.1)
        have hne' := its_ne (hk j hjl)
        obtain ⟨u1, u2⟩ := fit_up (hk j hjl)
        have ec := lw_fit s f d (nod s p).2[j] _ _ ⟨w.met ++ (p :: kpgs s d (nod s p) j), if j = 0 then w.leaf else 16 - f + d⟩ (by omega) (by omega) (hk j hjl) hn2.1 (fun q hq hm => by
         simp only [List.mem_append, List.mem_cons] at hm
         rcases hm with h | h | h
         · exact hfree q (by unfold pgs; exact List.mem_cons_of_mem _ (hsub q hq)) h
         · exact hnd'.1 (h ▸ hsub q hq)
         · exact hn1.2.2 q h q (List.mem_append_left _ hq) rfl) (by
         simp only
         by_cases hj0 : j = 0
         · rw [if_pos hj0]
           rcases hleaf with h | h
           · exact .inl h
           · exact .inr (by omega)
         · rw [if_neg hj0]
           exact .inr rfl)
        have hft : fits (nod s p) j (keyF (its s d (nod s p).2[j])) (keyL (its s d (nod s p).2[j])) = true := by
         refine (fits_iff (by omega)).2 ⟨fun h => ?_, fun h => ?_⟩
         · obtain ⟨x, hx, e⟩ := keyF_mem hne'
           have := (u2 x hx).1
           unfold loOf at this
           rw [if_pos h, List.getElem?_eq_getElem (show j - 1 < (nod s p).1.length by omega)] at this
           simp only [Option.map_some, above, decide_eq_true_eq] at this
           rw [← e]; exact this
         · obtain ⟨x, hx, e⟩ := keyL_mem hne'
           have := (u2 x hx).2
           unfold hiOf at this
           rw [if_pos h, List.getElem?_eq_getElem h] at this
           simp only [Option.map_some, under, decide_eq_true_eq] at this
           rw [← e]; exact this
        unfold lkids
        rw [ih (by omega), Option.bind_some, getD_kid hjl]
        simp only
        rw [ec, Option.bind_some]
        simp only
        rw [if_pos hft, kpgs_succ s d _ hjl, kits_succ s d _ hjl, keyL_append hne']
        simp only [List.append_assoc, List.cons_append, Nat.add_eq_zero_iff, Nat.succ_ne_self, and_false, if_false]
        by_cases hj0 : j = 0
        · subst hj0
          simp [kits, kpgs]
        · have hkn : kits s d (nod s p) j ≠ [] := by
           obtain ⟨i, rfl⟩ : ∃ i, j = i + 1 := ⟨j - 1, by omega⟩
           exact kits_ne (by omega) (its_ne (hk i (by omega)))
          rw [if_neg hj0, keyF_append hkn]
     rw [key _ (Nat.le_refl _)]
     have hpos : (nod s p).2.length ≠ 0 := fun h => hne (List.length_eq_zero_iff.1 h)
     unfold kpgs kits
     rw [if_neg hpos]
     simp only [List.take_length, pgs, its, if_neg hne]
     congr 3
     omega
structure LFound (s : Pgs) (f d : Nat) (p : Int) (w : Lw) (w' : Lw) (a b : UInt64) : Prop where
 pos : 1 ≤ d
 le : d ≤ f
 eq : w' = ⟨w.met ++ pgs s d p, 16 - f + d⟩
 nodup : (pgs s d p).Nodup
 free : ∀ q ∈ pgs s d p, q ∉ w.met
 leaf : w.leaf = 0 ∨ w.leaf = 16 - f + d
 least : a = keyF (its s d p)
 most : b = keyL (its s d p)
 fit : ∀ lo hi : Bnd, above lo a = true → under hi b = true → Fit s d lo hi p
structure LSome (s : Pgs) (f d : Nat) (p : Int) (w : Lw) (j : Nat) (w' : Lw) (a b : UInt64) : Prop where
 pos : 1 ≤ d
 le : d ≤ f
 eq : w' = ⟨w.met ++ (p :: kpgs s d (nod s p) j), 16 - f + d⟩
 nodup : (p :: kpgs s d (nod s p) j).Nodup
 free : ∀ q ∈ (p :: kpgs s d (nod s p) j), q ∉ w.met
 leaf : w.leaf = 0 ∨ w.leaf = 16 - f + d
 least : a = keyF (kits s d (nod s p) j)
 most : b = keyL (kits s d (nod s p) j)
 ne : kits s d (nod s p) j ≠ []
 fit : ∀ lo hi : Bnd, above lo a = true → (j = (nod s p).2.length → under hi b = true) → ∀ (i : Nat) (h : i < (nod s p).2.length), i < j → Fit s d (loOf (nod s p) lo i) (hiOf (nod s p) hi i) (nod s p).2[i]
 low : (keyF (kits s d (nod s p) j)).toNat < (((nod s p).1.map Prod.fst).getD 0 0).toNat
 top : 2 ≤ j → (((nod s p).1.map Prod.fst).getD (j - 2) 0).toNat ≤ b.toNat
theorem lw_found (s : Pgs) : ∀ (f : Nat) (p : Int) (w w' : Lw) (a b : UInt64), f ≤ 16 → lwalk s f p w = some (w', a, b) → ∃ d, LFound s f d p w w' a b
 | 0, p, w, w', a, b, _, h => by unfold lwalk at h; cases h
 | f + 1, p, w, w', a, b, hf, h => by
   unfold lwalk at h
   by_cases hm : may s p w = true
   · rw [if_pos hm] at h
     obtain ⟨hmet, hp1, hp2, hdec⟩ := may_iff.1 hm
     have hok := ok_iff.1 (enc_decode hdec).1
     have hok : Lf.Ok (nod s p) := hok
     by_cases hk : (nod s p).2 = []
     · rw [if_pos hk] at h
       by_cases hl : w.leaf = 0 ∨ w.leaf = 16 - f
       · rw [if_pos hl] at h
         simp only [Option.some.injEq, Prod.mk.injEq] at h
         obtain ⟨rfl, rfl, rfl⟩ := h
         have hI : its s 1 p = (nod s p).1 := by unfold its; rw [if_pos hk]
         have hup := up_of_rise hok.rises
         refine ⟨1, ⟨Nat.le_refl _, by omega, ?_, ?_, ?_, by omega, by rw [hI], by rw [hI], fun lo hi h1 h2 => ⟨⟨hp1, hp2⟩, ?_, by rw [if_pos rfl]; exact hk⟩⟩⟩
         · simp only [pgs, hk, List.flatMap_nil]
           congr 1
           omega
         · simp [pgs, hk]
         · intro q hq
           simp only [pgs, hk, List.flatMap_nil, List.mem_singleton] at hq
           rw [hq]; exact hmet
         · unfold good
           rw [Bool.and_eq_true, decide_eq_true_eq]
           refine ⟨hdec, List.all_eq_true.2 fun x hx => ?_⟩
           rw [Bool.and_eq_true]
           exact ⟨above_le h1 (keyF_le hup hx), under_le h2 (le_keyL hup hx)⟩
       · rw [if_neg hl] at h; cases h
     · rw [if_neg hk] at h
       have hlen := kids_len hok hk
       have hs1 := hok.some_
       have key : ∀ j, 1 ≤ j → j ≤ (nod s p).2.length → ∀ w' a b, lkids (lwalk s f) (nod s p) j ⟨w.met ++ [p], w.leaf⟩ = some (w', a, b) → ∃ d, LSome s f d p w j w' a b := by
        intro j
        induction j with
        | zero => intro h; omega
        | succ j ih =>
          intro _ hj w' a b he
          have hjl : j < (nod s p).2.length := by omega
          unfold lkids at he
          rw [Option.bind_eq_some_iff] at he
          obtain ⟨⟨v, a1, b1⟩, hv, he⟩ := he
          rw [Option.bind_eq_some_iff] at he
          obtain ⟨⟨v2, a2, b2⟩, hv2, he⟩ := he
          simp only at he hv2
          by_cases hft : fits (nod s p) j a2 b2 = true
          · rw [if_pos hft] at he
            simp only [Option.some.injEq, Prod.mk.injEq] at he
            obtain ⟨rfl, ha, rfl⟩ := he
            obtain ⟨t1, t2⟩ := (fits_iff (by omega)).1 hft
            rw [getD_kid hjl] at hv2
            obtain ⟨d, F⟩ := lw_found s f _ _ _ _ _ (by omega) hv2
            have F0 := F.fit none none rfl rfl
            have hne' := its_ne F0
            have hup' := (fit_up F0).1
            have hab : a2.toNat ≤ b2.toNat := by
             rw [F.least, F.most]
             obtain ⟨x, hx, e⟩ := keyL_mem hne'
             rw [← e]
             exact keyF_le hup' hx
            by_cases hj0 : j = 0
            · subst hj0
              rw [if_pos rfl] at ha
              subst ha
              unfold lkids at hv
              simp only [Option.some.injEq, Prod.mk.injEq] at hv
              obtain ⟨rfl, -, -⟩ := hv
              have hk1 : kpgs s d (nod s p) (0 + 1) = pgs s d (nod s p).2[0] := by rw [kpgs_succ s d _ hjl]; simp [kpgs]
              have hk2 : kits s d (nod s p) (0 + 1) = its s d (nod s p).2[0] := by rw [kits_succ s d _ hjl]; simp [kits]
              have hfr : ∀ q ∈ pgs s d (nod s p).2[0], q ≠ p ∧ q ∉ w.met := by
               intro q hq
               have h0 := F.free q hq
               simp only [List.mem_append, List.mem_singleton, not_or] at h0
               exact ⟨h0.2, h0.1⟩
              have hi0 := t2 (by omega)
              refine ⟨d, ⟨F.pos, F.le, ?_, ?_, ?_, F.leaf, by rw [hk2]; exact F.least, by rw [hk2]; exact F.most, by rw [hk2]; exact hne', fun lo hi h1 h2 i hi' hij => ?_, ?_, fun h => by omega⟩⟩
              · rw [F.eq, hk1]; simp
              · rw [hk1]
                exact List.nodup_cons.2 ⟨fun h => (hfr p h).1 rfl, F.nodup⟩
              · intro q hq
                rw [hk1] at hq
                rcases List.mem_cons.1 hq with rfl | hq
                · exact hmet
                · exact (hfr q hq).2
              · obtain rfl : i = 0 := by omega
                refine F.fit _ _ (by unfold loOf; rw [if_neg (by omega)]; exact h1) ?_
                unfold hiOf
                rw [if_pos (by omega), List.getElem?_eq_getElem (show 0 < (nod s p).1.length by omega)]
                simp only [Option.map_some, under, decide_eq_true_eq]
                exact hi0
              · rw [hk2, ← F.least]
                rw [show ((nod s p).1.map Prod.fst).getD 0 0 = ((nod s p).1[0]'(by omega)).1 by simp [List.getD, List.getElem?_eq_getElem (show 0 < (nod s p).1.length by omega)]]
                omega
            · rw [if_neg hj0] at ha
              subst ha
              obtain ⟨d', G⟩ := ih (by omega) (by omega) _ _ _ hv
              have hGe := G.eq
              subst hGe
              have hdd : d' = d := by
               have := F.leaf
               have := F.pos
               have := G.pos
               simp only at *
               omega
              subst hdd
              have hfr : ∀ q ∈ pgs s d' (nod s p).2[j], q ∉ (p :: kpgs s d' (nod s p) j) ∧ q ∉ w.met := by
               intro q hq
               have h0 := F.free q hq
               simp only [List.mem_append, not_or] at h0
               exact ⟨h0.2, h0.1⟩
              have hlow := t1 (by omega)
              refine ⟨d', ⟨F.pos, F.le, ?_, ?_, ?_, G.leaf, ?_, ?_, kits_ne hjl hne', fun lo hi h1 h2 i hi' hij => ?_, ?_, fun _ => ?_⟩⟩
              · rw [F.eq, kpgs_succ s d' _ hjl]; simp
              · rw [kpgs_succ s d' _ hjl, ← List.cons_append]
                refine List.nodup_append.2 ⟨G.nodup, F.nodup, fun x hx y hy e => ?_⟩
                subst e
                exact (hfr x hy).1 hx
              · intro q hq
                rw [kpgs_succ s d' _ hjl, ← List.cons_append] at hq
                rcases List.mem_append.1 hq with hq | hq
                · exact G.free q hq
                · exact (hfr q hq).2
              · rw [kits_succ s d' _ hjl, keyF_append G.ne]; exact G.least
              · rw [kits_succ s d' _ hjl, keyL_append hne']; exact F.most
              · by_cases e : i = j
                · subst e
                  refine F.fit _ _ ?_ ?_
                  · unfold loOf
                    rw [if_pos (by omega), List.getElem?_eq_getElem (show i - 1 < (nod s p).1.length by omega)]
                    simp only [Option.map_some, above, decide_eq_true_eq]
                    exact hlow
                  · unfold hiOf
                    by_cases hl : i < (nod s p).1.length
                    · rw [if_pos hl, List.getElem?_eq_getElem hl]
                      simp only [Option.map_some, under, decide_eq_true_eq]
                      exact t2 hl
                    · rw [if_neg hl]
                      exact h2 (by omega)
                · exact G.fit lo hi h1 (fun h => by omega) i hi' (by omega)
              · rw [kits_succ s d' _ hjl, keyF_append G.ne]; exact G.low
              · rw [show j + 1 - 2 = j - 1 by omega, show ((nod s p).1.map Prod.fst).getD (j - 1) 0 = ((nod s p).1[j - 1]'(by omega)).1 by simp [List.getD, List.getElem?_eq_getElem (show j - 1 < (nod s p).1.length by omega)]]
                omega
          · rw [if_neg hft] at he; cases he
       obtain ⟨d, G⟩ := key _ (by omega) (Nat.le_refl _) _ _ _ h
       have e1 : kpgs s d (nod s p) (nod s p).2.length = (nod s p).2.flatMap (pgs s d) := by unfold kpgs; rw [List.take_length]
       have e2 : kits s d (nod s p) (nod s p).2.length = its s (d + 1) p := by unfold kits; rw [List.take_length]; unfold its; rw [if_neg hk]
       refine ⟨d + 1, ⟨by omega, by have := G.le; omega, ?_, ?_, ?_, ?_, by rw [← e2]; exact G.least, by rw [← e2]; exact G.most, fun lo hi h1 h2 => ⟨⟨hp1, hp2⟩, ?_, ?_⟩⟩⟩
       · rw [G.eq, e1]
         simp only [pgs]
         congr 1
         have := G.le; omega
       · have := G.nodup; rw [e1] at this; exact this
       · have := G.free; rw [e1] at this; exact this
       · have := G.leaf; have := G.le; omega
       · have hlow := G.low
         have htop := G.top (by omega)
         rw [show ((nod s p).1.map Prod.fst).getD 0 0 = ((nod s p).1[0]'(by omega)).1 by simp [List.getD, List.getElem?_eq_getElem (show 0 < (nod s p).1.length by omega)], ← G.least] at hlow
         rw [show (nod s p).2.length - 2 = (nod s p).1.length - 1 by omega, show ((nod s p).1.map Prod.fst).getD ((nod s p).1.length - 1) 0 = ((nod s p).1[(nod s p).1.length - 1]'(by omega)).1 by simp [List.getD, List.getElem?_eq_getElem (show (nod s p).1.length - 1 < (nod s p).1.length by omega)]] at htop
         have hup := up_of_rise hok.rises
         unfold good
         rw [Bool.and_eq_true, decide_eq_true_eq]
         refine ⟨hdec, List.all_eq_true.2 fun x hx => ?_⟩
         obtain ⟨i, hi', rfl⟩ := List.getElem_of_mem hx
         rw [Bool.and_eq_true]
         have q1 : ((nod s p).1[0]'(by omega)).1.toNat ≤ (nod s p).1[i].1.toNat := by
          by_cases e : i = 0
          · subst e; exact Nat.le_refl _
          · exact Nat.le_of_lt (List.pairwise_iff_getElem.1 hup 0 i (by omega) hi' (by omega))
         have q2 : (nod s p).1[i].1.toNat ≤ ((nod s p).1[(nod s p).1.length - 1]'(by omega)).1.toNat := by
          by_cases e : i = (nod s p).1.length - 1
          · subst e; exact Nat.le_refl _
          · exact Nat.le_of_lt (List.pairwise_iff_getElem.1 hup i ((nod s p).1.length - 1) hi' (by omega) (by omega))
         exact ⟨above_le h1 (by omega), under_le h2 (by omega)⟩
       · rw [if_neg (by have := G.pos; omega)]
         exact ⟨hk, fun i hi' => G.fit lo hi h1 (fun _ => h2) i hi' hi'⟩
   · rw [if_neg hm] at h; cases h
def lnone : Lw := ⟨[], 0⟩
def lread (s : Pgs) (root : Int) : Option (Lw × UInt64 × UInt64) := lwalk s 16 root lnone
theorem lread_whole {s : Pgs} {root : Int} {d : Nat} (h : Whole s root d) : lread s root = some (⟨pgs s d root, d⟩, keyF (its s d root), keyL (its s d root)) := by
 unfold lread
 rw [lw_fit s 16 d root none none lnone h.le (Nat.le_refl _) h.fit h.nodup (fun q _ => by simp [lnone]) (.inl rfl)]
 simp [lnone]
theorem lread_some {s : Pgs} {root : Int} {w : Lw} {a b : UInt64} (h : lread s root = some (w, a, b)) : ∃ d, Whole s root d ∧ w = ⟨pgs s d root, d⟩ := by
 obtain ⟨d, F⟩ := lw_found s 16 root lnone w a b (Nat.le_refl _) h
 refine ⟨d, ⟨F.pos, F.le, F.fit none none rfl rfl, F.nodup⟩, ?_⟩
 rw [F.eq]
 simp [lnone]
theorem lread_none {s : Pgs} {root : Int} : lread s root = none ↔ (walk s root).bad = true := by
 constructor
 · intro h
   cases hb : (walk s root).bad with
   | true => rfl
   | false =>
     obtain ⟨d, hw⟩ := whole_of hb
     rw [lread_whole hw] at h
     cases h
 · intro hb
   cases h : lread s root with
   | none => rfl
   | some r =>
     obtain ⟨w, a, b⟩ := r
     obtain ⟨d, hw, -⟩ := lread_some h
     rw [whole_walk hw] at hb
     cases hb
theorem nodup_le : ∀ (n : Nat) (l : List Int), l.Nodup → (∀ q ∈ l, 1 ≤ q ∧ q ≤ n) → l.length ≤ n
 | 0, l, _, h => by
   cases l with
   | nil => simp
   | cons x l => have := h x (by simp); omega
 | n + 1, l, hn, h => by
   have h1 := nodup_le n (l.filter fun q => decide (q ≠ (n : Int) + 1)) (List.Pairwise.filter _ hn) (fun q hq => by
    obtain ⟨hq, hne⟩ := List.mem_filter.1 hq
    have := h q hq
    simp only [decide_eq_true_eq] at hne
    omega)
   have h2 : l.length ≤ (l.filter fun q => decide (q ≠ (n : Int) + 1)).length + 1 := by
    clear h1 h
    induction l with
    | nil => simp
    | cons x l ih =>
      have hc := List.nodup_cons.1 hn
      by_cases e : x = (n : Int) + 1
      · have : l.filter (fun q => decide (q ≠ (n : Int) + 1)) = l := List.filter_eq_self.2 fun q hq => by
         simp only [decide_eq_true_eq]
         intro e'
         exact hc.1 (by rw [e, ← e']; exact hq)
        rw [List.filter_cons_of_neg (by simp [e]), this, List.length_cons]
        omega
      · rw [List.filter_cons_of_pos (by simp [e]), List.length_cons, List.length_cons]
        have := ih hc.2
        omega
   omega
end Tr
abbrev Brn := UInt64 × Int
abbrev Cnt := List Itm × List Brn
namespace Tr
open Oct Crc Lf
def slot (s : Pgs) : Nat := (s.findIdx? fun b => b.isEmpty).getD s.length
def putAt (s : Pgs) (i : Nat) (b : List UInt8) : Pgs := if i < s.length then s.set i b else s ++ [b]
def add (s : Pgs) (n : Nod) : Except Int (Pgs × Int) := if slot s = 2048 then .error 51 else if ok n = true then .ok (putAt s (slot s) (enc n), (slot s : Int) + 1) else .error 9
def groupsN {α : Type} : Nat → List α → List (List α)
 | 0, _ => []
 | c + 1, l => l.take ((l.length + c) / (c + 1)) :: groupsN c (l.drop ((l.length + c) / (c + 1)))
def groups {α : Type} (most : Nat) (l : List α) : List (List α) := groupsN ((l.length + most - 1) / most) l
def leafOver (g : List Itm) : Nod := (g, [])
def over (g : List Brn) : Nod := (g.tail.map fun b => (b.1, 0), g.map (·.2))
def fromK (g : List Brn) : UInt64 := (g.head?.map (·.1)).getD 0
def layG {α : Type} (mk : List α → Nod) (fr : List α → UInt64) : List (List α) → Pgs × List Brn → Except Int (Pgs × List Brn)
 | [], st => .ok st
 | g :: gs, st => match add st.1 (mk g) with
   | .error e => .error e
   | .ok r => layG mk fr gs (r.1, st.2 ++ [(fr g, r.2)])
def lay (s : Pgs) (c : Cnt) : Except Int (Pgs × List Brn) := match layG leafOver keyF (groups 3 c.1) (s, []) with
 | .error e => .error e
 | .ok st => layG over fromK (groups 4 c.2) st
def contOf (n : Nod) (from_ : UInt64) : Cnt := if n.2 = [] then (n.1, []) else ([], (from_, n.2.getD 0 0) :: (n.1.zip n.2.tail).map fun z => (z.1.1, z.2))
def nodeE (s : Pgs) (p : Int) : Except Int Nod := if 1 ≤ p ∧ p ≤ s.length ∧ decodeE (page s p) = 0 then .ok (nod s p) else .error 9
def csize (c : Cnt) : Nat := c.1.length + c.2.length
def joined (a b : Cnt) : Cnt := (a.1 ++ b.1, a.2 ++ b.2)
def replaced (l : List Brn) (i j : Nat) (m : List Brn) : List Brn := l.take i ++ m ++ l.drop j
def mend (s : Pgs) (ks : List Brn) (first : Nat) (now : Cnt) : Except Int (Cnt × Nat × Nat) :=
 if 2 ≤ csize now then .ok (now, first, first + 1)
 else if 0 < first then match nodeE s (ks.getD (first - 1) (0, 0)).2 with
  | .error e => .error e
  | .ok n => .ok (joined (contOf n (ks.getD (first - 1) (0, 0)).1) now, first - 1, first + 1)
 else match nodeE s (ks.getD (first + 1) (0, 0)).2 with
  | .error e => .error e
  | .ok n => .ok (joined now (contOf n (ks.getD (first + 1) (0, 0)).1), first, first + 1 + 1)
def change (T : List Itm → List Itm) (key : UInt64) : Nat → Pgs → Brn → Except Int (Pgs × Cnt)
 | 0, _, _ => .error 9
 | d + 1, s, b => match nodeE s b.2 with
   | .error e => .error e
   | .ok n => if n.2 = [] then .ok (s, (T n.1, []))
     else match change T key d s ((contOf n b.1).2.getD (way n key) (0, 0)) with
      | .error e => .error e
      | .ok r => match mend r.1 (contOf n b.1).2 (way n key) r.2 with
        | .error e => .error e
        | .ok m => match lay r.1 m.1 with
          | .error e => .error e
          | .ok q => .ok (q.1, ([], replaced (contOf n b.1).2 m.2.1 m.2.2 q.2))
def rootOf : Nat → Pgs → Cnt → Except Int (Pgs × Int)
 | 0, _, _ => .error 9
 | k + 1, s, c => if c.1 ≠ [] ∨ 1 < c.2.length then (match lay s c with
     | .error e => .error e
     | .ok r => rootOf k r.1 ([], r.2))
  else .ok (s, (c.2.head?.map (·.2)).getD 0)
def turned (T : List Itm → List Itm) (key : UInt64) (s : Pgs) (root : Int) (d : Nat) : Except Int (Pgs × Cnt) := if root = 0 then .ok (s, (T [], [])) else change T key d s (0, root)
def changed (T : List Itm → List Itm) (key : UInt64) (s : Pgs) (root : Int) (d : Nat) : Except Int (Pgs × Int) := match turned T key s root d with
 | .error e => .error e
 | .ok r => rootOf 5 r.1 r.2
theorem slot_le (s : Pgs) : slot s ≤ s.length := by
 unfold slot
 cases h : s.findIdx? (fun b => b.isEmpty) with
 | none => simp
 | some i => simp only [Option.getD_some]; exact Nat.le_of_lt (List.findIdx?_eq_some_iff_getElem.1 h).1
theorem enc_ne {n : Nod} (h : Lf.Ok n) : enc n ≠ [] := fun e => by have := enc_len h; rw [e] at this; cases this
def nx (hi : Bnd) : List Brn → Bnd
 | [] => hi
 | b :: _ => some b.1
end Tr
end Go.Proofs.YtkbmadoaomoojaaGreat
