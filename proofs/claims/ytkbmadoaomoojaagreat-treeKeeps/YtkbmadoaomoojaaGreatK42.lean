/-
  Facts that the proof rests on, part 43. Conditions: those that each of them names.
-/
import Derived.ChangeOld
import Derived.OpenShut
import Derived.ProofKit
import Derived.ShutString
import Derived.SizedLaws
import Derived.Test.YtkbmadoaomoojaaGreatRows
import Derived.Test.YtkbmadoaomoojaaGreatK02
import Derived.Test.YtkbmadoaomoojaaGreatK03
import Derived.Test.YtkbmadoaomoojaaGreatK05
import Derived.Test.YtkbmadoaomoojaaGreatK06
import Derived.Test.YtkbmadoaomoojaaGreatK07
import Derived.Test.YtkbmadoaomoojaaGreatK09
import Derived.Test.YtkbmadoaomoojaaGreatK11
import Derived.Test.YtkbmadoaomoojaaGreatK23
import Derived.Test.YtkbmadoaomoojaaGreatK34
import Derived.Test.YtkbmadoaomoojaaGreatK37
import Derived.Test.YtkbmadoaomoojaaGreatK40
namespace Go.Proofs.YtkbmadoaomoojaaGreat
set_option maxRecDepth 20000
open Go.ChangeShapes Go.WideShapes Go.ChangeAt Go.RowKit
theorem own : ownKnob Tryz.prog.godebug = none := by kernel_rfl
theorem laidOut : laidOutB Tryz.prog = true := by kernel_rfl
theorem opens_octets : Opens Tryz.prog 53 rBytes := opens_list Tryz.underlying53 (by kernel_rfl) (by kernel_rfl) (opens_byte Tryz.underlying5)
theorem opens_sectors : Opens Tryz.prog 22 rSectors := opens_list Tryz.underlying22 (by kernel_rfl) (by kernel_rfl) opens_octets
theorem opens_pages : Opens Tryz.prog 24 rSectors :=
 opens_struct Tryz.underlying24 (by kernel_rfl) (opens_last rfl (by kernel_rfl) opens_sectors)
theorem opens_kids : Opens Tryz.prog 25 rKids := opens_list Tryz.underlying25 (by kernel_rfl) (by kernel_rfl) (opens_int Tryz.underlying3)
theorem rPages_rd {w : World} {P : Nat → Prop} {cs : List Value} {s : List (List UInt8)} (h : rSectors.rd w P cs s) : ∃ a n c, cs = [.slice a n c] ∧ s.length = n ∧ n ≤ 5864062014634 := by
 obtain ⟨a, n, c, e, h1, -, -, h4, -⟩ := h
 have h5 : n * 24 ≤ 140737488351232 := h4
 exact ⟨a, n, c, e, h1, by omega⟩
end Go.Proofs.YtkbmadoaomoojaaGreat
namespace Go.Proofs.YtkbmadoaomoojaaGreat
set_option maxRecDepth 20000
open Go.RowKit
set_option linter.unusedVariables false
set_option maxHeartbeats 1000000 in
theorem of8_u (w : World) (P : Nat → Prop) (s : Pgs) (a : Option Addr) (n c : Nat) (hR : rSectors.rd w P [.slice a n c] s) :
 Calls Tryz.prog 6 #[.agg #[.slice a n c]] w fun e w' => ∃ b d, e = .returned (.agg #[.slice b n d]) ∧ rSectors.rd w' (fun k => w.heap.size ≤ k) [.slice b n d] s ∧ Below w.heap.size w w' := by
 obtain ⟨w1, hw1, V1, b1, z1⟩ := boxedRow w 24 [.slice a n c]
 obtain ⟨w2, hw2, V2, b2, z2⟩ := boxedRow w1 26 [.slice none 0 0]
 have B2 : Hid (Below w.heap.size w w2) := on b1 b2
 have HV2 : Hid _ := V2
 have HZ : Hid (w.heap.size ≤ w1.heap.size) := b1.size
 have HZ1 : Hid (w1.heap.size = w.heap.size + 1) := z1
 have HC : Hid _ := copyList_r w2 P a n c s (Rep.below hR B2.out)
 have c0 := (V1.below b2).cell (j := 0) rfl
 clear V1 V2 b1 b2 z1 z2 hR
 go_enter Tryz.func6, Tryz.ntmps6
 go_wp2_with fail
 go_at_call 20
 refine Calls.mono HC.out ?_
 rintro e w3 ⟨b, d, rfl, hr, b3⟩
 have HV3 : Hid _ := HV2.out.below b3
 have HR3 : Hid _ := hr
 have B3 : Hid _ := on B2.out b3
 have HS2 : Hid (w1.heap.size < w2.heap.size) := HV2.out.lt
 have e0 := HV3.out.cell (j := 0) rfl
 have e1 := HV3.out.frozen 0
 clear hr b3
 go_wp2
 have hk : Kept (· ≠ w1.heap.size) w3 (w3.setCell ⟨w1.heap.size, 0, none⟩ (.slice b n d)) := (Kept.refl _ w3).setCell (p := ⟨w1.heap.size, 0, none⟩) (fun h => h rfl) _
 refine bodyPost_ret (results_row (xs := [.slice b n d]) rfl (by first | rfl | (simp only [HZ1.out]; rfl)) (HV3.out.set 0 _) Tryz.underlying26 rfl (by kernel_rfl)) rfl ⟨b, d, rfl, ?_, Kept.belowOf B3.out hk (by have := HZ.out; omega)⟩
 exact rSectors.weaken (Rep.kept HR3.out hk (fun q hq _ => by have h1 : w2.heap.size ≤ q := hq; have h2 := HS2.out; show q ≠ w1.heap.size; omega)) (fun q hq _ => by have h1 : w2.heap.size ≤ q := hq; have h2 := HS2.out; have h3 := HZ.out; show w.heap.size ≤ q; omega)
set_option maxHeartbeats 800000 in
theorem sameList_r (w : World) (P Q : Nat → Prop) (a b : Option Addr) (n c m d : Nat) (L K : List (List UInt8)) (hA : rSectors.rd w P [.slice a n c] L) (hB : rSectors.rd w Q [.slice b m d] K) :
 Calls Tryz.prog 11 #[.slice a n c, .slice b m d] w fun e w' => e = .returned (.bool (L == K)) ∧ Below w.heap.size w w' := by
 obtain ⟨hn, hn2⟩ := rSectors_len hA
 obtain ⟨hm, hm2⟩ := rSectors_len hB
 have HN : Hid _ := hn
 have HM : Hid _ := hm
 clear hn hm
 by_cases hnm : n = m
 case neg =>
  have hf : (L == K) = false := beq_eq_false_iff_ne.2 (fun e => hnm (by rw [← HN.out, ← HM.out, e]))
  have hne : ((n : Int) != (m : Int)) = true := bne_iff_ne.2 (by omega)
  rw [hf]
  go_enter Tryz.func11, Tryz.ntmps11
  go_wp2
  go_ret
  exact ⟨rfl, Below.refl _ _⟩
 subst hnm
 go_enter Tryz.func11, Tryz.ntmps11
 go_wp2
 go_loopw [5] (fun i wr => ∃ k : Nat, k ≤ n ∧ i = .int .i64 k ∧ Hid (L.take k = K.take k) ∧ Below w.heap.size w wr) (fun i _ => n - (intOf i).toNat)
 case atStart => exact ⟨0, Nat.zero_le _, rfl, by unfold Hid; simp, Below.refl _ _⟩
 case round =>
  obtain ⟨k, hk, rfl, HK, bel⟩ := hrel
  by_cases hlt : k < n
  · have hAr := Rep.below hA bel
    have hBr := Rep.below hB bel
    obtain ⟨g, off, rfl, -, -, hat⟩ := rLists_at hAr (by omega)
    obtain ⟨g', off', rfl, -, -, hbt⟩ := rLists_at hBr (by omega)
    have hkl : k < L.length := by rw [HN.out]; exact hlt
    have hkk : k < K.length := by rw [HM.out]; exact hlt
    obtain ⟨x, l, e, hx, -, hcell⟩ := hat k hkl
    obtain ⟨x', l', e', hx', -, hcell'⟩ := hbt k hkk
    have e1 := conv_bytes wr.drew x l e _ (rBytes_isB hx).1
    have e2 := conv_bytes wr.drew x' l' e' _ (rBytes_isB hx').1
    have HNX : Hid (L.take (k + 1) = L.take k ++ [L[k]]) := List.take_succ_eq_append_getElem hkl
    have HNK : Hid (K.take (k + 1) = K.take k ++ [K[k]]) := List.take_succ_eq_append_getElem hkk
    have HNE : Hid (L[k] ≠ K[k] → L ≠ K) := fun h e => h (by subst e; rfl)
    clear hat hbt hx hx' hAr hBr
    generalize L[k] = X at *
    generalize K[k] = Y at *
    go_wp2
    go_cut [27] (fun t wx => t = .bool (X != Y) ∧ wx = wr.drew)
    case first =>
     go_region_with fail
     all_goals (try go_wp2_with fail)
     all_goals go_meet
     all_goals exact ⟨rfl, rfl⟩
    case rest =>
     obtain ⟨rfl, rfl⟩ := hcut
     clear e1 e2 hcell hcell'
     by_cases hxy : X = Y
     · have hne : (X != Y) = false := by rw [hxy]; exact bne_self_eq_false _
       have HXY : Hid _ := hxy
       rw [hne]
       clear hxy hne
       go_wp2
       go_roundw
       case rel => exact ⟨k + 1, by omega, by go_num, by unfold Hid; rw [HNX.out, HNK.out, HK.out, HXY.out], bel.drew⟩
       case measure => simp [intOf]; omega
     · have hne : (X != Y) = true := bne_iff_ne.2 hxy
       have HF : Hid ((L == K) = false) := beq_eq_false_iff_ne.2 (HNE.out hxy)
       rw [hne]
       clear hxy hne
       go_wp2
       go_ret
       exact ⟨by rw [HF.out]; rfl, bel.drew⟩
  · obtain rfl : k = n := by omega
    have e : L = K := by
     have := HK.out
     rwa [List.take_of_length_le (by rw [HN.out]; exact Nat.le_refl _), List.take_of_length_le (by rw [HM.out]; exact Nat.le_refl _)] at this
    have E : Hid _ := e
    clear e
    go_wp2
    go_ret
    exact ⟨by rw [E.out]; simp, bel⟩
namespace Tr
def keepL (p : Nat → Bool) (s : Pgs) : Nat → Pgs
 | 0 => []
 | n + 1 => if p n = true then keepL p s n ++ List.replicate (n - (keepL p s n).length) [] ++ [(s[n]?).getD []] else keepL p s n
theorem keepL_len (p : Nat → Bool) (s : Pgs) : ∀ n, (keepL p s n).length ≤ n
 | 0 => Nat.le_refl _
 | n + 1 => by
   have h := keepL_len p s n
   unfold keepL
   split
   · simp only [List.length_append, List.length_replicate, List.length_cons, List.length_nil]; omega
   · omega
theorem keepL_at (p : Nat → Bool) (s : Pgs) : ∀ (n i : Nat), ((keepL p s n)[i]?).getD [] = if i < n ∧ p i = true then (s[i]?).getD [] else []
 | 0, i => by rw [if_neg (by omega)]; rfl
 | n + 1, i => by
   have h := keepL_at p s n i
   have hl := keepL_len p s n
   unfold keepL
   by_cases hp : p n = true
   · rw [if_pos hp, List.append_assoc]
     by_cases hi : i < (keepL p s n).length
     · rw [List.getElem?_append_left hi, h]
       by_cases hpi : p i = true
       · rw [if_pos ⟨by omega, hpi⟩, if_pos ⟨by omega, hpi⟩]
       · rw [if_neg (fun e => hpi e.2), if_neg (fun e => hpi e.2)]
     · have h0 : (if i < n ∧ p i = true then (s[i]?).getD [] else []) = [] := by
        rw [← h, List.getElem?_eq_none (by omega)]; rfl
       rw [List.getElem?_append_right (by omega)]
       by_cases hin : i < n
       · rw [List.getElem?_append_left (by rw [List.length_replicate]; omega), List.getElem?_eq_getElem (by rw [List.length_replicate]; omega), List.getElem_replicate]
         by_cases hpi : p i = true
         · rw [if_pos ⟨by omega, hpi⟩]; rw [if_pos ⟨hin, hpi⟩] at h0; exact h0.symm
         · rw [if_neg (fun e => hpi e.2)]; rfl
       · rw [List.getElem?_append_right (by rw [List.length_replicate]; omega), List.length_replicate]
         by_cases hie : i = n
         · subst hie
           rw [show i - (keepL p s i).length - (i - (keepL p s i).length) = 0 by omega, if_pos ⟨by omega, hp⟩]
           rfl
         · rw [List.getElem?_eq_none (by simp only [List.length_cons, List.length_nil]; omega), if_neg (by omega)]; rfl
   · rw [if_neg hp, h]
     by_cases hpi : i < n ∧ p i = true
     · rw [if_pos hpi, if_pos ⟨by omega, hpi.2⟩]
     · rw [if_neg hpi, if_neg (fun e => hpi ⟨by
        rcases Nat.lt_or_ge i n with h1 | h1
        · exact h1
        · have : i = n := by omega
          subst this
          exact absurd e.2 hp, e.2⟩)]
def kstep (s : Pgs) (st : List Int × Nat) (root : Int) : Except Int (List Int × Nat) :=
 if root ∈ st.1 then .ok (st.1, st.2 + 1) else if readE s root = 0 then .ok (st.1 ++ (lmet s root).filter (fun q => !decide (q ∈ st.1)), st.2 + (lmet s root).length) else .error (readE s root)
def kall (s : Pgs) : List Int → List Int × Nat → Except Int (List Int × Nat)
 | [], st => .ok st
 | r :: rs, st => match kstep s st r with
   | .error e => .error e
   | .ok st' => kall s rs st'
def keepE (s : Pgs) (roots : List Int) : Int :=
 if 2048 < s.length then 3 else match kall s roots ([], 0) with
  | .error e => e
  | .ok st => if st.1.length < st.2 then 6 else 0
def keepS (s : Pgs) (roots : List Int) : Pgs :=
 if 2048 < s.length then [] else match kall s roots ([], 0) with
  | .error _ => []
  | .ok st => if st.1.length < st.2 then [] else keepL (fun i => decide ((i : Int) + 1 ∈ st.1)) s s.length
theorem kall_snoc (s : Pgs) : ∀ (rs : List Int) (r : Int) (st : List Int × Nat), kall s (rs ++ [r]) st = match kall s rs st with | Except.error e => Except.error e | Except.ok st' => kstep s st' r
 | [], r, st => by
   show (match kstep s st r with | Except.error e => Except.error e | Except.ok st' => kall s [] st') = kstep s st r
   cases kstep s st r <;> rfl
 | q :: rs, r, st => by
   show (match kstep s st q with | Except.error e => Except.error e | Except.ok st' => kall s (rs ++ [r]) st') = match (match kstep s st q with | Except.error e => Except.error e | Except.ok st' => kall s rs st') with | Except.error e => Except.error e | Except.ok st' => kstep s st' r
   cases hq : kstep s st q with
   | error e => rfl
   | ok st' => exact kall_snoc s rs r st'
theorem lmet_nodup {s : Pgs} {root : Int} (h : readE s root = 0) : (lmet s root).Nodup := by
 rcases lmet_pgs h with ⟨-, e⟩ | ⟨-, d, W, e⟩
 · rw [e]; exact List.nodup_nil
 · rw [e]; exact W.nodup
theorem kall_ok {s : Pgs} : ∀ {rs : List Int} {st st' : List Int × Nat}, kall s rs st = .ok st' → st.1.Nodup → (∀ q ∈ st.1, 1 ≤ q ∧ q ≤ 2048) → st'.1.Nodup ∧ (∀ q ∈ st'.1, 1 ≤ q ∧ q ≤ 2048) ∧ st'.2 ≤ st.2 + 2048 * rs.length
 | [], st, st', h, h1, h2 => by
   cases h
   exact ⟨h1, h2, by simp⟩
 | r :: rs, st, st', h, h1, h2 => by
   unfold kall at h
   cases hk : kstep s st r with
   | error e => rw [hk] at h; cases h
   | ok st1 =>
     rw [hk] at h
     have h3 : st1.1.Nodup ∧ (∀ q ∈ st1.1, 1 ≤ q ∧ q ≤ 2048) ∧ st1.2 ≤ st.2 + 2048 := by
      unfold kstep at hk
      split at hk
      · cases hk; exact ⟨h1, h2, by show st.2 + 1 ≤ _; omega⟩
      · split at hk
        · rename_i hE
          cases hk
          have hin := lmet_in hE
          refine ⟨List.nodup_append.2 ⟨h1, List.Pairwise.sublist List.filter_sublist (lmet_nodup hE), fun a ha b hb e => ?_⟩, fun q hq => ?_, by show st.2 + _ ≤ _; have := hin.1; omega⟩
          · subst e
            have := (List.mem_filter.1 hb).2
            simp only [ha, decide_true, Bool.not_true] at this
            cases this
          · rcases List.mem_append.1 hq with hq | hq
            · exact h2 q hq
            · exact hin.2 q (List.mem_filter.1 hq).1
        · cases hk
     obtain ⟨g1, g2, g3⟩ := kall_ok h h3.1 h3.2.1
     exact ⟨g1, g2, by rw [List.length_cons]; have := h3.2.2; omega⟩
end Tr
namespace Tr
theorem above_relax {lo lo' : Bnd} (h : lo' = lo ∨ lo' = none) {k : UInt64} (ha : above lo k = true) : above lo' k = true := by
 rcases h with rfl | rfl
 · exact ha
 · rfl
theorem under_relax {hi hi' : Bnd} (h : hi' = hi ∨ hi' = none) {k : UInt64} (ha : under hi k = true) : under hi' k = true := by
 rcases h with rfl | rfl
 · exact ha
 · rfl
theorem sub_flat {α β : Type} {f : α → List β} : ∀ {l : List α} {k : α}, k ∈ l → (f k).Sublist (l.flatMap f)
 | a :: l, k, h => by
   rw [List.flatMap_cons]
   rcases List.mem_cons.1 h with rfl | h
   · exact List.sublist_append_left _ _
   · exact (sub_flat h).trans (List.sublist_append_right _ _)
theorem fit_sub {s : Pgs} : ∀ {d : Nat} {lo hi : Bnd} {p : Int}, Fit s d lo hi p → ∀ q ∈ pgs s d p, ∃ d' lo' hi', 1 ≤ d' ∧ d' ≤ d ∧ Fit s d' lo' hi' q ∧ (pgs s d' q).Sublist (pgs s d p)
 | d + 1, lo, hi, p, h, q, hq => by
   have h0 := h
   obtain ⟨h1, h2, h3⟩ := h
   unfold pgs at hq
   rcases List.mem_cons.1 hq with rfl | hq
   · exact ⟨d + 1, lo, hi, by omega, Nat.le_refl _, h0, List.Sublist.refl _⟩
   · obtain ⟨k, hk, hqk⟩ := List.mem_flatMap.1 hq
     by_cases hd : d = 0
     · rw [if_pos hd] at h3
       rw [h3] at hk
       cases hk
     · rw [if_neg hd] at h3
       obtain ⟨i, hi', rfl⟩ := List.mem_iff_getElem.1 hk
       obtain ⟨d', lo', hi2, g1, g2, g3, g4⟩ := fit_sub (h3.2 i hi') q hqk
       refine ⟨d', lo', hi2, g1, by omega, g3, ?_⟩
       have e1 : pgs s (d + 1) p = p :: (nod s p).2.flatMap (pgs s d) := rfl
       rw [e1]
       exact List.Sublist.cons _ (g4.trans (sub_flat (List.getElem_mem hi')))
theorem good_relax {s : Pgs} {p : Int} {lo hi lo' hi' : Bnd} (hl : lo' = lo ∨ lo' = none) (hh : hi' = hi ∨ hi' = none) (h : good s p lo hi = true) : good s p lo' hi' = true := by
 unfold good within at h ⊢
 rw [Bool.and_eq_true, List.all_eq_true] at h ⊢
 exact ⟨h.1, fun x hx => by
  have h2 := h.2 x hx
  rw [Bool.and_eq_true] at h2 ⊢
  exact ⟨above_relax hl h2.1, under_relax hh h2.2⟩⟩
theorem fit_relax {s : Pgs} : ∀ {d : Nat} {lo hi lo' hi' : Bnd} {p : Int}, (lo' = lo ∨ lo' = none) → (hi' = hi ∨ hi' = none) → Fit s d lo hi p → Fit s d lo' hi' p
 | d + 1, lo, hi, lo', hi', p, hl, hh, h => by
   obtain ⟨h1, h2, h3⟩ := h
   refine ⟨h1, good_relax hl hh h2, ?_⟩
   by_cases hd : d = 0
   · rw [if_pos hd] at h3 ⊢; exact h3
   · rw [if_neg hd] at h3 ⊢
     refine ⟨h3.1, fun i hi2 => fit_relax ?_ ?_ (h3.2 i hi2)⟩
     · unfold loOf
       split
       · exact .inl rfl
       · exact hl
     · unfold hiOf
       split
       · exact .inl rfl
       · exact hh
theorem head_pgs (s : Pgs) : ∀ {d : Nat} (q : Int), 1 ≤ d → q ∈ pgs s d q
 | d + 1, q, _ => by unfold pgs; exact List.mem_cons_self
theorem sub_whole {s : Pgs} {root : Int} {d : Nat} (h : Whole s root d) {q : Int} (hq : q ∈ pgs s d root) : ∃ d', Whole s q d' ∧ ∀ x ∈ pgs s d' q, x ∈ pgs s d root := by
 obtain ⟨d', lo, hi, g1, g2, g3, g4⟩ := fit_sub h.fit q hq
 exact ⟨d', ⟨g1, Nat.le_trans g2 h.le, fit_relax (.inr rfl) (.inr rfl) g3, h.nodup.sublist g4⟩, fun x hx => g4.subset hx⟩
theorem mem_lmet {s : Pgs} {root : Int} (h : readE s root = 0) (x : Int) : x ∈ lmet s root ↔ x ∈ readP s root := by
 obtain ⟨hl, -⟩ := read_zero h
 rcases lmet_pgs h with ⟨rfl, e⟩ | ⟨h0, d, W, e⟩
 · rw [e]
   have : readP s 0 = [] := by unfold readP; exact if_neg (fun h => h.2 rfl)
   rw [this]
 · rw [e, mem_readP hl W]
theorem sub_read {s : Pgs} {root : Int} (h : readE s root = 0) {q : Int} (hq : q ∈ lmet s root) : readE s q = 0 ∧ q ∈ lmet s q ∧ ∀ x ∈ lmet s q, x ∈ lmet s root := by
 obtain ⟨hl, -⟩ := read_zero h
 rcases lmet_pgs h with ⟨-, e⟩ | ⟨h0, d, W, e⟩
 · rw [e] at hq; cases hq
 · rw [e] at hq
   obtain ⟨d', W', hs⟩ := sub_whole W hq
   have hz := (read_whole hl W').1
   refine ⟨hz, ?_, fun x hx => ?_⟩
   · rw [mem_lmet hz, mem_readP hl W']; exact head_pgs s q W'.pos
   · rw [mem_lmet hz, mem_readP hl W'] at hx
     rw [e]
     exact hs x hx
end Tr
def OwnsQ {α : Type} (A : Rep α) (e : TypeId) (w : World) (base : Nat) (Q : Nat → Prop) (v : Value) (l : List α) : Prop :=
 ∃ xs, w.ownsRow base e A.size v l.length xs ∧ rdAll A w (fun b => Q b ∧ v.ownBlock ≠ some b) xs l
theorem OwnsQ.keep {α : Type} {A : Rep α} {e : TypeId} {w w' : World} {base : Nat} {Q : Nat → Prop} {v : Value} {l : List α} (h : OwnsQ A e w base Q v l) (hk : ∀ b, b < w.heap.size → w'.heap[b]? = w.heap[b]?) : OwnsQ A e w' base Q v l := by
 obtain ⟨xs, h1, h2⟩ := h
 refine ⟨xs, ⟨h1.1, ?_⟩, rdAll_keep (fun b hb hl => hk b hl) h2⟩
 rcases h1.2 with h0 | ⟨g, cap, cur, rfl, g1, g2, g3⟩
 · exact .inl h0
 · exact .inr ⟨g, cap, cur, rfl, g1, by rw [hk g (Array.getElem?_eq_some_iff.1 g2).1]; exact g2, g3⟩
theorem OwnsQ.below {α : Type} {A : Rep α} {e : TypeId} {w w' : World} {base : Nat} {Q : Nat → Prop} {v : Value} {l : List α} (h : OwnsQ A e w base Q v l) (k : Below w.heap.size w w') : OwnsQ A e w' base Q v l := h.keep fun b hl => k.block b hl
theorem OwnsQ.row {α : Type} {A : Rep α} {e : TypeId} {w : World} {base : Nat} {Q : Nat → Prop} {v : Value} {l : List α} (h : OwnsQ A e w base Q v l) : ∀ k, v.ownBlock = some k → base ≤ k ∧ k < w.heap.size := by
 obtain ⟨xs, h1, _⟩ := h
 exact h1.lt
theorem OwnsQ.rd {α : Type} {A : Rep α} {hs : 0 < A.size} {e : TypeId} {w : World} {base : Nat} {Q : Nat → Prop} {v : Value} {l : List α} (h : OwnsQ A e w base Q v l) (hb : l.length * A.bytes ≤ 140737488351232) :
 ∃ a c, v = .slice a l.length c ∧ (rList A hs).rd w (fun b => Q b ∨ base ≤ b) [.slice a l.length c] l := by
 obtain ⟨xs, h1, h2⟩ := h
 exact rd_owned h1 (rdAll_weaken (fun b hb _ => .inl hb.1) h2) rfl hb (fun b e => .inr (h1.lt b e).1)
theorem OwnsQ.slice {α : Type} {A : Rep α} {e : TypeId} {w : World} {base : Nat} {Q : Nat → Prop} {v : Value} {l : List α} (h : OwnsQ A e w base Q v l) : ∃ b d, v = .slice b l.length d := by
 obtain ⟨xs, h1, _⟩ := h
 rcases h1.2 with ⟨rfl, h0⟩ | ⟨g, cap, cur, rfl, _⟩
 · exact ⟨none, 0, by rw [h0]⟩
 · exact ⟨_, _, rfl⟩
theorem run_append_q {α : Type} {Pr : Program} {t e ty : TypeId} {A : Rep α} (hE : ElemOf Pr t e A) {w : World} {base : Nat} {Qb : Nat → Prop} {v : Value} {l : List α} (hown : OwnsQ A e w base Qb v l)
 {ad : Addr} {c : List Value} {x : α} (hnews : ∀ j u, c[j]? = some u → w.cell? (ad.add j) = some u) (hc : A.rd w (fun b => Qb b ∧ v.ownBlock ≠ some b) c x)
 (hb : (l.length + 1) * A.bytes ≤ 140737488355328) (hm : l.length + 1 ≤ maxLen) (hbase : base ≤ w.heap.size) :
 ∃ b d w', (Builtin.append_ #[t, t] ty #[v, .slice (some ad) 1 1]).run Pr w = .ok (.slice b (l.length + 1) d) w' ∧ OwnsQ A e w' base Qb (.slice b (l.length + 1) d) (l ++ [x]) ∧ w.grownBy w' v.ownBlock ∧ ((Value.slice b (l.length + 1) d).ownBlock = v.ownBlock ∨ (Value.slice b (l.length + 1) d).ownBlock = some w.heap.size) := by
 obtain ⟨ht, i, z, hi, hz, hsize, hby, hzs, hpos⟩ := hE
 obtain ⟨xs, h1, h2⟩ := hown
 obtain ⟨v', w', hr, k1, k2, k3, k4⟩ := run_append_own_at (P := Pr) w base t ty e i z A.size A.bytes ht hi hz hsize hby hzs hpos v l.length xs h1 ad 1 1 c (by rw [A.len hc, Nat.one_mul]) hnews (A.one hc) hm hb hbase
 have hO : OwnsQ A e w' base Qb v' (l ++ [x]) := by
  refine ⟨xs ++ c, by simpa using k1, ?_⟩
  have h3 := rdAll_append h2 (rdAll_one_elem hc)
  have h6 : rdAll A w (fun b => (Qb b ∧ v'.ownBlock ≠ some b) ∧ v.ownBlock ≠ some b) (xs ++ c) (l ++ [x]) := rdAll_weaken (fun b hb hl => ⟨⟨hb.1, fun e => by
   rcases k4 with h | h
   · exact hb.2 (h ▸ e)
   · rw [h] at e; cases e; omega⟩, hb.2⟩) h3
  exact rdAll_weaken (fun b hb _ => hb.1) (rdAll_keep (w' := w') (fun b hb hl => k2.block b hl (fun e => hb.2 e.symm)) h6)
 obtain ⟨b, d, hv⟩ := hO.slice
 rw [List.length_append] at hv
 have hv' : v' = .slice b (l.length + 1) d := hv
 subst hv'
 exact ⟨b, d, w', hr, hO, k2, k4⟩
theorem step_append_q {α : Type} {Pr : Program} {t e : TypeId} {A : Rep α} (hE : ElemOf Pr t e A) {w : World} {ops : Array Oper} {o : Oper} {a : Go.Act} {K : Go.Act → World → Prop} {Q : Exit → Go.Act → World → Prop} {E : Prop} (hgd : o.guard = none) (s y : Operand)
 (ho : o.op = .call { callee := .builtin .append, args := #[s, y], argTypes := #[t, t] })
 (base : Nat) (Qb : Nat → Prop) (v : Value) (l : List α) (hs : a.eval s = v) (hown : OwnsQ A e w base Qb v l)
 (ad : Addr) (c : List Value) (x : α) (hx : a.eval y = .slice (some ad) 1 1) (hnews : ∀ j u, c[j]? = some u → w.cell? (ad.add j) = some u) (hc : A.rd w (fun b => Qb b ∧ v.ownBlock ≠ some b) c x)
 (hb : (l.length + 1) * A.bytes ≤ 140737488355328) (hm : l.length + 1 ≤ maxLen) (hbase : base ≤ w.heap.size)
 (h : ∀ b d w', OwnsQ A e w' base Qb (.slice b (l.length + 1) d) (l ++ [x]) → w.grownBy w' v.ownBlock → ((Value.slice b (l.length + 1) d).ownBlock = v.ownBlock ∨ (Value.slice b (l.length + 1) d).ownBlock = some w.heap.size) → K (a.put o.dst (.slice b (l.length + 1) d)) w') :
 if Region.wanted o (yielded ops a.tmps) = true then Oper.wp Pr o a w K Q else E := by
 have hw : Region.wanted o (yielded ops a.tmps) = true := by simp [Region.wanted, hgd]
 rw [if_pos hw]
 obtain ⟨b, d, w', hr, k1, k2, k3⟩ := run_append_q (ty := o.type) hE hown hnews hc hb hm hbase
 unfold Oper.wp execOp
 simp only [ho, resolve, invoke, builtin, Sem.run_bind, Sem.run_pure, Result.andThen_ok, List.map_toArray, List.map_cons, List.map_nil, hs, hx, hr]
 exact h b d w' k1 k2 k3
theorem elem_sec8 : ElemOf Tryz.prog 22 53 rBytes := elemOf (z := .slice none 0 0) Tryz.underlying22 (by kernel_rfl) rfl rfl rfl (by decide)
theorem rBytes_no (w : World) (P : Nat → Prop) (c : Nat) (h : c = 0) : rBytes.rd w P [.slice none 0 c] [] := ⟨none, 0, c, rfl, rfl, Nat.zero_le _, fun _ => h, by decide, fun x hx => by cases hx⟩
theorem rSecs_zeros {w : World} {P : Nat → Prop} {g n : Nat} (hg : P g) (V : Row w g 53 (List.replicate n (.slice none 0 0))) (hn : n * 24 ≤ 140737488351232) : rSectors.rd w P [.slice (some ⟨g, 0, none⟩) n n] (List.replicate n []) := by
 refine ⟨_, n, n, rfl, by rw [List.length_replicate], Nat.le_refl _, (fun h => by cases h), hn, fun x hx j hj => ?_⟩
 simp only [Option.some.injEq] at hx
 subst hx
 rw [List.length_replicate] at hj
 refine ⟨hg, [.slice none 0 0], by rw [List.getElem_replicate]; exact rBytes_no _ _ _ rfl, fun k v hv => ?_⟩
 match k, hv with
 | 0, hv =>
   simp only [List.getElem?_cons_zero, Option.some.injEq] at hv
   subst hv
   rw [Addr.add_lit, show 0 + (j * rBytes.size + 0) = j from by show 0 + (j * 1 + 0) = j; omega]
   exact V.cell (by rw [List.getElem?_replicate]; rw [if_pos hj])
 | k + 1, hv => simp at hv
theorem rSecs_flat {w : World} {P : Nat → Prop} {ad : Addr} {n c : Nat} {m : Pgs} (h : rSectors.rd w P [.slice (some ad) n c] m) :
 ∀ k, k ≤ m.length → ∃ xs, rdAll rBytes w P xs (m.take k) ∧ xs.length = k ∧ ∀ j u, xs[j]? = some u → w.cell? (ad.add j) = some u := by
 obtain ⟨a', n', c', e, h1, h2, h3, h4, h5⟩ := h
 simp only [List.cons.injEq, Value.slice.injEq, and_true] at e
 obtain ⟨rfl, rfl, rfl⟩ := e
 intro k
 induction k with
 | zero => exact fun _ => ⟨[], rfl, rfl, fun j u hj => by simp at hj⟩
 | succ k ih =>
   intro hk
   obtain ⟨xs, g1, g2, g3⟩ := ih (by omega)
   obtain ⟨-, cs, k1, k2⟩ := h5 ad rfl k (by omega)
   have hc : cs.length = 1 := rBytes.len k1
   refine ⟨xs ++ cs, ?_, by rw [List.length_append, g2, hc], fun j u hj => ?_⟩
   · rw [List.take_succ_eq_append_getElem (by omega)]
     exact rdAll_append g1 (rdAll_one_elem k1)
   · by_cases hj2 : j < xs.length
     · rw [List.getElem?_append_left hj2] at hj
       exact g3 j u hj
     · rw [List.getElem?_append_right (by omega), g2] at hj
       have := k2 (j - k) u hj
       rw [show rBytes.size = 1 from rfl, show k * 1 + (j - k) = j by omega] at this
       exact this
theorem run_append_secs {w : World} {base : Nat} {Q : Nat → Prop} {v : Value} {l : Pgs} (hown : OwnsQ rBytes 53 w base Q v l) {P : Nat → Prop} {ad : Addr} {n c : Nat} {m : Pgs} (h : rSectors.rd w P [.slice (some ad) n c] m) (hP : ∀ b, P b → b < w.heap.size → Q b ∧ v.ownBlock ≠ some b) (hb : l.length + n ≤ 1000000) (hbase : base ≤ w.heap.size) (ty : TypeId) :
 ∃ v' w', (Builtin.append_ #[22, 22] ty #[v, .slice (some ad) n c]).run Tryz.prog w = .ok v' w' ∧ OwnsQ rBytes 53 w' base Q v' (l ++ m) ∧ w.grownBy w' v.ownBlock ∧ (v'.ownBlock = v.ownBlock ∨ v'.ownBlock = some w.heap.size) := by
 obtain ⟨ht, i, z, hi, hz, hsize, hby, hzs, hpos⟩ := elem_sec8
 obtain ⟨a', n', c', e, hl, -⟩ := id h
 simp only [List.cons.injEq, Value.slice.injEq, and_true] at e
 obtain ⟨rfl, rfl, rfl⟩ := e
 obtain ⟨ys, g1, g2, g3⟩ := rSecs_flat h m.length (Nat.le_refl _)
 rw [List.take_length] at g1
 obtain ⟨xs, h1, h2⟩ := hown
 obtain ⟨v', w', hr, k1, k2, -, k4⟩ := run_append_own_at (P := Tryz.prog) w base 22 ty 53 i z 1 24 ht hi hz hsize hby hzs (by decide) v l.length xs h1 ad n c ys (by rw [g2, hl]; omega) g3
  (fun u hu => by
   obtain ⟨j, hj, rfl⟩ := List.mem_iff_getElem.1 hu
   exact rdAll_one g1 _ (List.getElem_mem hj)) (by unfold maxLen; omega) (by omega) hbase
 refine ⟨v', w', hr, ⟨xs ++ ys, by rw [List.length_append, hl]; exact k1, ?_⟩, k2, k4⟩
 have h3 : rdAll rBytes w (fun b => Q b ∧ v.ownBlock ≠ some b) (xs ++ ys) (l ++ m) := rdAll_append h2 (rdAll_weaken hP g1)
 have h6 : rdAll rBytes w (fun b => (Q b ∧ v'.ownBlock ≠ some b) ∧ v.ownBlock ≠ some b) (xs ++ ys) (l ++ m) := rdAll_weaken (fun b hb hl => ⟨⟨hb.1, fun e => by
  rcases k4 with h | h
  · exact hb.2 (h ▸ e)
  · rw [h] at e; cases e; omega⟩, hb.2⟩) h3
 exact rdAll_weaken (fun b hb _ => hb.1) (rdAll_keep (w' := w') (fun b hb hl => k2.block b hl (fun e => hb.2 e.symm)) h6)
theorem OwnsQ.keepK8 {α : Type} {A : Rep α} {e : TypeId} {w w' : World} {base : Nat} {Q S : Nat → Prop} {v : Value} {l : List α} (h : OwnsQ A e w base Q v l) (k : Kept S w w') (hQ : ∀ b, Q b → S b) (hr : ∀ b, v.ownBlock = some b → S b) : OwnsQ A e w' base Q v l := by
 obtain ⟨xs, h1, h2⟩ := h
 refine ⟨xs, ⟨h1.1, ?_⟩, rdAll_keep (fun b hb _ => k.block b (hQ b hb.1)) h2⟩
 rcases h1.2 with h0 | ⟨g, cap, cur, rfl, g1, g2, g3⟩
 · exact .inl h0
 · exact .inr ⟨g, cap, cur, rfl, g1, by rw [k.block g (hr g rfl)]; exact g2, g3⟩
theorem Tr.keepL_no {p : Nat → Bool} {s : Pgs} {n : Nat} (h : p n = false) : Tr.keepL p s (n + 1) = Tr.keepL p s n := by
 show (if p n = true then Tr.keepL p s n ++ List.replicate (n - (Tr.keepL p s n).length) [] ++ [(s[n]?).getD []] else Tr.keepL p s n) = _
 rw [if_neg (by rw [h]; decide)]
theorem Tr.keepL_yes {p : Nat → Bool} {s : Pgs} {n : Nat} (h : p n = true) (hn : n < s.length) : Tr.keepL p s (n + 1) = Tr.keepL p s n ++ List.replicate (n - (Tr.keepL p s n).length) [] ++ [s[n]] := by
 show (if p n = true then Tr.keepL p s n ++ List.replicate (n - (Tr.keepL p s n).length) [] ++ [(s[n]?).getD []] else Tr.keepL p s n) = _
 rw [if_pos h, List.getElem?_eq_getElem hn]
 rfl
theorem OwnsQ.nilP (w : World) (base : Nat) (Q : Nat → Prop) : OwnsQ rBytes 53 w base Q (.slice none 0 0) [] := ⟨[], World.ownsRow_nil w base 53 rBytes.size, rfl⟩
namespace Tr
def chkE (s : Pgs) : List Int → Int
 | [] => 0
 | r :: rs => if readE s r = 0 then chkE s rs else readE s r
def mark1 : List Bool → List Int → Option (List Bool)
 | M, [] => some M
 | M, p :: ps => if M.getD (p - 1).toNat false = true then none else mark1 (M.set (p - 1).toNat true) ps
def markAll (s : Pgs) : List Bool → List Int → Option (List Bool)
 | M, [] => some M
 | M, r :: rs => match mark1 M (readP s r) with
   | none => none
   | some M' => markAll s M' rs
def dkeepE (s : Pgs) (roots : List Int) : Int :=
 if chkE s roots ≠ 0 then chkE s roots else if 2048 < s.length then 3 else match markAll s (List.replicate s.length false) roots with
  | none => 6
  | some _ => 0
def dkeepS (s : Pgs) (roots : List Int) : Pgs :=
 if chkE s roots ≠ 0 then [] else if 2048 < s.length then [] else match markAll s (List.replicate s.length false) roots with
  | none => []
  | some M => keepL (fun j => M.getD j false) s s.length
theorem chkE_zero {s : Pgs} : ∀ {rs : List Int}, (∀ r ∈ rs, readE s r = 0) → chkE s rs = 0
 | [], _ => rfl
 | r :: rs, h => by
   unfold chkE
   rw [if_pos (h r (by simp))]
   exact chkE_zero (fun q hq => h q (by simp [hq]))
theorem chkE_stop {s : Pgs} : ∀ {rs : List Int} {i : Nat} (hi : i < rs.length), (∀ r ∈ rs.take i, readE s r = 0) → readE s rs[i] ≠ 0 → chkE s rs = readE s rs[i]
 | r :: rs, 0, hi, _, h => by
   unfold chkE
   exact if_neg h
 | r :: rs, i + 1, hi, h1, h => by
   unfold chkE
   rw [if_pos (h1 r (by simp))]
   exact chkE_stop (rs := rs) (i := i) (by simpa using hi) (fun q hq => h1 q (by rw [List.take_succ_cons]; simp [hq])) (by simpa using h)
theorem mark1_len : ∀ {ps : List Int} {M M' : List Bool}, mark1 M ps = some M' → M'.length = M.length
 | [], M, M', h => by cases h; rfl
 | p :: ps, M, M', h => by
   unfold mark1 at h
   split at h
   · cases h
   · rw [mark1_len h, List.length_set]
theorem mark1_snoc : ∀ (ps : List Int) (p : Int) (M : List Bool), mark1 M (ps ++ [p]) = match mark1 M ps with | none => none | some M' => if M'.getD (p - 1).toNat false = true then none else some (M'.set (p - 1).toNat true)
 | [], p, M => rfl
 | q :: ps, p, M => by
   show (if M.getD (q - 1).toNat false = true then none else mark1 (M.set (q - 1).toNat true) (ps ++ [p])) = match (if M.getD (q - 1).toNat false = true then none else mark1 (M.set (q - 1).toNat true) ps) with | none => none | some M' => if M'.getD (p - 1).toNat false = true then none else some (M'.set (p - 1).toNat true)
   by_cases h : M.getD (q - 1).toNat false = true
   · rw [if_pos h, if_pos h]
   · rw [if_neg h, if_neg h]; exact mark1_snoc ps p _
theorem mark1_stop {ps : List Int} {j : Nat} (hj : j < ps.length) {M M' : List Bool} (h : mark1 M (ps.take j) = some M') (hm : M'.getD (ps[j] - 1).toNat false = true) : mark1 M ps = none := by
 have e1 : ps = (ps.take j ++ [ps[j]]) ++ ps.drop (j + 1) := by rw [← List.take_succ_eq_append_getElem hj, List.take_append_drop]
 have h2 : mark1 M (ps.take j ++ [ps[j]]) = none := by rw [mark1_snoc, h]; exact if_pos hm
 have app : ∀ (qs rs : List Int) (N : List Bool), mark1 N qs = none → mark1 N (qs ++ rs) = none := by
  intro qs
  induction qs with
  | nil => intro rs N h; cases h
  | cons q qs ih =>
    intro rs N h
    unfold mark1 at h
    show (if N.getD (q - 1).toNat false = true then none else mark1 (N.set (q - 1).toNat true) (qs ++ rs)) = none
    split at h
    · rename_i hq; exact if_pos hq
    · rename_i hq; rw [if_neg hq]; exact ih rs _ h
 rw [e1]
 exact app _ _ _ h2
theorem markAll_snoc (s : Pgs) : ∀ (rs : List Int) (r : Int) (M : List Bool), markAll s M (rs ++ [r]) = match markAll s M rs with | none => none | some M' => mark1 M' (readP s r)
 | [], r, M => by
   show (match mark1 M (readP s r) with | none => none | some M' => markAll s M' []) = mark1 M (readP s r)
   cases mark1 M (readP s r) <;> rfl
 | q :: rs, r, M => by
   show (match mark1 M (readP s q) with | none => none | some M' => markAll s M' (rs ++ [r])) = match (match mark1 M (readP s q) with | none => none | some M' => markAll s M' rs) with | none => none | some M' => mark1 M' (readP s r)
   cases mark1 M (readP s q) with
   | none => rfl
   | some M' => exact markAll_snoc s rs r M'
theorem markAll_len {s : Pgs} : ∀ {rs : List Int} {M M' : List Bool}, markAll s M rs = some M' → M'.length = M.length
 | [], M, M', h => by cases h; rfl
 | r :: rs, M, M', h => by
   unfold markAll at h
   cases hm : mark1 M (readP s r) with
   | none => rw [hm] at h; cases h
   | some N => rw [hm] at h; rw [markAll_len h, mark1_len hm]
theorem markAll_stop {s : Pgs} {rs : List Int} {i : Nat} (hi : i < rs.length) {M M' : List Bool} (h : markAll s M (rs.take i) = some M') (hm : mark1 M' (readP s rs[i]) = none) : markAll s M rs = none := by
 have e1 : rs = (rs.take i ++ [rs[i]]) ++ rs.drop (i + 1) := by rw [← List.take_succ_eq_append_getElem hi, List.take_append_drop]
 have h2 : markAll s M (rs.take i ++ [rs[i]]) = none := by rw [markAll_snoc, h]; exact hm
 have app : ∀ (qs ts : List Int) (N : List Bool), markAll s N qs = none → markAll s N (qs ++ ts) = none := by
  intro qs
  induction qs with
  | nil => intro ts N h; cases h
  | cons q qs ih =>
    intro ts N h
    unfold markAll at h
    show (match mark1 N (readP s q) with | none => none | some M' => markAll s M' (qs ++ ts)) = none
    cases hq : mark1 N (readP s q) with
    | none => rfl
    | some N' => rw [hq] at h; exact ih ts _ h
 rw [e1]
 exact app _ _ _ h2
end Tr
end Go.Proofs.YtkbmadoaomoojaaGreat
