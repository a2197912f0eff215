/-
  Facts that the proof rests on, part 44. Conditions: those that each of them names.
-/
import Derived.Test.YtkbmadoaomoojaaGreatK42
namespace Go.Proofs.YtkbmadoaomoojaaGreat
set_option maxRecDepth 20000
open Go.RowKit
set_option linter.unusedVariables false
namespace Tr
structure KInv (s : Pgs) (K : List Int) : Prop where
 nodup : K.Nodup
 sub : ∀ q ∈ K, readE s q = 0 ∧ q ∈ lmet s q ∧ ∀ x ∈ lmet s q, x ∈ K
 inn : ∀ q ∈ K, 1 ≤ q ∧ q ≤ s.length
theorem lmet_range {s : Pgs} {r : Int} (h : readE s r = 0) : ∀ q ∈ lmet s r, 1 ≤ q ∧ q ≤ s.length := fun q hq => by
 rw [mem_lmet h] at hq
 obtain ⟨hl, ⟨-, -, e⟩ | ⟨-, d, W, -, e⟩⟩ := read_zero h
 · rw [e] at hq; cases hq
 · have hm : (mark (none_ s).met (pgs s d r)).length = s.length := by rw [mark_length]; simp [none_]
   rw [e] at hq
   have h1 := mem_numbers.1 hq
   rw [hm] at h1
   exact ⟨h1.1, h1.2.1⟩
theorem KInv.nil (s : Pgs) : KInv s [] := ⟨List.nodup_nil, fun q hq => (by cases hq), fun q hq => (by cases hq)⟩
theorem mem_grown {K L : List Int} {x : Int} : x ∈ K ++ L.filter (fun q => !decide (q ∈ K)) ↔ x ∈ K ∨ x ∈ L := by
 rw [List.mem_append, List.mem_filter]
 constructor
 · rintro (h | h)
   · exact .inl h
   · exact .inr h.1
 · rintro (h | h)
   · exact .inl h
   · by_cases hk : x ∈ K
     · exact .inl hk
     · exact .inr ⟨h, by simp [hk]⟩
theorem KInv.step {s : Pgs} {K : List Int} (h : KInv s K) {r : Int} (hr : readE s r = 0) : KInv s (K ++ (lmet s r).filter (fun q => !decide (q ∈ K))) := by
 refine ⟨List.nodup_append.2 ⟨h.nodup, (lmet_nodup hr).sublist List.filter_sublist, fun a ha b hb e => ?_⟩, fun q hq => ?_, fun q hq => ?_⟩
 · subst e
   have := (List.mem_filter.1 hb).2
   simp only [ha, decide_true, Bool.not_true] at this
   cases this
 · rcases mem_grown.1 hq with hq | hq
   · obtain ⟨h1, h2, h3⟩ := h.sub q hq
     exact ⟨h1, h2, fun x hx => mem_grown.2 (.inl (h3 x hx))⟩
   · obtain ⟨h1, h2, h3⟩ := sub_read hr hq
     exact ⟨h1, h2, fun x hx => mem_grown.2 (.inr (h3 x hx))⟩
 · rcases mem_grown.1 hq with hq | hq
   · exact h.inn q hq
   · exact lmet_range hr q hq
theorem kall_chk {s : Pgs} : ∀ (rs : List Int) (K : List Int) (m : Nat), KInv s K → (chkE s rs ≠ 0 → kall s rs (K, m) = .error (chkE s rs)) ∧ (chkE s rs = 0 → ∃ K' m', kall s rs (K, m) = .ok (K', m') ∧ KInv s K')
 | [], K, m, h => ⟨fun e => absurd rfl e, fun _ => ⟨K, m, rfl, h⟩⟩
 | r :: rs, K, m, h => by
   by_cases hK : r ∈ K
   · have hz := (h.sub r hK).1
     have e1 : chkE s (r :: rs) = chkE s rs := if_pos hz
     have e2 : kall s (r :: rs) (K, m) = kall s rs (K, m + 1) := by
      show (match kstep s (K, m) r with | Except.error e => Except.error e | Except.ok st' => kall s rs st') = _
      unfold kstep; rw [if_pos hK]
     rw [e1, e2]
     exact kall_chk rs K (m + 1) h
   · by_cases hz : readE s r = 0
     · have e1 : chkE s (r :: rs) = chkE s rs := if_pos hz
       have e2 : kall s (r :: rs) (K, m) = kall s rs (K ++ (lmet s r).filter (fun q => !decide (q ∈ K)), m + (lmet s r).length) := by
        show (match kstep s (K, m) r with | Except.error e => Except.error e | Except.ok st' => kall s rs st') = _
        unfold kstep; rw [if_neg hK, if_pos hz]
       rw [e1, e2]
       exact kall_chk rs _ _ (h.step hz)
     · have e1 : chkE s (r :: rs) = readE s r := if_neg hz
       have e2 : kall s (r :: rs) (K, m) = .error (readE s r) := by
        show (match kstep s (K, m) r with | Except.error e => Except.error e | Except.ok st' => kall s rs st') = _
        unfold kstep; rw [if_neg hK, if_neg hz]
       rw [e1, e2]
       exact ⟨fun _ => rfl, fun e => absurd e hz⟩
theorem kall_twice {s : Pgs} : ∀ {rs : List Int} {K K' : List Int} {m m' : Nat}, kall s rs (K, m) = .ok (K', m') → K.length < m → K'.length < m'
 | [], K, K', m, m', h, hm => by cases h; exact hm
 | r :: rs, K, K', m, m', h, hm => by
   have h' : (match kstep s (K, m) r with | Except.error e => Except.error e | Except.ok st' => kall s rs st') = .ok (K', m') := h
   unfold kstep at h'
   split at h'
   · cases h'
   · rename_i st' hs
     split at hs
     · cases hs; exact kall_twice h' (by show K.length < m + 1; omega)
     · split at hs
       · cases hs
         refine kall_twice h' ?_
         show (K ++ (lmet s r).filter (fun q => !decide (q ∈ K))).length < m + (lmet s r).length
         rw [List.length_append]
         have := List.length_filter_le (fun q => !decide (q ∈ K)) (lmet s r)
         omega
       · cases hs
theorem getD_set {M : List Bool} {k j : Nat} (hk : k < M.length) : (M.set k true).getD j false = if j = k then true else M.getD j false := by
 rw [List.getD_eq_getElem?_getD, List.getD_eq_getElem?_getD, List.getElem?_set]
 by_cases h : k = j
 · subst h; rw [if_pos rfl, if_pos hk, if_pos rfl]; rfl
 · rw [if_neg h, if_neg (fun e => h e.symm)]
theorem mark1_no : ∀ {ps : List Int} {M : List Bool}, (∀ p ∈ ps, 1 ≤ p ∧ p ≤ M.length) → (∃ p ∈ ps, M.getD (p - 1).toNat false = true) → mark1 M ps = none
 | [], M, _, h => by obtain ⟨p, hp, -⟩ := h; cases hp
 | q :: ps, M, hr, h => by
   unfold mark1
   by_cases hq : M.getD (q - 1).toNat false = true
   · exact if_pos hq
   · rw [if_neg hq]
     obtain ⟨p, hp, hm⟩ := h
     have hqr := hr q (by simp)
     rcases List.mem_cons.1 hp with rfl | hp
     · exact absurd hm hq
     · exact mark1_no (fun x hx => by rw [List.length_set]; exact hr x (by simp [hx])) ⟨p, hp, by rw [getD_set (by omega)]; split; rfl; exact hm⟩
theorem mark1_yes : ∀ {ps : List Int} {M : List Bool}, (∀ p ∈ ps, 1 ≤ p ∧ p ≤ M.length) → ps.Nodup → (∀ p ∈ ps, M.getD (p - 1).toNat false = false) → ∃ M', mark1 M ps = some M' ∧ ∀ q : Int, 1 ≤ q → (M'.getD (q - 1).toNat false = true ↔ M.getD (q - 1).toNat false = true ∨ q ∈ ps)
 | [], M, _, _, _ => ⟨M, rfl, fun q _ => by simp⟩
 | p :: ps, M, hr, hn, hf => by
   have hp := hr p (by simp)
   have hn2 := List.nodup_cons.1 hn
   obtain ⟨M', h1, h2⟩ := mark1_yes (ps := ps) (M := M.set (p - 1).toNat true) (fun x hx => by rw [List.length_set]; exact hr x (by simp [hx])) hn2.2 (fun x hx => by
    have hx2 := hr x (by simp [hx])
    have hne : ¬ (x - 1).toNat = (p - 1).toNat := fun e => by
     have h3 : x = p := by omega
     rw [h3] at hx
     exact hn2.1 hx
    rw [getD_set (by omega), if_neg hne]
    exact hf x (by simp [hx]))
   refine ⟨M', ?_, fun q hq => ?_⟩
   · unfold mark1
     rw [if_neg (by rw [hf p (by simp)]; decide)]
     exact h1
   · rw [h2 q hq, getD_set (by omega), List.mem_cons]
     by_cases e : (q - 1).toNat = (p - 1).toNat
     · have : q = p := by omega
       subst this
       rw [if_pos rfl]
       exact ⟨fun _ => .inr (.inl rfl), fun _ => .inl rfl⟩
     · rw [if_neg e]
       have hne : q ≠ p := fun h => e (by rw [h])
       constructor
       · rintro (h | h)
         · exact .inl h
         · exact .inr (.inr h)
       · rintro (h | h | h)
         · exact .inl h
         · exact absurd h hne
         · exact .inr h
theorem readP_nodup (s : Pgs) (r : Int) : (readP s r).Nodup := by
 unfold readP
 split
 · exact (numbers_up _).imp (fun {a b} h e => by omega)
 · exact List.nodup_nil
theorem kall_mark {s : Pgs} : ∀ (rs : List Int) (K : List Int) (M : List Bool), KInv s K → M.length = s.length → (∀ q : Int, 1 ≤ q → (M.getD (q - 1).toNat false = true ↔ q ∈ K)) → chkE s rs = 0 →
 (markAll s M rs = none ∧ ∃ K' m', kall s rs (K, K.length) = .ok (K', m') ∧ K'.length < m') ∨
 (∃ M' K', markAll s M rs = some M' ∧ kall s rs (K, K.length) = .ok (K', K'.length) ∧ ∀ q : Int, 1 ≤ q → (M'.getD (q - 1).toNat false = true ↔ q ∈ K'))
 | [], K, M, h, hl, hm, hc => .inr ⟨M, K, rfl, rfl, hm⟩
 | r :: rs, K, M, h, hl, hm, hc => by
   have hz : readE s r = 0 := by
    by_cases hz : readE s r = 0
    · exact hz
    · have : chkE s (r :: rs) = readE s r := if_neg hz
      rw [this] at hc
      exact absurd hc hz
   have hc2 : chkE s rs = 0 := by
    have : chkE s (r :: rs) = chkE s rs := if_pos hz
    rw [this] at hc
    exact hc
   have hrg : ∀ p ∈ readP s r, 1 ≤ p ∧ p ≤ M.length := fun p hp => by rw [hl]; exact lmet_range hz p ((mem_lmet hz p).2 hp)
   have hma : markAll s M (r :: rs) = match mark1 M (readP s r) with | none => none | some M' => markAll s M' rs := rfl
   have hka : kall s (r :: rs) (K, K.length) = match kstep s (K, K.length) r with | Except.error e => Except.error e | Except.ok st' => kall s rs st' := rfl
   by_cases hd : ∃ p ∈ readP s r, p ∈ K
   · -- met twice
     refine .inl ⟨?_, ?_⟩
     · obtain ⟨p, hp, hk⟩ := hd
       rw [hma, mark1_no hrg ⟨p, hp, (hm p (hrg p hp).1).2 hk⟩]
     · by_cases hK : r ∈ K
       · have e2 : kall s (r :: rs) (K, K.length) = kall s rs (K, K.length + 1) := by rw [hka]; unfold kstep; rw [if_pos hK]
         obtain ⟨K', m', e3, -⟩ := (kall_chk rs K (K.length + 1) h).2 hc2
         exact ⟨K', m', e2.trans e3, kall_twice e3 (by omega)⟩
       · have e2 : kall s (r :: rs) (K, K.length) = kall s rs (K ++ (lmet s r).filter (fun q => !decide (q ∈ K)), K.length + (lmet s r).length) := by rw [hka]; unfold kstep; rw [if_neg hK, if_pos hz]
         obtain ⟨K', m', e3, -⟩ := (kall_chk rs _ (K.length + (lmet s r).length) (h.step hz)).2 hc2
         refine ⟨K', m', e2.trans e3, kall_twice e3 ?_⟩
         obtain ⟨p, hp, hk⟩ := hd
         rw [List.length_append]
         have : ((lmet s r).filter (fun q => !decide (q ∈ K))).length < (lmet s r).length := by
          refine Nat.lt_of_le_of_ne (List.length_filter_le _ _) (fun e => ?_)
          have h3 := (List.length_filter_eq_length_iff.1 e) p ((mem_lmet hz p).2 hp)
          simp only [hk, decide_true, Bool.not_true] at h3
          cases h3
         omega
   · have hfree : ∀ p ∈ readP s r, p ∉ K := fun p hp hk => hd ⟨p, hp, hk⟩
     have hK : r ∉ K := fun hk => by
      obtain ⟨-, h2, -⟩ := h.sub r hk
      exact hfree r ((mem_lmet hz r).1 h2) hk
     obtain ⟨M', e1, e2⟩ := mark1_yes hrg (readP_nodup s r) (fun p hp => by
      have h1 := hm p (hrg p hp).1
      cases hb : M.getD (p - 1).toNat false with
      | false => rfl
      | true => exact absurd (h1.1 hb) (hfree p hp))
     have hfil : (lmet s r).filter (fun q => !decide (q ∈ K)) = lmet s r := List.filter_eq_self.2 (fun q hq => by have := hfree q ((mem_lmet hz q).1 hq); simp [this])
     have e3 : kall s (r :: rs) (K, K.length) = kall s rs (K ++ lmet s r, (K ++ lmet s r).length) := by
      rw [hka]; unfold kstep; rw [if_neg hK, if_pos hz, hfil, List.length_append]
     have hK' := h.step hz
     rw [hfil] at hK'
     rw [hma, e1, e3]
     exact kall_mark rs (K ++ lmet s r) M' hK' ((mark1_len e1).trans hl) (fun q hq => by rw [e2 q hq, hm q hq, List.mem_append, mem_lmet hz]) hc2
theorem keep_one (s : Pgs) (roots : List Int) : keepE s roots = dkeepE s roots ∧ keepS s roots = dkeepS s roots := by
 unfold keepE keepS dkeepE dkeepS
 by_cases hl : 2048 < s.length
 · have hr : ∀ r, readE s r = 3 := fun r => by unfold readE; exact if_pos hl
   rw [if_pos hl, if_pos hl, if_pos hl, if_pos hl]
   by_cases hc : chkE s roots = 0
   · rw [if_neg (fun h => h hc), if_neg (fun h => h hc)]; exact ⟨rfl, rfl⟩
   · rw [if_pos hc, if_pos hc]
     refine ⟨?_, rfl⟩
     cases roots with
     | nil => exact absurd rfl hc
     | cons r rs =>
       have : chkE s (r :: rs) = readE s r := if_neg (by rw [hr]; decide)
       rw [this, hr]
 · rw [if_neg hl, if_neg hl, if_neg hl, if_neg hl]
   by_cases hc : chkE s roots = 0
   · rw [if_neg (fun h => h hc), if_neg (fun h => h hc)]
     rcases kall_mark roots [] (List.replicate s.length false) (KInv.nil s) (by rw [List.length_replicate]) (fun q hq => by
      rw [List.getD_eq_getElem?_getD, List.getElem?_replicate]
      constructor
      · intro h; split at h <;> cases h
      · intro h; cases h) hc with ⟨e1, K', m', e2, h3⟩ | ⟨M', K', e1, e2, h3⟩
     · have e2' : kall s roots ([], 0) = .ok (K', m') := e2
       rw [e1, e2']
       exact ⟨if_pos h3, if_pos h3⟩
     · have e2' : kall s roots ([], 0) = .ok (K', K'.length) := e2
       rw [e1, e2']
       refine ⟨if_neg (Nat.lt_irrefl _), ?_⟩
       show (if K'.length < K'.length then [] else keepL (fun i => decide ((i : Int) + 1 ∈ K')) s s.length) = keepL (fun j => M'.getD j false) s s.length
       rw [if_neg (Nat.lt_irrefl _)]
       congr 1
       funext j
       have h4 := h3 ((j : Int) + 1) (by omega)
       rw [show ((j : Int) + 1 - 1).toNat = j by omega] at h4
       by_cases hj : (j : Int) + 1 ∈ K'
       · rw [decide_eq_true hj, h4.2 hj]
       · rw [decide_eq_false hj]
         cases hb : M'.getD j false with
         | false => rfl
         | true => exact absurd (h4.1 hb) hj
   · rw [if_pos hc, if_pos hc, (kall_chk roots [] 0 (KInv.nil s)).1 hc]
     exact ⟨rfl, rfl⟩
end Tr
namespace Tr
theorem keepL_in {p : Nat → Bool} {s : Pgs} : ∀ {n i : Nat}, i < n → p i = true → i < (keepL p s n).length
 | n + 1, i, hi, hp => by
   have hl := keepL_len p s n
   unfold keepL
   by_cases hpn : p n = true
   · rw [if_pos hpn]
     simp only [List.length_append, List.length_replicate, List.length_cons, List.length_nil]
     omega
   · rw [if_neg hpn]
     have : i ≠ n := fun e => hpn (by rw [← e]; exact hp)
     exact keepL_in (by omega) hp
theorem kall_has {s : Pgs} : ∀ {rs : List Int} {K K' : List Int} {m m' : Nat}, KInv s K → kall s rs (K, m) = .ok (K', m') → (∀ q ∈ K, q ∈ K') ∧ ∀ r ∈ rs, ∀ x ∈ lmet s r, x ∈ K'
 | [], K, K', m, m', h, e => by cases e; exact ⟨fun q hq => hq, fun r hr => by cases hr⟩
 | r :: rs, K, K', m, m', h, e => by
   have e' : (match kstep s (K, m) r with | Except.error e => Except.error e | Except.ok st' => kall s rs st') = .ok (K', m') := e
   by_cases hK : r ∈ K
   · have hs : kstep s (K, m) r = .ok (K, m + 1) := if_pos hK
     rw [hs] at e'
     obtain ⟨g1, g2⟩ := kall_has h e'
     refine ⟨g1, fun q hq x hx => ?_⟩
     rcases List.mem_cons.1 hq with rfl | hq
     · exact g1 x ((h.sub q hK).2.2 x hx)
     · exact g2 q hq x hx
   · by_cases hz : readE s r = 0
     · have hs : kstep s (K, m) r = .ok (K ++ (lmet s r).filter (fun q => !decide (q ∈ K)), m + (lmet s r).length) := by
        unfold kstep; rw [if_neg hK, if_pos hz]
       rw [hs] at e'
       obtain ⟨g1, g2⟩ := kall_has (h.step hz) e'
       refine ⟨fun q hq => g1 q (mem_grown.2 (.inl hq)), fun q hq x hx => ?_⟩
       rcases List.mem_cons.1 hq with rfl | hq
       · exact g1 x (mem_grown.2 (.inr hx))
       · exact g2 q hq x hx
     · have hs : kstep s (K, m) r = .error (readE s r) := by unfold kstep; rw [if_neg hK, if_neg hz]
       rw [hs] at e'
       cases e'
theorem chkE_all {s : Pgs} : ∀ {rs : List Int}, chkE s rs = 0 → ∀ r ∈ rs, readE s r = 0
 | q :: rs, h, r, hr => by
   by_cases hz : readE s q = 0
   · have h2 : chkE s (q :: rs) = chkE s rs := if_pos hz
     rw [h2] at h
     rcases List.mem_cons.1 hr with rfl | hr
     · exact hz
     · exact chkE_all h r hr
   · have h2 : chkE s (q :: rs) = readE s q := if_neg hz
     rw [h2] at h
     exact absurd h hz
theorem keep_reads {s : Pgs} {roots : List Int} (h : keepE s roots = 0) {r : Int} (hr : r ∈ roots) : readE s r = 0 ∧ readE (keepS s roots) r = 0 ∧ readI (keepS s roots) r = readI s r := by
 have hl : ¬ 2048 < s.length := fun hl => by unfold keepE at h; rw [if_pos hl] at h; cases h
 have hc : chkE s roots = 0 := by
  by_cases hc : chkE s roots = 0
  · exact hc
  · have h2 := h
    unfold keepE at h2
    rw [if_neg hl, (kall_chk roots [] 0 (KInv.nil s)).1 hc] at h2
    exact absurd h2 hc
 have hz := chkE_all hc r hr
 obtain ⟨K, m, e, hI⟩ := (kall_chk roots [] 0 (KInv.nil s)).2 hc
 have hm : ¬ K.length < m := fun hm => by
  unfold keepE at h
  rw [if_neg hl, e] at h
  have h2 : (if K.length < m then (6 : Int) else 0) = 0 := h
  rw [if_pos hm] at h2
  cases h2
 have hS : keepS s roots = keepL (fun i => decide ((i : Int) + 1 ∈ K)) s s.length := by
  unfold keepS
  rw [if_neg hl, e]
  exact if_neg hm
 have hin := (kall_has (KInv.nil s) e).2 r hr
 have hlt : (keepS s roots).length ≤ 2048 := by rw [hS]; have := keepL_len (fun i => decide ((i : Int) + 1 ∈ K)) s s.length; omega
 refine ⟨hz, ?_⟩
 rcases lmet_pgs hz with ⟨rfl, -⟩ | ⟨h0, d, W, eq⟩
 · have hz2 : readE (keepS s roots) 0 = 0 := by unfold readE; rw [if_neg (by omega), if_pos rfl]
   refine ⟨hz2, ?_⟩
   unfold readI
   rw [if_neg (fun h => h.2 rfl), if_neg (fun h => h.2 rfl)]
 · have hsame : ∀ q ∈ pgs s d r, q ≤ (keepS s roots).length ∧ page (keepS s roots) q = page s q := fun q hq => by
    have hqm : q ∈ lmet s r := by rw [eq]; exact hq
    have hqK := hin q hqm
    have hqr := lmet_range hz q hqm
    have hp : (fun i : Nat => decide ((i : Int) + 1 ∈ K)) (q.toNat - 1) = true := decide_eq_true (by rw [show ((q.toNat - 1 : Nat) : Int) + 1 = q by omega]; exact hqK)
    have hi : q.toNat - 1 < s.length := by omega
    rw [hS]
    constructor
    · have := keepL_in (p := fun i : Nat => decide ((i : Int) + 1 ∈ K)) (s := s) (n := s.length) hi hp
      omega
    · unfold page
      rw [List.getD_eq_getElem?_getD, List.getD_eq_getElem?_getD, keepL_at, if_pos ⟨hi, hp⟩]
   obtain ⟨W2, e2, -⟩ := whole_same W hsame
   have r1 := read_whole (by omega) W
   have r2 := read_whole hlt W2
   exact ⟨r2.1, by rw [r2.2.1, r1.2.1, e2]⟩
end Tr
end Go.Proofs.YtkbmadoaomoojaaGreat
