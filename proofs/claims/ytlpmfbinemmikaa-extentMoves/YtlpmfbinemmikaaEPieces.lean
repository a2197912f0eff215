/-
  Plain functions: pieces that are added one by one, and how great their numbers are on the way. It imports no program. Conditions: those that each lemma names.
-/
import Derived.Test.YtlpmfbinemmikaaELaws
namespace Go.Proofs.Ytlpmfbinemmikaa.Ex
set_option linter.unusedVariables false

/-- Pieces in order within the bounds. -/
structure Pieces (ps : List Ext) : Prop where
  loose : Loose 0 ps
  last : Ex.last 0 ps ≤ 65536
  phys : ∀ z ∈ ps, -1 ≤ z.2.1 ∧ z.2.1 ≤ 131072
  len : ps.length ≤ 100000

theorem add_len (l : List Ext) (x : Ext) : (add l x).length ≤ l.length + 1 := by
  unfold add
  split
  · omega
  · split
    · simp
    · split
      · simp
      · simp

theorem addAll_len : ∀ (ps l : List Ext), (addAll l ps).length ≤ l.length + ps.length
  | [], l => by simp [addAll]
  | x :: ps, l => by
    have h1 := addAll_len ps (add l x)
    have h2 := add_len l x
    rw [show addAll l (x :: ps) = addAll (add l x) ps from rfl, List.length_cons]
    omega

theorem add_phys {l : List Ext} {x y : Ext} (h : y ∈ add l x) : ∃ z, (z ∈ l ∨ z = x) ∧ y.2.1 = z.2.1 := by
  unfold add at h
  split at h
  · exact ⟨y, .inl h, rfl⟩
  · rcases List.eq_nil_or_concat l with rfl | ⟨m, u, rfl⟩
    · simp only [List.getLast?_nil, List.mem_singleton] at h
      exact ⟨x, .inr rfl, by rw [h]⟩
    · rw [List.concat_eq_append] at h ⊢
      simp only [List.getLast?_append, List.getLast?_singleton, Option.some_or] at h
      split at h
      · simp only [List.dropLast_concat, List.mem_append, List.mem_singleton] at h
        rcases h with h | rfl
        · exact ⟨y, .inl (by simp [h]), rfl⟩
        · exact ⟨u, .inl (by simp), rfl⟩
      · rcases List.mem_append.1 h with h | h
        · exact ⟨y, .inl h, rfl⟩
        · exact ⟨x, .inr rfl, by rw [List.mem_singleton.1 h]⟩

theorem addAll_phys : ∀ {ps l : List Ext} {y : Ext}, y ∈ addAll l ps → ∃ z, (z ∈ l ∨ z ∈ ps) ∧ y.2.1 = z.2.1
  | [], l, y, h => ⟨y, .inl h, rfl⟩
  | x :: ps, l, y, h => by
    obtain ⟨z, hz, e⟩ := addAll_phys (ps := ps) (l := add l x) h
    rcases hz with hz | hz
    · obtain ⟨t, ht, e2⟩ := add_phys hz
      rcases ht with ht | rfl
      · exact ⟨t, .inl ht, e.trans e2⟩
      · exact ⟨t, .inr (by simp), e.trans e2⟩
    · exact ⟨z, .inr (by simp [hz]), e⟩

theorem Pieces.front {q r : List Ext} (h : Pieces (q ++ r)) : Pieces q := by
  obtain ⟨h1, h2⟩ := Loose_append.1 h.loose
  have h3 := h2.last
  have h4 := h.last
  rw [last_append] at h4
  exact ⟨h1, by omega, fun z hz => h.phys z (by simp [hz]), by have := h.len; rw [List.length_append] at this; omega⟩

theorem Loose.mem : ∀ {l : List Ext} {b : Int}, Loose b l → ∀ {x : Ext}, x ∈ l → b ≤ x.1 ∧ 0 ≤ x.2.2 ∧ x.1 + x.2.2 ≤ Ex.last b l
  | y :: l, b, ⟨h1, h2, h3, h4⟩, x, hx => by
    have hl := h4.last
    rcases List.mem_cons.1 hx with rfl | hx
    · exact ⟨h1, h2, hl⟩
    · obtain ⟨r1, r2, r3⟩ := h4.mem hx
      exact ⟨by omega, r2, r3⟩

/-- The numbers of pieces, and of what is made of them. -/
theorem Pieces.small {ps : List Ext} (h : Pieces ps) {x : Ext} (hx : x ∈ ps) : (0 ≤ x.1 ∧ x.1 ≤ 65536) ∧ (-1 ≤ x.2.1 ∧ x.2.1 ≤ 131072) ∧ (0 ≤ x.2.2 ∧ x.2.2 ≤ 65536) := by
  obtain ⟨h1, h2, h3⟩ := h.loose.mem hx
  have := h.last
  have := h.phys x hx
  omega

theorem Pieces.made {ps : List Ext} (h : Pieces ps) {x : Ext} (hx : x ∈ addAll [] ps) : (0 ≤ x.1 ∧ x.1 ≤ 65536) ∧ (-1 ≤ x.2.1 ∧ x.2.1 ≤ 131072) ∧ (0 ≤ x.2.2 ∧ x.2.2 ≤ 65536) := by
  obtain ⟨r1, r2, r3, r4⟩ := tidy h.loose
  obtain ⟨h1, h2, h3⟩ := r1.loose.mem hx
  have := h.last
  obtain ⟨z, hz, e⟩ := addAll_phys hx
  have := h.phys z (hz.resolve_left (by simp))
  omega

theorem Pieces.count {ps : List Ext} (h : Pieces ps) : (addAll [] ps).length ≤ 100000 := by
  have h1 := addAll_len ps []
  have h2 := h.len
  simp only [List.length_nil, Nat.zero_add] at h1
  omega

theorem flat_len {f : Ext → List Ext} {k : Nat} (hf : ∀ x, (f x).length ≤ k) : ∀ l : List Ext, (l.flatMap f).length ≤ l.length * k
  | [] => by simp
  | x :: l => by
    have h1 := flat_len hf l
    have h2 := hf x
    rw [List.flatMap_cons, List.length_append, List.length_cons, Nat.add_mul]
    omega

theorem cutOne_low {v n : Int} {e : Ext} {lo hi : Int} (h1 : min (e.1 + e.2.2) (max e.1 v) = lo) (h2 : max e.1 (min (e.1 + e.2.2) (v + n)) = hi) :
    cutOne v n e = if hi ≤ lo then [e] else [(e.1, e.2.1, lo - e.1), (hi, e.2.1 + hi - e.1, e.1 + e.2.2 - hi)] := by
  subst h1 h2
  rfl

theorem moveOne_low {a n t : Int} {e : Ext} {lo hi : Int} (h1 : max e.2.1 a = lo) (h2 : min (e.2.1 + e.2.2) (a + n) = hi) :
    moveOne a n t e = if hi ≤ lo then [e] else [(e.1, e.2.1, lo - e.2.1), (e.1 + lo - e.2.1, t + lo - a, hi - lo), (e.1 + hi - e.2.1, hi, e.2.1 + e.2.2 - hi)] := by
  subst h1 h2
  rfl

theorem cut_pieces {l : List Ext} (h : Ok l) (v n : Int) : Pieces (l.flatMap (cutOne v n)) := by
  have hg := h.good
  have hf := flat_last (f := cutOne v n) (fun x hx c hc => cutOne_loose (good_phys hg hx) c hc) hg.from_
  refine ⟨hf.1, Int.le_trans hf.2 hg.last, fun z hz => ?_, ?_⟩
  · obtain ⟨x, hx, hzx⟩ := List.mem_flatMap.1 hz
    have ho := good_phys hg hx
    unfold One Fits at ho
    unfold cutOne at hzx
    split at hzx
    · simp only [List.mem_singleton] at hzx; subst hzx; omega
    · simp only [List.mem_cons, List.not_mem_nil, or_false] at hzx
      rcases hzx with rfl | rfl <;> simp only <;> omega
  · have h1 := flat_len (f := cutOne v n) (k := 2) (fun x => by unfold cutOne; split <;> simp) l
    have h2 := h.1
    omega

theorem move_pieces {l : List Ext} (h : Ok l) {a n t : Int} (ha : Fits a n) (ht : Fits t n) : Pieces (l.flatMap (moveOne a n t)) := by
  have hg := h.good
  unfold Fits at ha ht
  have hf := flat_last (f := moveOne a n t) (fun x hx c hc => moveOne_loose (good_phys hg hx) ht.1 c hc) hg.from_
  refine ⟨hf.1, Int.le_trans hf.2 hg.last, fun z hz => ?_, ?_⟩
  · obtain ⟨x, hx, hzx⟩ := List.mem_flatMap.1 hz
    have ho := good_phys hg hx
    unfold One Fits at ho
    unfold moveOne at hzx
    split at hzx
    · simp only [List.mem_singleton] at hzx; subst hzx; omega
    · simp only [List.mem_cons, List.not_mem_nil, or_false] at hzx
      rcases hzx with rfl | rfl | rfl <;> simp only <;> omega
  · have h1 := flat_len (f := moveOne a n t) (k := 3) (fun x => by unfold moveOne; split <;> simp) l
    have h2 := h.1
    omega

theorem lookPs_phys {en : Int} : ∀ {l : List Ext} {a : Int}, (∀ x ∈ l, One x) → ∀ z ∈ lookPs en a l, -1 ≤ z.2.1 ∧ z.2.1 ≤ 131072
  | [], a, _, z, hz => by
    simp only [lookPs, List.mem_singleton] at hz
    subst hz
    exact ⟨Int.le_refl _, by show (-1 : Int) ≤ 131072; decide⟩
  | e :: l, a, hx, z, hz => by
    have ho := hx e (by simp)
    unfold One Fits at ho
    have hx' : ∀ x ∈ l, One x := fun x hy => hx x (by simp [hy])
    unfold lookPs at hz
    split at hz
    · exact lookPs_phys hx' z hz
    · rcases List.mem_cons.1 hz with rfl | hz
      · exact ⟨Int.le_refl _, by show (-1 : Int) ≤ 131072; decide⟩
      · rcases List.mem_cons.1 hz with rfl | hz
        · simp only; omega
        · exact lookPs_phys hx' z hz

theorem lookPs_len {en : Int} : ∀ (l : List Ext) (a : Int), (lookPs en a l).length ≤ 2 * l.length + 1
  | [], a => by simp [lookPs]
  | e :: l, a => by
    unfold lookPs
    split
    · have := lookPs_len (en := en) l a
      rw [List.length_cons]; omega
    · have := lookPs_len (en := en) l (min (e.1 + e.2.2) en)
      simp only [List.length_cons]; omega

theorem look_pieces {l : List Ext} (h : Ok l) {v n : Int} (hf : Fits v n) : Pieces (lookPs (v + n) v l) := by
  have hg := h.good
  unfold Fits at hf
  obtain ⟨p1, p2, p3⟩ := lookPs_ok (en := v + n) (a := v) hg.from_ (fun x hx => good_phys hg hx) (by omega)
  refine ⟨p1.weaken hf.1, ?_, lookPs_phys (fun x hx => good_phys hg hx), ?_⟩
  · have mono : ∀ {l : List Ext} {b c : Int}, b ≤ c → Ex.last b l ≤ Ex.last c l := by
      intro l b c hbc
      cases l with
      | nil => exact hbc
      | cons y l => exact Int.le_refl _
    have := mono (l := lookPs (v + n) v l) hf.1
    omega
  · have h1 := lookPs_len (en := v + n) l v
    have h2 := h.1
    omega

theorem lookPs_at {en : Int} {l : List Ext} {k : Nat} (hk : k < l.length) {a lo hi : Int} (h1 : max l[k].1 a = lo) (h2 : min (l[k].1 + l[k].2.2) en = hi) :
    lookPs en a (l.drop k) = if hi ≤ lo then lookPs en a (l.drop (k + 1)) else (a, -1, lo - a) :: (lo, l[k].2.1 + lo - l[k].1, hi - lo) :: lookPs en hi (l.drop (k + 1)) := by
  subst h1 h2
  rw [List.drop_eq_getElem_cons hk]
  rfl

theorem flat_at {f : Ext → List Ext} (l : List Ext) (k : Nat) (hk : k < l.length) : l.flatMap f = (l.take k).flatMap f ++ (f l[k] ++ (l.drop (k + 1)).flatMap f) := by
  conv => lhs; rw [← List.take_append_drop k l, List.drop_eq_getElem_cons hk]
  rw [List.flatMap_append, List.flatMap_cons]

theorem flat_next {f : Ext → List Ext} (l : List Ext) (k : Nat) (hk : k < l.length) : (l.take (k + 1)).flatMap f = (l.take k).flatMap f ++ f l[k] := by
  rw [List.take_succ_eq_append_getElem hk, List.flatMap_append]
  simp

end Go.Proofs.Ytlpmfbinemmikaa.Ex
