/-
  Plain functions: the extents and the holes of some sectors, one behind the other. It imports no program. Conditions: those that each lemma names.
-/
import Derived.Test.YtlpmfbinemmikaaEWith
namespace Go.Proofs.Ytlpmfbinemmikaa.Ex
set_option linter.unusedVariables false

def hole (a b : Int) : List Ext := if a < b then [(a, -1, b - a)] else []

/-- Pieces, and the holes ahead of each. -/
def holes : Int → List Ext → List Ext
  | _, [] => []
  | a, x :: l => hole a x.1 ++ x :: holes (x.1 + x.2.2) l

theorem holes_snoc : ∀ (l : List Ext) (a : Int) (x : Ext), holes a (l ++ [x]) = holes a l ++ hole (Ex.last a l) x.1 ++ [x]
  | [], a, x => by simp [holes, Ex.last]
  | y :: l, a, x => by
    simp only [List.cons_append, holes, Ex.last]
    rw [holes_snoc l _ x]
    simp [List.append_assoc]

theorem hole_len (a b : Int) : (hole a b).length ≤ 1 := by unfold hole; split <;> simp

theorem holes_len : ∀ (l : List Ext) (a : Int), (holes a l).length ≤ 2 * l.length
  | [], a => by simp [holes]
  | x :: l, a => by
    have h1 := holes_len l (x.1 + x.2.2)
    have h2 := hole_len a x.1
    simp only [holes, List.length_append, List.length_cons]
    omega

def lookF (a en : Int) (ps : List Ext) : List Ext := holes a ps ++ hole (Ex.last a ps) en

theorem lookF_cons (a en : Int) (x : Ext) (l : List Ext) : lookF a en (x :: l) = hole a x.1 ++ x :: lookF (x.1 + x.2.2) en l := by
  simp [lookF, holes, Ex.last, List.append_assoc]

theorem not_join_hole {x : Ext} (hx : 0 ≤ x.2.1) (a n : Int) : ¬ Joins (a, -1, n) x ∧ ¬ Joins x (a, -1, n) := by
  constructor
  · rintro ⟨-, ⟨-, h⟩ | ⟨h, -⟩⟩
    · omega
    · exact h rfl
  · rintro ⟨-, ⟨h, -⟩ | ⟨-, h, -⟩⟩
    · omega
    · exact h rfl

theorem lookF_sep_behind {x : Ext} (hx : 0 ≤ x.2.1) {en : Int} {l : List Ext} (hs : Sep (x :: l)) (h : Sep (lookF (x.1 + x.2.2) en l)) : Sep (x :: lookF (x.1 + x.2.2) en l) := by
  cases l with
  | nil =>
    unfold lookF holes hole Ex.last at *
    simp only [List.nil_append] at *
    split at h
    · next hc => rw [if_pos hc]; exact ⟨(not_join_hole hx _ _).2, trivial⟩
    · next hc => rw [if_neg hc]; trivial
  | cons y l =>
    rw [lookF_cons] at h ⊢
    unfold hole at *
    split at h
    · next hc => rw [if_pos hc]; exact ⟨(not_join_hole hx _ _).2, h⟩
    · next hc => rw [if_neg hc]; exact ⟨hs.1, h⟩

theorem lookF_ok : ∀ {ps : List Ext} {a en : Int}, From a ps → Sep ps → (∀ z ∈ ps, 0 ≤ z.2.1) → Ex.last a ps ≤ en →
    From a (lookF a en ps) ∧ Sep (lookF a en ps) ∧ ∀ u, get (lookF a en ps) u = if a ≤ u ∧ u < en then some (at_ ps u) else none
  | [], a, en, _, _, _, h => by
    have e : lookF a en [] = hole a en := by simp [lookF, holes, Ex.last]
    rw [e]
    unfold hole
    split
    · next hc =>
      refine ⟨⟨Int.le_refl _, by show 1 ≤ en - a; omega, Int.le_refl _, trivial⟩, trivial, fun u => ?_⟩
      simp only [get, val, at_]
      rw [if_pos trivial]
      by_cases c : a ≤ u ∧ u < en
      · rw [if_pos c, if_pos (by omega)]; rfl
      · rw [if_neg c, if_neg (by omega)]
    · next hc =>
      refine ⟨trivial, trivial, fun u => ?_⟩
      rw [if_neg (by omega)]; rfl
  | x :: l, a, en, ⟨f1, f2, f3, f4⟩, hs, hp, h => by
    have hx := hp x (by simp)
    have hs' : Sep l := by
      cases l with
      | nil => trivial
      | cons y l => exact hs.2
    obtain ⟨i1, i2, i3⟩ := lookF_ok (ps := l) (a := x.1 + x.2.2) (en := en) f4 hs' (fun z hz => hp z (by simp [hz])) h
    have hb := lookF_sep_behind (en := en) hx hs i2
    have hle : x.1 + x.2.2 ≤ en := Int.le_trans f4.loose.last h
    have hg : ∀ u, get (x :: lookF (x.1 + x.2.2) en l) u = if x.1 ≤ u ∧ u < en then some (at_ (x :: l) u) else none := by
      intro u
      simp only [get, at_]
      rw [i3 u]
      by_cases c : x.1 ≤ u ∧ u < x.1 + x.2.2
      · rw [if_pos c, if_pos c, if_pos (by omega)]; rfl
      · rw [if_neg c, if_neg c]
        by_cases c2 : x.1 + x.2.2 ≤ u ∧ u < en
        · rw [if_pos c2, if_pos (by omega)]; rfl
        · rw [if_neg c2, if_neg (by omega)]
    rw [lookF_cons]
    unfold hole
    split
    · next hc =>
      refine ⟨⟨Int.le_refl _, by show 1 ≤ x.1 - a; omega, Int.le_refl _, by show a + (x.1 - a) ≤ x.1; omega, f2, f3, i1⟩, ⟨(not_join_hole hx _ _).1, hb⟩, fun u => ?_⟩
      simp only [List.cons_append, List.nil_append]
      rw [get, hg u]
      simp only [val]
      rw [if_pos trivial]
      by_cases c : a ≤ u ∧ u < a + (x.1 - a)
      · have e : at_ (x :: l) u = -1 := by
          unfold at_
          rw [get_low (b := x.1) (show Loose x.1 (x :: l) from ⟨Int.le_refl _, by omega, f3, f4.loose⟩) (by omega)]
          rfl
        rw [if_pos c, if_pos (by omega), e]
      · rw [if_neg c]
        by_cases c2 : x.1 ≤ u ∧ u < en
        · rw [if_pos c2, if_pos (by omega)]
        · rw [if_neg c2, if_neg (by omega)]
    · next hc =>
      obtain rfl : a = x.1 := by omega
      exact ⟨⟨Int.le_refl _, f2, f3, i1⟩, hb, hg⟩

theorem loose_from : ∀ {l : List Ext} {b : Int}, Loose b l → (∀ z ∈ l, 1 ≤ z.2.2) → From b l
  | [], _, _, _ => trivial
  | x :: l, b, ⟨h1, h2, h3, h4⟩, h => ⟨h1, h x (by simp), h3, loose_from h4 (fun z hz => h z (by simp [hz]))⟩

theorem within_head {l : List Ext} {c a b : Int} (hf : From c l) (ha : a ≤ c) : within l a b = [] ∨ ∃ y l' k q, l = y :: l' ∧ within l a b = (y.1, y.2.1, k) :: q := by
  cases l with
  | nil => exact .inl rfl
  | cons y l =>
    obtain ⟨f1, f2, f3, f4⟩ := hf
    by_cases hb : y.1 < b
    · refine .inr ⟨y, l, min (b - y.1) y.2.2 - 0, within l a b, rfl, ?_⟩
      have e : within (y :: l) a b = wOne a b y ++ within l a b := rfl
      have m0 : max (a - y.1) 0 = 0 := by omega
      rw [e]
      unfold wOne part
      rw [m0, if_pos (by omega), Int.add_zero, Int.add_zero]
      rfl
    · refine .inl ?_
      exact within_none (c := y.1) ⟨Int.le_refl _, f2, f3, f4⟩ (by omega)

theorem within_sep : ∀ {l : List Ext} {c a b : Int}, From c l → Sep l → (∀ x ∈ l, One x) → Sep (within l a b)
  | [], _, _, _, _, _, _ => trivial
  | x :: l, c, a, b, ⟨f1, f2, f3, f4⟩, hs, ho => by
    have hs' : Sep l := by
      cases l with
      | nil => trivial
      | cons y l => exact hs.2
    have ih := within_sep (a := a) (b := b) f4 hs' (fun y hy => ho y (by simp [hy]))
    have hx := ho x (by simp)
    unfold One Fits at hx
    have e : within (x :: l) a b = wOne a b x ++ within l a b := rfl
    rw [e]
    by_cases hc : max (a - x.1) 0 < min (b - x.1) x.2.2
    · have e1 : wOne a b x = [(x.1 + max (a - x.1) 0, x.2.1 + max (a - x.1) 0, min (b - x.1) x.2.2 - max (a - x.1) 0)] := by unfold wOne part; rw [if_pos hc]
      rw [e1]
      rcases within_head (a := a) (b := b) f4 (by omega) with h0 | ⟨y, l', k, q, rfl, hq⟩
      · rw [h0]; trivial
      · rw [hq] at ih ⊢
        refine ⟨fun hj => hs.1 ?_, ih⟩
        have hyb : y.1 < b := by
          have hm : (y.1, y.2.1, k) ∈ within (y :: l') a b := by rw [hq]; simp
          by_cases h : y.1 < b
          · exact h
          · have h0 := within_none (a := a) (b := b) (c := y.1) (l := y :: l') ⟨Int.le_refl _, f4.2.1, f4.2.2.1, f4.2.2.2⟩ (by omega)
            rw [h0] at hm
            cases hm
        obtain ⟨j1, j2⟩ := hj
        simp only at j1 j2
        have hy1 := f4.1
        refine ⟨by omega, ?_⟩
        rcases j2 with ⟨j3, -⟩ | ⟨j3, j4, j5⟩
        · omega
        · exact .inr ⟨by omega, j4, by omega⟩
    · have e1 : wOne a b x = [] := by unfold wOne part; rw [if_neg hc]
      rw [e1]
      exact ih

/-- What is laid for a look is the look. -/
theorem lookF_eq {l : List Ext} (h : Ok l) {v n : Int} (hf : Fits v n) : lookF v (v + n) (within l v (v + n)) = look l v n := by
  have hg := h.good
  unfold Fits at hf
  have ho := fun x hx => good_phys hg (x := x) hx
  obtain ⟨a1, a2⟩ := within_loose hg.from_ ho (d := v) (a := v) (b := v + n) (by omega) (by omega)
  have hm := fun z hz => within_mem (z := z) ho (a := v) (b := v + n) hz
  obtain ⟨k1, k2, k3⟩ := lookF_ok (loose_from a1 (fun z hz => (hm z hz).1)) (within_sep hg.from_ hg.sep ho) (fun z hz => (hm z hz).2.1) a2
  obtain ⟨m1, m2, m3, m4⟩ := look_ok hg (v := v) (n := n) (by omega)
  refine unique k1 k2 m1 m2 (fun u => ?_)
  rw [k3, m4]
  by_cases c : v ≤ u ∧ u < v + n
  · rw [if_pos c, if_pos c]
    unfold at_
    rw [within_get hg.from_ ho, if_pos c]
  · rw [if_neg c, if_neg c]

end Go.Proofs.Ytlpmfbinemmikaa.Ex
