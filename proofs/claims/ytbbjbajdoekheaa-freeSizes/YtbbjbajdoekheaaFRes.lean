/-
  Plain functions: states of another size, step by step; what follows of them. It imports no program. Conditions: those that each lemma names.
-/
import Derived.Test.YtbbjbajdoekheaaFBack
namespace Go.Proofs.Ytbbjbajdoekheaa
open Ex
set_option linter.unusedVariables false

theorem Fr.resize_not {z : Int} {l : List Spn} {m q : Int} (h : Fr.resizeE z l m = q) (hq : q ≠ 0) : Fr.resizeE z l m = q ∧ Fr.resizeL z l m = [] ∧ Fr.resizeZ z l m = 0 := by
  refine ⟨h, ?_, ?_⟩
  · unfold Fr.resizeL; rw [h, if_neg hq]
  · unfold Fr.resizeZ; rw [h, if_neg hq]

theorem Fr.resize_no {z : Int} {l : List Spn} {m : Int} (h : Fr.okB z l = false) : Fr.resizeE z l m = 9 ∧ Fr.resizeL z l m = [] ∧ Fr.resizeZ z l m = 0 :=
  Fr.resize_not (by unfold Fr.resizeE; rw [h]; rfl) (by decide)

theorem Fr.resize_range {z : Int} {l : List Spn} {m : Int} (h : Fr.okB z l = true) (hs : Fr.sizeB m = false) : Fr.resizeE z l m = 4 ∧ Fr.resizeL z l m = [] ∧ Fr.resizeZ z l m = 0 :=
  Fr.resize_not (by unfold Fr.resizeE; rw [h, hs]; rfl) (by decide)

theorem Fr.resize_busy {z : Int} {l : List Spn} {m : Int} (h : Fr.okB z l = true) (hs : Fr.sizeB m = true) (hh : m < Fr.high z l) : Fr.resizeE z l m = 72 ∧ Fr.resizeL z l m = [] ∧ Fr.resizeZ z l m = 0 :=
  Fr.resize_not (by unfold Fr.resizeE; rw [h, hs, if_pos rfl, if_pos rfl, if_pos hh]) (by decide)

theorem Fr.resize_said {z : Int} {l : List Spn} {m : Int} (h : Fr.okB z l = true) (hs : Fr.sizeB m = true) (hh : ¬ m < Fr.high z l) : Fr.resizeE z l m = Fr.manyE (Fr.resized z l m) ∧ Fr.resizeL z l m = Fr.manyL (Fr.resized z l m) ∧ Fr.resizeZ z l m = Fr.manyZ m (Fr.resized z l m) := by
  have e : Fr.resizeE z l m = Fr.manyE (Fr.resized z l m) := by unfold Fr.resizeE; rw [h, hs, if_pos rfl, if_pos rfl, if_neg hh]
  refine ⟨e, ?_, ?_⟩
  · unfold Fr.resizeL; rw [e]; unfold Fr.manyE Fr.manyL; split <;> rfl
  · unfold Fr.resizeZ; rw [e]; unfold Fr.manyE Fr.manyZ; split <;> rfl

theorem Fr.without_hind : ∀ {l : List Spn} {z m : Int}, (∀ y ∈ l, y.1 + y.2 ≤ z) → (Fr.without l (m, z - m)).length ≤ l.length
  | [], _, _, _ => Nat.le_refl _
  | y :: l, z, m, h => by
    have ih := Fr.without_hind (l := l) (m := m) (fun t ht => h t (by simp [ht]))
    have hy := h y (by simp)
    rw [show Fr.without (y :: l) (m, z - m) = Fr.cutSpan (m, z - m) y ++ Fr.without l (m, z - m) from rfl, List.length_append, List.length_cons]
    have : (Fr.cutSpan (m, z - m) y).length ≤ 1 := by
      unfold Fr.cutSpan
      split
      · simp
      · rw [if_neg (show ¬ min (y.1 + y.2) (m + (z - m)) < y.1 + y.2 by omega), List.append_nil]
        split <;> simp
    omega

theorem Fr.resized_low {z : Int} {l : List Spn} {m : Int} (h : Fr.Ok z l) (hm : m < z) : (Fr.resized z l m).length ≤ 1024 := by
  unfold Fr.resized
  rw [if_pos hm]
  have := Fr.without_hind (m := m) h.fit.ends
  have := h.len
  omega

theorem Fr.sizeB_of {m : Int} (h0 : 0 ≤ m) (h1 : m ≤ 65536) : Fr.sizeB m = true := by unfold Fr.sizeB; simp [h0, h1]

/-- A size made greater and smaller again. -/
theorem Fr.grows_said {z : Int} {l : List Spn} {k : Int} (hO : Fr.Ok z l) (hz : z ≤ 60000) (hn : l.length ≤ 1000) (hk0 : 0 ≤ k) (hk1 : k < 100) :
    ∃ L, Fr.resizeE z l (z + k) = 0 ∧ Fr.resizeL z l (z + k) = L ∧ Fr.resizeZ z l (z + k) = z + k ∧ L.length ≤ 1024 ∧ Fr.resizeE (z + k) L z = 0 ∧ Fr.resizeL (z + k) L z = l ∧ Fr.resizeZ (z + k) L z = z ∧ Fr.checkE (z + k) L = 0 ∧ Fr.roomA (z + k) L - Fr.roomA z l = k ∧ 0 ≤ Fr.roomA z l ∧ Fr.roomA z l ≤ 67108864 := by
  have ho := Fr.ok_iff.2 hO
  have h0 := hO.low
  have b1 := Fr.total_bound hO.mid
  have hhi := Fr.high_ends hO.fit h0
  obtain ⟨r1, r2⟩ := Fr.room_ok hO
  have l1 := hO.len
  by_cases hk : k = 0
  · subst hk
    have e : z + 0 = z := by omega
    rw [e]
    have hr : Fr.resized z l z = l := by unfold Fr.resized; rw [if_neg (by omega), if_pos rfl]
    obtain ⟨s1, s2, s3⟩ := Fr.resize_said ho (Fr.sizeB_of h0 (by omega)) (show ¬ z < Fr.high z l by omega)
    rw [hr] at s1 s2 s3
    have m1 : Fr.manyE l = 0 := if_pos l1
    have m2 : Fr.manyL l = l := if_pos l1
    have m3 : Fr.manyZ z l = z := if_pos l1
    rw [m1] at s1
    rw [m2] at s2
    rw [m3] at s3
    exact ⟨l, s1, s2, s3, l1, s1, s2, s3, r1, by omega, by rw [r2]; omega, by rw [r2]; omega⟩
  · obtain ⟨g1, g2, g3, g4⟩ := Fr.grown_back hO.fit h0 (show 1 ≤ k by omega)
    have hr : Fr.resized z l (z + k) = Fr.withR (z, k) false l := by
      unfold Fr.resized
      rw [if_neg (by omega), if_neg (by omega), show z + k - z = k by omega]
    have hl : (Fr.withR (z, k) false l).length ≤ 1024 := by have := Fr.withR_len l (z, k) false; simp only [Bool.false_eq_true, if_false] at this; omega
    obtain ⟨s1, s2, s3⟩ := Fr.resize_said ho (Fr.sizeB_of (m := z + k) (by omega) (by omega)) (show ¬ z + k < Fr.high z l by omega)
    rw [hr] at s1 s2 s3
    have m1 : Fr.manyE (Fr.withR (z, k) false l) = 0 := if_pos hl
    have m2 : Fr.manyL (Fr.withR (z, k) false l) = Fr.withR (z, k) false l := if_pos hl
    have m3 : Fr.manyZ (z + k) (Fr.withR (z, k) false l) = z + k := if_pos hl
    rw [m1] at s1
    rw [m2] at s2
    rw [m3] at s3
    have hO2 : Fr.Ok (z + k) (Fr.withR (z, k) false l) := ⟨by omega, by omega, hl, g2⟩
    have ho2 := Fr.ok_iff.2 hO2
    obtain ⟨q1, q2⟩ := Fr.room_ok hO2
    have hh2 : ¬ z < Fr.high (z + k) (Fr.withR (z, k) false l) := by
      intro hc
      obtain ⟨w1, w2⟩ := Fr.withR_ok (b := 0) (x := (z, k)) hO.fit.gaps h0 (show 1 ≤ k by omega) (Fr.apart_of g1)
      have hin := (w2 (z + k - 1)).2 (.inr (by unfold inSpan; simp only; omega))
      obtain ⟨y, hy, hp⟩ := hin
      have hye := g2.ends y hy
      unfold inSpan at hp
      rcases List.eq_nil_or_concat (Fr.withR (z, k) false l) with e | ⟨m, t, e⟩
      · rw [e] at hy; cases hy
      · rw [List.concat_eq_append] at e
        rw [e, Fr.high_last] at hc
        have htm : t ∈ Fr.withR (z, k) false l := by rw [e]; simp
        have hte := g2.ends t htm
        have htg := Fr.Gaps_mem w1 htm
        have hyt : y.1 ≤ t.1 := by
          rw [e] at hy w1
          rcases List.mem_append.1 hy with hy' | hy'
          · obtain ⟨a1, a2, -⟩ := Gaps_append.1 w1
            have key : ∀ {m : List Spn} {b : Int}, Gaps b m → ∀ {y : Spn}, y ∈ m → y.1 + y.2 + 1 ≤ gapLast b m := by
              intro m
              induction m with
              | nil => intro b _ y hy; cases hy
              | cons x m ih =>
                intro b hg y hy
                rcases List.mem_cons.1 hy with rfl | hy
                · have : ∀ {m : List Spn} {b : Int}, Gaps b m → b ≤ gapLast b m := by
                    intro m
                    induction m with
                    | nil => intro b _; exact Int.le_refl _
                    | cons x m ih2 => intro b hg; have := ih2 hg.2.2; have := hg.1; have := hg.2.1; show b ≤ gapLast (x.1 + x.2 + 1) m; omega
                  exact this hg.2.2
                · exact ih hg.2.2 hy
            have := key a1 hy'
            have hyg := Fr.Gaps_mem a1 hy'
            omega
          · rw [List.mem_singleton.1 hy']; exact Int.le_refl _
        have htz : t.1 + t.2 = z + k := by
          by_cases c : y = t
          · subst c; omega
          · have : y.1 + y.2 ≤ t.1 := by
              rcases List.mem_append.1 (show y ∈ m ++ [t] by rw [← e]; exact hy) with hy' | hy'
              · rw [e] at w1
                obtain ⟨a1, a2, -⟩ := Gaps_append.1 w1
                have key : ∀ {m : List Spn} {b : Int}, Gaps b m → ∀ {y : Spn}, y ∈ m → y.1 + y.2 + 1 ≤ gapLast b m := by
                  intro m
                  induction m with
                  | nil => intro b _ y hy; cases hy
                  | cons x m ih =>
                    intro b hg y hy
                    rcases List.mem_cons.1 hy with rfl | hy
                    · have : ∀ {m : List Spn} {b : Int}, Gaps b m → b ≤ gapLast b m := by
                        intro m
                        induction m with
                        | nil => intro b _; exact Int.le_refl _
                        | cons x m ih2 => intro b hg; have := ih2 hg.2.2; have := hg.1; have := hg.2.1; show b ≤ gapLast (x.1 + x.2 + 1) m; omega
                      exact this hg.2.2
                    · exact ih hg.2.2 hy
                have := key a1 hy'
                omega
              · exact absurd (List.mem_singleton.1 hy') c
            omega
        rw [if_pos htz] at hc
        have hz : has (Fr.withR (z, k) false l) z := (w2 z).2 (.inr (by unfold inSpan; simp only; omega))
        obtain ⟨u, hu, hup⟩ := hz
        unfold inSpan at hup
        have hue := g2.ends u hu
        have hmid : ∀ p, z ≤ p → p < z + k → has (Fr.withR (z, k) false l) p := fun p h1 h2 => (w2 p).2 (.inr (by unfold inSpan; simp only; omega))
        obtain ⟨v, hv, hvp⟩ := hmid (t.1 - 1) (by omega) (by omega)
        unfold inSpan at hvp
        have hvt : v.1 + v.2 = t.1 ∨ v = t ∨ t.1 < v.1 + v.2 := by omega
        have hne : v ≠ t := fun ev => by subst ev; omega
        rcases List.mem_append.1 (show v ∈ m ++ [t] by rw [← e]; exact hv) with hv' | hv'
        · rw [e] at w1
          obtain ⟨a1, a2, -⟩ := Gaps_append.1 w1
          have key : ∀ {m : List Spn} {b : Int}, Gaps b m → ∀ {y : Spn}, y ∈ m → y.1 + y.2 + 1 ≤ gapLast b m := by
            intro m
            induction m with
            | nil => intro b _ y hy; cases hy
            | cons x m ih =>
              intro b hg y hy
              rcases List.mem_cons.1 hy with rfl | hy
              · have : ∀ {m : List Spn} {b : Int}, Gaps b m → b ≤ gapLast b m := by
                  intro m
                  induction m with
                  | nil => intro b _; exact Int.le_refl _
                  | cons x m ih2 => intro b hg; have := ih2 hg.2.2; have := hg.1; have := hg.2.1; show b ≤ gapLast (x.1 + x.2 + 1) m; omega
                exact this hg.2.2
              · exact ih hg.2.2 hy
          have := key a1 hv'
          omega
        · exact hne (List.mem_singleton.1 hv')
    have hr2 : Fr.resized (z + k) (Fr.withR (z, k) false l) z = l := by
      unfold Fr.resized
      rw [if_pos (by omega), show z + k - z = k by omega]
      exact g3
    obtain ⟨u1, u2, u3⟩ := Fr.resize_said ho2 (Fr.sizeB_of h0 (by omega)) hh2
    rw [hr2] at u1 u2 u3
    have n1 : Fr.manyE l = 0 := if_pos l1
    have n2 : Fr.manyL l = l := if_pos l1
    have n3 : Fr.manyZ z l = z := if_pos l1
    rw [n1] at u1
    rw [n2] at u2
    rw [n3] at u3
    exact ⟨_, s1, s2, s3, hl, u1, u2, u3, q1, by rw [q2, r2, g4]; omega, by rw [r2]; omega, by rw [r2]; omega⟩

end Go.Proofs.Ytbbjbajdoekheaa
