/-
  Plain functions: what follows of allocating, taking, freeing, sizes. It imports no program. Conditions: those that each lemma names.
-/
import Derived.Test.YtbbjbajdoekheaaFTot
namespace Go.Proofs.Ytbbjbajdoekheaa
open Ex
set_option linter.unusedVariables false

theorem Fr.without_front : ∀ {l : List Spn} {b : Int} {y : Spn} {q : Int}, Gaps b l → y ∈ l → 1 ≤ q → q ≤ y.2 → (Fr.without l (y.1, q)).length ≤ l.length
  | x :: l, b, y, q, ⟨h1, h2, h3⟩, hy, hq, hq2 => by
    rw [show Fr.without (x :: l) (y.1, q) = Fr.cutSpan (y.1, q) x ++ Fr.without l (y.1, q) from rfl, List.length_append, List.length_cons]
    rcases List.mem_cons.1 hy with rfl | hy
    · rw [Fr.without_apart (fun z hz => .inl (by have := Fr.Gaps_mem h3 hz; show y.1 + q ≤ z.1; omega))]
      have : (Fr.cutSpan (y.1, q) y).length ≤ 1 := by
        unfold Fr.cutSpan
        rw [if_neg (by show ¬ min (y.1 + y.2) (y.1 + q) ≤ max y.1 y.1; omega), if_neg (by show ¬ y.1 < max y.1 y.1; omega), List.nil_append]
        split <;> simp
      omega
    · have hyg := Fr.Gaps_mem h3 hy
      have ih := Fr.without_front h3 hy hq hq2
      rw [Fr.cutSpan_apart (.inr (by show x.1 + x.2 ≤ y.1; omega))]
      simp only [List.length_singleton]
      omega

theorem Fr.withR_len : ∀ (l : List Spn) (x : Spn) (ld : Bool), (Fr.withR x ld l).length ≤ l.length + (if ld then 0 else 1)
  | [], x, ld => by cases ld <;> simp [Fr.withR]
  | y :: l, x, ld => by
    unfold Fr.withR
    split
    · have := Fr.withR_len l (y.1, y.2 + x.2) ld
      rw [List.length_cons]; omega
    · split
      · have := Fr.withR_len l (x.1, x.2 + y.2) ld
        rw [List.length_cons]; omega
      · split
        · have := Fr.withR_len l x ld
          rw [List.length_cons, List.length_cons]; omega
        · have := Fr.withR_len l x true
          rw [List.length_append, List.length_cons, List.length_cons]
          simp only [if_true] at this
          cases ld <;> simp <;> omega

theorem Fr.fit_withR {z : Int} {l : List Spn} {x : Spn} (h : Fr.Fit z l) (hx : Fr.Inside x z) (hs : Fr.some_ l x = false) : Fr.Fit z (Fr.withR x false l) := by
  obtain ⟨w1, w2⟩ := Fr.withR_ok (b := 0) h.gaps hx.2.1 hx.1 (Fr.apart_of hs)
  refine ⟨w1, fun y hy => ?_⟩
  have hg := Fr.Gaps_mem w1 hy
  rcases (w2 (y.1 + y.2 - 1)).1 ⟨y, hy, by unfold inSpan; omega⟩ with ⟨t, ht, hq⟩ | hq
  · have := h.ends t ht
    unfold inSpan at hq
    omega
  · unfold inSpan at hq
    have := hx.2.2.2
    omega

theorem Fr.whole_some {l : List Spn} {x : Spn} (h : Gaps 0 l) (hx : 1 ≤ x.2) (hw : Fr.whole l x = true) : Fr.some_ l x = true :=
  (Fr.some_has h hx).2 ⟨x.1, ⟨Int.le_refl _, by omega⟩, (Fr.whole_has h hx).1 hw x.1 ⟨Int.le_refl _, by omega⟩⟩

theorem Fr.spanE_of {z : Int} {l : List Spn} {x : Spn} (h : Fr.Ok z l) (hx : Fr.Inside x z) : Fr.spanE z l x = 0 := Fr.spanE_zero.2 ⟨h, hx⟩

theorem Fr.takeE_zero_said {z : Int} {l : List Spn} {x : Spn} (h : Fr.takeE z l x = 0) : Fr.takeL z l x = Fr.without l x ∧ Fr.takeZ z l x = z ∧ Fr.Ok z (Fr.without l x) := by
  obtain ⟨hO, hI, hw, hl⟩ := Fr.takeE_zero.1 h
  exact ⟨if_pos h, if_pos h, ⟨hO.low, hO.high, hl, Fr.fit_without hO.fit hI.1⟩⟩

theorem Fr.freeE_zero_said {z : Int} {l : List Spn} {x : Spn} (h : Fr.freeE z l x = 0) : Fr.freeL z l x = Fr.withR x false l ∧ Fr.freeZ z l x = z ∧ Fr.Ok z (Fr.withR x false l) := by
  obtain ⟨hO, hI, hs, hl⟩ := Fr.freeE_zero.1 h
  exact ⟨if_pos h, if_pos h, ⟨hO.low, hO.high, hl, Fr.fit_withR hO.fit hI hs⟩⟩

/-- What a best place is. -/
theorem Fr.best_is {z : Int} {l : List Spn} {q line : Int} (h : Fr.bestE z l q line = 0) : Fr.Ok z l ∧ 1 ≤ q ∧ 0 ≤ line ∧ Fr.IsBest q line l (Fr.bestA z l q line) := by
  have ho : Fr.okB z l = true := by
    cases e : Fr.okB z l with
    | true => rfl
    | false => rw [(Fr.best_no e).1] at h; cases h
  have hO := Fr.ok_iff.1 ho
  have hr : 1 ≤ q ∧ 0 ≤ line := by
    by_cases hr : 1 ≤ q ∧ 0 ≤ line
    · exact hr
    · rw [(Fr.best_range ho hr).1] at h; cases h
  have hA : Fr.bestA z l q line = (Fr.best q line l).2 := if_pos h
  rcases Fr.best_ok (n := q) (line := line) hO.fit.gaps with hb | hb
  · rw [(Fr.best_said ho hr.1 hr.2).1, if_pos hb.1] at h; cases h
  · exact ⟨hO, hr.1, hr.2, by rw [hA]; exact hb.2⟩

theorem Fr.best_taken {z : Int} {l : List Spn} {q line : Int} (h : Fr.bestE z l q line = 0) : Fr.takeE z l (Fr.bestA z l q line, q) = 0 ∧ Fr.bestA z l q line ≤ line ∧ q ≤ line - Fr.bestA z l q line := by
  obtain ⟨hO, hq, hl, y, hy, e, hr, -⟩ := Fr.best_is h
  have hm := hO.mid y hy
  unfold Fr.Mid at hm
  unfold Fr.room at hr
  rw [← e]
  have he := hO.fit.ends y hy
  have hfr := Fr.without_front hO.fit.gaps hy hq (by omega)
  refine ⟨Fr.takeE_zero.2 ⟨hO, ⟨hq, hm.1, by show y.1 ≤ z; omega, by show q ≤ z - y.1; omega⟩, Fr.whole_mem.2 ⟨y, hy, Int.le_refl _, by show y.1 + q ≤ y.1 + y.2; omega⟩, by have := hO.len; omega⟩, by omega, by omega⟩

theorem Fr.alloc_said (z : Int) (l : List Spn) (q line : Int) : (Fr.bestE z l q line = 0 → Fr.allocE z l q line = 0 ∧ Fr.allocL z l q line = Fr.without l (Fr.bestA z l q line, q) ∧ Fr.allocZ z l q line = z) ∧ (Fr.bestE z l q line ≠ 0 → Fr.allocE z l q line ≠ 0 ∧ Fr.allocL z l q line = [] ∧ Fr.bestA z l q line = 0) := by
  constructor
  · intro h
    obtain ⟨t, -, -⟩ := Fr.best_taken h
    obtain ⟨t1, t2, -⟩ := Fr.takeE_zero_said t
    unfold Fr.allocE Fr.allocL Fr.allocZ
    rw [if_pos h, if_pos h, if_pos h]
    exact ⟨t, t1, t2⟩
  · intro h
    unfold Fr.allocE Fr.allocL Fr.bestA
    rw [if_neg h, if_neg h, if_neg h]
    exact ⟨h, rfl, rfl⟩

/-- What was taken: it may not be taken again, and freed all is as it was. -/
theorem Fr.taken_again {z : Int} {l : List Spn} {x : Spn} (h : Fr.takeE z l x = 0) : Fr.takeE z (Fr.without l x) x = 72 ∧ Fr.freeE z (Fr.without l x) x = 0 ∧ Fr.freeL z (Fr.without l x) x = l ∧ Fr.freeZ z (Fr.without l x) x = z ∧ Fr.freeE z l x = 6 := by
  obtain ⟨hO, hI, hw, hl⟩ := Fr.takeE_zero.1 h
  obtain ⟨-, -, hO2⟩ := Fr.takeE_zero_said h
  obtain ⟨b1, b2, b3⟩ := Fr.taken_back hO.fit.gaps hI.1 hI.2.1 hw
  have hs := Fr.spanE_of hO2 hI
  have hf : Fr.freeE z (Fr.without l x) x = 0 := Fr.freeE_zero.2 ⟨hO2, hI, b2, by rw [b3]; exact hO.len⟩
  obtain ⟨f1, f2, -⟩ := Fr.freeE_zero_said hf
  exact ⟨((Fr.take_said hs).2 b1).1, hf, by rw [f1, b3], f2, ((Fr.free_said (Fr.spanE_of hO hI)).2 (Fr.whole_some hO.fit.gaps hI.1 hw)).1⟩

theorem Fr.room_ok {z : Int} {l : List Spn} (h : Fr.Ok z l) : Fr.checkE z l = 0 ∧ Fr.roomA z l = Fr.total l := by
  have ho := Fr.ok_iff.2 h
  exact ⟨Fr.checkE_ok ho, by unfold Fr.roomA; rw [ho]; rfl⟩

theorem Fr.counts_no {z : Int} {l : List Spn} (x : Spn) (h : Fr.checkE z l ≠ 0) : Fr.takeE z l x = 9 ∧ Fr.freeE z l x = 9 := by
  have ho : Fr.okB z l = false := by
    cases e : Fr.okB z l with
    | false => rfl
    | true => exact absurd (Fr.checkE_ok e) h
  have hs : Fr.spanE z l x = 9 := by unfold Fr.spanE; rw [ho]; rfl
  exact ⟨(Fr.take_not hs (by decide)).1, (Fr.free_not hs (by decide)).1⟩

theorem Fr.counts_take {z : Int} {l : List Spn} {x : Spn} (h : Fr.takeE z l x = 0) : Fr.checkE z (Fr.without l x) = 0 ∧ Fr.roomA z l - Fr.roomA z (Fr.without l x) = x.2 ∧ Fr.freeE z l x = 6 ∧ 0 ≤ Fr.roomA z l ∧ Fr.roomA z l ≤ 67108864 ∧ 0 ≤ Fr.roomA z (Fr.without l x) ∧ Fr.roomA z (Fr.without l x) ≤ 67108864 := by
  obtain ⟨hO, hI, hw, hl⟩ := Fr.takeE_zero.1 h
  obtain ⟨-, -, hO2⟩ := Fr.takeE_zero_said h
  obtain ⟨r1, r2⟩ := Fr.room_ok hO
  obtain ⟨s1, s2⟩ := Fr.room_ok hO2
  have b1 := Fr.total_bound hO.mid
  have b2 := Fr.total_bound hO2.mid
  have l1 := hO.len
  have l2 := hO2.len
  have ht := Fr.total_without hO.fit.gaps hI.1 hw
  rw [r2, s2]
  exact ⟨s1, by omega, (Fr.taken_again h).2.2.2.2, by omega, by omega, by omega, by omega⟩

theorem Fr.counts_free {z : Int} {l : List Spn} {x : Spn} (h : Fr.freeE z l x = 0) : Fr.checkE z (Fr.withR x false l) = 0 ∧ Fr.roomA z (Fr.withR x false l) - Fr.roomA z l = x.2 ∧ 0 ≤ Fr.roomA z l ∧ Fr.roomA z l ≤ 67108864 ∧ 0 ≤ Fr.roomA z (Fr.withR x false l) ∧ Fr.roomA z (Fr.withR x false l) ≤ 67108864 := by
  obtain ⟨hO, hI, hs, hl⟩ := Fr.freeE_zero.1 h
  obtain ⟨-, -, hO2⟩ := Fr.freeE_zero_said h
  obtain ⟨r1, r2⟩ := Fr.room_ok hO
  obtain ⟨s1, s2⟩ := Fr.room_ok hO2
  have b1 := Fr.total_bound hO.mid
  have b2 := Fr.total_bound hO2.mid
  have l1 := hO.len
  have l2 := hO2.len
  have ht := Fr.total_withR hO.fit.gaps hI.1 (Fr.apart_of hs)
  rw [r2, s2]
  exact ⟨s1, by omega, by omega, by omega, by omega, by omega⟩

theorem Fr.merges_said {z : Int} {l : List Spn} {x : Spn} {k : Int} (h : Fr.freeE z l x = 0) (hn : l.length ≤ 1000) (hk1 : 1 ≤ k) (hk2 : k < x.2) :
    Fr.freeE z l (x.1 + k, x.2 - k) = 0 ∧ Fr.freeL z l (x.1 + k, x.2 - k) = Fr.withR (x.1 + k, x.2 - k) false l ∧ Fr.freeZ z l (x.1 + k, x.2 - k) = z ∧ Fr.freeE z (Fr.withR (x.1 + k, x.2 - k) false l) (x.1, k) = 0 ∧ Fr.freeL z (Fr.withR (x.1 + k, x.2 - k) false l) (x.1, k) = Fr.withR x false l ∧ Fr.freeZ z (Fr.withR (x.1 + k, x.2 - k) false l) (x.1, k) = z := by
  obtain ⟨hO, hI, hs, hl⟩ := Fr.freeE_zero.1 h
  obtain ⟨p1, p2, p3⟩ := Fr.freed_parts hO.fit.gaps hI.2.1 hk1 hk2 hs
  obtain ⟨i1, i2, i3, i4⟩ := hI
  have hA : Fr.freeE z l (x.1 + k, x.2 - k) = 0 := Fr.freeE_zero.2 ⟨hO, ⟨by show 1 ≤ x.2 - k; omega, by show 0 ≤ x.1 + k; omega, by show x.1 + k ≤ z; omega, by show x.2 - k ≤ z - (x.1 + k); omega⟩, p1, by have := Fr.withR_len l (x.1 + k, x.2 - k) false; simp only [Bool.false_eq_true, if_false] at this; omega⟩
  obtain ⟨a1, a2, hO2⟩ := Fr.freeE_zero_said hA
  have hB : Fr.freeE z (Fr.withR (x.1 + k, x.2 - k) false l) (x.1, k) = 0 := Fr.freeE_zero.2 ⟨hO2, ⟨hk1, i2, i3, by show k ≤ z - x.1; omega⟩, p2, by rw [p3]; exact hl⟩
  obtain ⟨b1, b2, -⟩ := Fr.freeE_zero_said hB
  exact ⟨hA, a1, a2, hB, by rw [b1, p3], b2⟩

end Go.Proofs.Ytbbjbajdoekheaa
