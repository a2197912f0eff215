/-
  Plain functions: maps that may be; a hole made, sectors put and moved, what some sectors are. It imports no program. Conditions: those that each lemma names.
-/
import Derived.Test.YtinlgoljaiolnabESpec
namespace Go.Proofs.Ytinlgoljaiolnab.Ex
set_option linter.unusedVariables false

abbrev Fits (a n : Int) : Prop := 0 ≤ a ∧ 0 ≤ n ∧ a ≤ 65536 ∧ n ≤ 65536 - a
abbrev One (x : Ext) : Prop := 1 ≤ x.2.2 ∧ Fits x.1 x.2.2 ∧ Fits x.2.1 x.2.2
abbrev Behind (x y : Ext) : Prop := x.1 + x.2.2 ≤ y.1 ∧ ¬ (y.1 = x.1 + x.2.2 ∧ y.2.1 = x.2.1 + x.2.2)
def Chain : List Ext → Prop
  | x :: y :: l => Behind x y ∧ Chain (y :: l)
  | _ => True
def Mays (l : List Ext) : Prop := (∀ x ∈ l, One x) ∧ Chain l
def Ok (l : List Ext) : Prop := l.length ≤ 1024 ∧ Mays l

def decChain : (l : List Ext) → Decidable (Chain l)
  | [] => isTrue trivial
  | [_] => isTrue trivial
  | x :: y :: l => by
    have := decChain (y :: l)
    unfold Chain
    exact inferInstance
def decOk (l : List Ext) : Decidable (Ok l) := by
  have := decChain l
  unfold Ok Mays
  exact inferInstance

/-- A map that may be, but for how many extents it has, sector by sector. -/
structure Good (l : List Ext) : Prop where
  from_ : From 0 l
  sep : Sep l
  last : Ex.last 0 l ≤ 65536
  vals : ∀ v p, get l v = some p → 0 ≤ p ∧ p < 65536

theorem last_le : ∀ {l : List Ext} {b c : Int}, b ≤ c → (∀ x ∈ l, x.1 + x.2.2 ≤ c) → Ex.last b l ≤ c
  | [], _, _, h, _ => h
  | x :: l, b, c, h, hx => last_le (l := l) (hx x (by simp)) (fun y hy => hx y (by simp [hy]))

theorem chain_tail {x : Ext} {l : List Ext} (h : Chain (x :: l)) : Chain l := by
  cases l with
  | nil => trivial
  | cons y l => exact h.2

theorem mays_from : ∀ {l : List Ext} {b : Int}, (∀ x ∈ l, One x) → Chain l → (∀ x, l.head? = some x → b ≤ x.1) → From b l ∧ Sep l
  | [], _, _, _, _ => ⟨trivial, trivial⟩
  | [x], b, h, _, hb => by
    obtain ⟨h1, h2, h3⟩ := h x (by simp)
    exact ⟨⟨hb x rfl, h1, by have := h3.1; omega, trivial⟩, trivial⟩
  | x :: y :: l, b, h, hc, hb => by
    obtain ⟨h1, h2, h3⟩ := h x (by simp)
    obtain ⟨g1, g2, g3⟩ := h y (by simp)
    obtain ⟨r1, r2⟩ := mays_from (l := y :: l) (b := x.1 + x.2.2) (fun z hz => h z (by simp only [List.mem_cons] at hz ⊢; exact .inr hz)) hc.2 (fun z hz => by
      simp only [List.head?_cons, Option.some.injEq] at hz
      subst hz
      exact hc.1.1)
    refine ⟨⟨hb x rfl, h1, by have := h3.1; omega, r1⟩, fun hj => hc.1.2 ?_, r2⟩
    obtain ⟨j1, j2⟩ := hj
    have := h3.1
    have := g3.1
    omega

theorem get_mem : ∀ {l : List Ext} {v p : Int}, get l v = some p → ∃ x ∈ l, x.1 ≤ v ∧ v < x.1 + x.2.2 ∧ p = val x v
  | x :: l, v, p, h => by
    simp only [get] at h
    split at h
    · rename_i hc
      simp only [Option.some.injEq] at h
      exact ⟨x, by simp, hc.1, hc.2, h.symm⟩
    · obtain ⟨y, hy, r⟩ := get_mem h
      exact ⟨y, by simp [hy], r⟩

theorem get_of_mem : ∀ {l : List Ext} {b : Int}, From b l → ∀ {x : Ext}, x ∈ l → b ≤ x.1 ∧ 1 ≤ x.2.2 ∧ x.1 + x.2.2 ≤ Ex.last b l ∧ ∀ v, x.1 ≤ v → v < x.1 + x.2.2 → get l v = some (val x v)
  | y :: l, b, ⟨h1, h2, h3, h4⟩, x, hx => by
    have hl := h4.loose.last
    rcases List.mem_cons.1 hx with rfl | hx
    · refine ⟨h1, h2, hl, fun v a c => ?_⟩
      simp only [get]
      rw [if_pos ⟨a, c⟩]
    · obtain ⟨r1, r2, r3, r4⟩ := get_of_mem h4 hx
      refine ⟨by omega, r2, r3, fun v a c => ?_⟩
      simp only [get]
      rw [if_neg (by omega)]
      exact r4 v a c

theorem sep_chain : ∀ {l : List Ext} {b : Int}, From b l → Sep l → (∀ x ∈ l, x.2.1 ≠ -1) → Chain l
  | [], _, _, _, _ => trivial
  | [_], _, _, _, _ => trivial
  | x :: y :: l, b, ⟨h1, h2, h3, h4⟩, hs, hx => by
    refine ⟨⟨h4.1, fun hj => hs.1 ?_⟩, sep_chain (l := y :: l) h4 hs.2 (fun z hz => hx z (by simp only [List.mem_cons] at hz ⊢; exact .inr hz))⟩
    exact ⟨hj.1.symm, .inr ⟨hx x (by simp), hx y (by simp), hj.2.symm⟩⟩

theorem good_iff (l : List Ext) : Mays l ↔ Good l := by
  constructor
  · rintro ⟨h1, h2⟩
    obtain ⟨r1, r2⟩ := mays_from (b := 0) h1 h2 (fun x hx => (h1 x (List.mem_of_mem_head? hx)).2.1.1)
    refine ⟨r1, r2, last_le (by decide) (fun x hx => by have := (h1 x hx).2.1; unfold Fits at this; omega), fun v p hp => ?_⟩
    obtain ⟨x, hx, a, c, rfl⟩ := get_mem hp
    obtain ⟨k1, k2, k3⟩ := h1 x hx
    unfold Fits at k3
    unfold val
    rw [if_neg (by omega)]
    omega
  · rintro ⟨r1, r2, r3, r4⟩
    have each : ∀ x ∈ l, One x := by
      intro x hx
      obtain ⟨k1, k2, k3, k4⟩ := get_of_mem r1 hx
      have a := r4 x.1 _ (k4 x.1 (by omega) (by omega))
      have b := r4 (x.1 + x.2.2 - 1) _ (k4 (x.1 + x.2.2 - 1) (by omega) (by omega))
      unfold val at a b
      unfold One Fits
      split at a
      · omega
      · rename_i hh
        rw [if_neg hh] at b
        omega
    exact ⟨each, sep_chain r1 r2 (fun x hx => by have := (each x hx).2.2.1; omega)⟩

theorem good_unique {l m : List Ext} (hl : Good l) (hm : Good m) (h : ∀ v, get l v = get m v) : l = m := unique hl.from_ hl.sep hm.from_ hm.sep h

/-- Where a sector stands. -/
def at_ (l : List Ext) (v : Int) : Int := (get l v).getD (-1)

theorem good_phys {l : List Ext} (h : Good l) {x : Ext} (hx : x ∈ l) : One x := ((good_iff l).2 h).1 x hx

/-- Tidied pieces are a map that may be. -/
theorem good_tidy {ps : List Ext} (h : Loose 0 ps) (hl : Ex.last 0 ps ≤ 65536) (hv : ∀ v p, get ps v = some p → 0 ≤ p ∧ p < 65536) : Good (addAll [] ps) ∧ ∀ v, get (addAll [] ps) v = get ps v := by
  obtain ⟨r1, r2, r3, r4⟩ := tidy h
  exact ⟨⟨r1, r2, by omega, fun v p hp => hv v p (by rw [← r4 v]; exact hp)⟩, r4⟩

theorem flat_last {f : Ext → List Ext} : ∀ {l : List Ext} {b : Int}, (∀ x ∈ l, ∀ c, c ≤ x.1 → Loose c (f x) ∧ Ex.last c (f x) ≤ x.1 + x.2.2) → From b l → Loose b (l.flatMap f) ∧ Ex.last b (l.flatMap f) ≤ Ex.last b l
  | [], b, _, _ => ⟨trivial, Int.le_refl _⟩
  | x :: l, b, hf, ⟨h1, h2, h3, h4⟩ => by
    obtain ⟨a1, a2⟩ := hf x (by simp) b h1
    obtain ⟨r1, r2⟩ := flat_last (l := l) (b := x.1 + x.2.2) (fun y hy => hf y (by simp [hy])) h4
    rw [List.flatMap_cons]
    have mono : ∀ {l : List Ext} {b c : Int}, b ≤ c → Ex.last b l ≤ Ex.last c l := by
      intro l b c hbc
      cases l with
      | nil => exact hbc
      | cons y l => exact Int.le_refl _
    refine ⟨Loose_append.2 ⟨a1, r1.weaken a2⟩, ?_⟩
    rw [last_append]
    exact Int.le_trans (mono a2) r2

theorem flat_get {f : Ext → List Ext} {g : Int → Option Int → Option Int} (hg : ∀ v, g v none = none) : ∀ {l : List Ext} {b : Int}, From b l → (∀ x ∈ l, ∀ v, get (f x) v = g v (get [x] v)) → ∀ v, get (l.flatMap f) v = g v (get l v)
  | [], _, _, _, v => by simp [get, hg]
  | x :: l, b, ⟨h1, h2, h3, h4⟩, hf, v => by
    rw [List.flatMap_cons, get_append, hf x (by simp) v, flat_get hg h4 (fun y hy => hf y (by simp [hy])) v]
    by_cases hv : x.1 ≤ v ∧ v < x.1 + x.2.2
    · have e : get l v = none := get_low h4.loose (by omega)
      rw [e, hg]
      simp only [get]
      rw [if_pos hv, if_pos hv, Option.or_none]
    · simp only [get]
      rw [if_neg hv, if_neg hv, hg, Option.none_or]

/-- What is left of an extent where sectors are cut. -/
def cutOne (v n : Int) (e : Ext) : List Ext :=
  if max e.1 (min (e.1 + e.2.2) (v + n)) ≤ min (e.1 + e.2.2) (max e.1 v) then [e] else
  [(e.1, e.2.1, min (e.1 + e.2.2) (max e.1 v) - e.1), (max e.1 (min (e.1 + e.2.2) (v + n)), e.2.1 + max e.1 (min (e.1 + e.2.2) (v + n)) - e.1, e.1 + e.2.2 - max e.1 (min (e.1 + e.2.2) (v + n)))]

def without (l : List Ext) (v n : Int) : List Ext := addAll [] (l.flatMap (cutOne v n))

theorem cutOne_loose {v n : Int} {e : Ext} (h : One e) (c : Int) (hc : c ≤ e.1) : Loose c (cutOne v n e) ∧ Ex.last c (cutOne v n e) ≤ e.1 + e.2.2 := by
  obtain ⟨h1, h2, h3⟩ := h
  unfold Fits at h2 h3
  unfold cutOne
  split
  · exact ⟨⟨hc, by omega, by omega, trivial⟩, by simp [Ex.last]⟩
  · refine ⟨⟨hc, ?_, ?_, ?_, ?_, ?_, trivial⟩, ?_⟩ <;> simp only [Ex.last] <;> omega

theorem cutOne_get {v n : Int} {e : Ext} (h : One e) (u : Int) : get (cutOne v n e) u = if v ≤ u ∧ u < v + n then none else get [e] u := by
  obtain ⟨h1, h2, h3⟩ := h
  unfold Fits at h2 h3
  unfold cutOne
  by_cases hu : v ≤ u ∧ u < v + n
  · rw [if_pos hu]
    split
    · simp only [get]
      rw [if_neg (by omega)]
    · simp only [get]
      rw [if_neg (by omega), if_neg (by omega)]
  · rw [if_neg hu]
    split
    · rfl
    · simp only [get, val]
      by_cases c1 : e.1 ≤ u ∧ u < e.1 + e.2.2
      · rw [if_pos c1, if_neg (show ¬ e.2.1 = -1 by omega)]
        by_cases c2 : u < v
        · rw [if_pos (by omega)]
        · rw [if_neg (by omega), if_pos (by omega), if_neg (by omega)]
          congr 1
          omega
      · rw [if_neg c1, if_neg (by omega), if_neg (by omega)]

theorem without_ok {l : List Ext} (h : Good l) (v n : Int) : Good (without l v n) ∧ ∀ u, get (without l v n) u = if v ≤ u ∧ u < v + n then none else get l u := by
  have hf := flat_last (f := cutOne v n) (fun x hx c hc => cutOne_loose (good_phys h hx) c hc) h.from_
  have hg := flat_get (f := cutOne v n) (g := fun u o => if v ≤ u ∧ u < v + n then none else o) (fun u => by split <;> rfl) h.from_ (fun x hx u => cutOne_get (good_phys h hx) u)
  have hlast := h.last
  obtain ⟨r1, r2⟩ := good_tidy hf.1 (by omega) (fun u p hp => by
    rw [hg u] at hp
    split at hp
    · cases hp
    · exact h.vals u p hp)
  exact ⟨r1, fun u => by unfold without; rw [r2 u, hg u]⟩

/-- An extent put among others, ahead of the first that begins no earlier. -/
def ins (x : Ext) : List Ext → List Ext
  | [] => [x]
  | e :: l => if e.1 < x.1 then e :: ins x l else x :: e :: l

def put (l : List Ext) (x : Ext) : List Ext := addAll [] (ins x (without l x.1 x.2.2))

theorem ins_ok {x : Ext} (hx : One x) : ∀ {l : List Ext} {b : Int}, From b l → b ≤ x.1 → (∀ u, x.1 ≤ u → u < x.1 + x.2.2 → get l u = none) →
    From b (ins x l) ∧ (∀ c, x.1 + x.2.2 ≤ c → Ex.last b l ≤ c → Ex.last b (ins x l) ≤ c) ∧ ∀ u, get (ins x l) u = if x.1 ≤ u ∧ u < x.1 + x.2.2 then some (val x u) else get l u
  | [], b, _, hb, _ => by
    obtain ⟨h1, h2, h3⟩ := hx
    unfold Fits at h3
    exact ⟨⟨hb, h1, by omega, trivial⟩, fun c hc _ => hc, fun u => rfl⟩
  | e :: l, b, ⟨g1, g2, g3, g4⟩, hb, hh => by
    have hx' := hx
    obtain ⟨h1, h2, h3⟩ := hx
    unfold Fits at h3
    unfold ins
    by_cases hlt : e.1 < x.1
    · rw [if_pos hlt]
      have he : e.1 + e.2.2 ≤ x.1 := by
        by_cases hc : e.1 + e.2.2 ≤ x.1
        · exact hc
        · have := hh x.1 (by omega) (by omega)
          simp only [get] at this
          rw [if_pos (by omega)] at this
          cases this
      obtain ⟨r1, r2, r3⟩ := ins_ok hx' (l := l) (b := e.1 + e.2.2) g4 he (fun u a c => by
        have := hh u a c
        simp only [get] at this
        rw [if_neg (by omega)] at this
        exact this)
      refine ⟨⟨g1, g2, g3, r1⟩, fun c a d => r2 c a d, fun u => ?_⟩
      simp only [get]
      rw [r3 u]
      by_cases c1 : e.1 ≤ u ∧ u < e.1 + e.2.2
      · rw [if_pos c1, if_neg (by omega), if_pos c1]
      · rw [if_neg c1, if_neg c1]
    · rw [if_neg hlt]
      have he : x.1 + x.2.2 ≤ e.1 := by
        by_cases hc : x.1 + x.2.2 ≤ e.1
        · exact hc
        · have := hh e.1 (by omega) (by omega)
          simp only [get] at this
          rw [if_pos (by omega)] at this
          cases this
      exact ⟨⟨hb, h1, by omega, he, g2, g3, g4⟩, fun c a d => d, fun u => rfl⟩

theorem put_ok {l : List Ext} (h : Good l) {x : Ext} (hx : One x) : Good (put l x) ∧ ∀ u, get (put l x) u = if x.1 ≤ u ∧ u < x.1 + x.2.2 then some (x.2.1 + u - x.1) else get l u := by
  obtain ⟨w1, w2⟩ := without_ok h x.1 x.2.2
  have hx' := hx
  obtain ⟨h1, h2, h3⟩ := hx'
  unfold Fits at h2 h3
  obtain ⟨r1, r2, r3⟩ := ins_ok hx w1.from_ h2.1 (fun u a c => by rw [w2 u, if_pos ⟨a, c⟩])
  have hval : ∀ u, val x u = x.2.1 + u - x.1 := fun u => by unfold val; rw [if_neg (by omega)]
  have r3' : ∀ u, get (ins x (without l x.1 x.2.2)) u = if x.1 ≤ u ∧ u < x.1 + x.2.2 then some (x.2.1 + u - x.1) else get l u := by
    intro u
    rw [r3 u, hval]
    by_cases c1 : x.1 ≤ u ∧ u < x.1 + x.2.2
    · rw [if_pos c1, if_pos c1]
    · rw [if_neg c1, if_neg c1, w2 u, if_neg c1]
  obtain ⟨t1, t2⟩ := good_tidy r1.loose (r2 65536 (by omega) w1.last) (fun u p hp => by
    rw [r3' u] at hp
    split at hp
    · simp only [Option.some.injEq] at hp
      omega
    · exact h.vals u p hp)
  exact ⟨t1, fun u => by unfold put; rw [t2 u, r3' u]⟩

/-- What becomes of an extent where what stands in a span moves. -/
def moveOne (a n t : Int) (e : Ext) : List Ext :=
  if min (e.2.1 + e.2.2) (a + n) ≤ max e.2.1 a then [e] else
  [(e.1, e.2.1, max e.2.1 a - e.2.1), (e.1 + max e.2.1 a - e.2.1, t + max e.2.1 a - a, min (e.2.1 + e.2.2) (a + n) - max e.2.1 a), (e.1 + min (e.2.1 + e.2.2) (a + n) - e.2.1, min (e.2.1 + e.2.2) (a + n), e.2.1 + e.2.2 - min (e.2.1 + e.2.2) (a + n))]

def move (l : List Ext) (a n t : Int) : List Ext := addAll [] (l.flatMap (moveOne a n t))

/-- Where a sector stands behind a move. -/
def moved (a n t p : Int) : Int := if a ≤ p ∧ p < a + n then t + p - a else p

theorem moveOne_loose {a n t : Int} {e : Ext} (h : One e) (ht : 0 ≤ t) (c : Int) (hc : c ≤ e.1) : Loose c (moveOne a n t e) ∧ Ex.last c (moveOne a n t e) ≤ e.1 + e.2.2 := by
  obtain ⟨h1, h2, h3⟩ := h
  unfold Fits at h2 h3
  unfold moveOne
  split
  · exact ⟨⟨hc, by omega, by omega, trivial⟩, by simp [Ex.last]⟩
  · refine ⟨⟨hc, ?_, ?_, ?_, ?_, ?_, ?_, ?_, ?_, trivial⟩, ?_⟩ <;> simp only [Ex.last] <;> omega

theorem moveOne_get {a n t : Int} {e : Ext} (h : One e) (ht : 0 ≤ t) (u : Int) : get (moveOne a n t e) u = (get [e] u).map (moved a n t) := by
  obtain ⟨h1, h2, h3⟩ := h
  unfold Fits at h2 h3
  unfold moveOne
  by_cases c1 : e.1 ≤ u ∧ u < e.1 + e.2.2
  · have hv : get [e] u = some (e.2.1 + u - e.1) := by simp only [get, val]; rw [if_pos c1, if_neg (by omega)]
    rw [hv, Option.map_some]
    split
    · rw [hv]
      unfold moved
      rw [if_neg (by omega)]
    · simp only [get, val]
      by_cases c2 : e.2.1 + u - e.1 < max e.2.1 a
      · rw [if_pos (by omega), if_neg (by omega)]
        unfold moved
        rw [if_neg (by omega)]
      · rw [if_neg (by omega)]
        by_cases c3 : e.2.1 + u - e.1 < min (e.2.1 + e.2.2) (a + n)
        · rw [if_pos (by omega), if_neg (by omega)]
          unfold moved
          rw [if_pos (by omega)]
          congr 1
          omega
        · rw [if_neg (by omega), if_pos (by omega), if_neg (by omega)]
          unfold moved
          rw [if_neg (by omega)]
          congr 1
          omega
  · have hv : get [e] u = none := by simp only [get]; rw [if_neg c1]
    rw [hv, Option.map_none]
    split
    · exact hv
    · simp only [get]
      rw [if_neg (by omega), if_neg (by omega), if_neg (by omega)]

theorem move_ok {l : List Ext} (h : Good l) {a n t : Int} (ht : Fits t n) : Good (move l a n t) ∧ ∀ u, get (move l a n t) u = (get l u).map (moved a n t) := by
  unfold Fits at ht
  have hf := flat_last (f := moveOne a n t) (fun x hx c hc => moveOne_loose (good_phys h hx) ht.1 c hc) h.from_
  have hg := flat_get (f := moveOne a n t) (g := fun u o => o.map (moved a n t)) (fun u => rfl) h.from_ (fun x hx u => moveOne_get (good_phys h hx) ht.1 u)
  have hlast := h.last
  obtain ⟨r1, r2⟩ := good_tidy hf.1 (by omega) (fun u p hp => by
    rw [hg u] at hp
    simp only [Option.map_eq_some_iff] at hp
    obtain ⟨q, hq, rfl⟩ := hp
    have := h.vals u q hq
    unfold moved
    split <;> omega)
  exact ⟨r1, fun u => by unfold move; rw [r2 u, hg u]⟩

/-- What some sectors are, piece by piece, holes too. -/
def lookPs (en : Int) : Int → List Ext → List Ext
  | a, [] => [(a, -1, en - a)]
  | a, e :: l => if min (e.1 + e.2.2) en ≤ max e.1 a then lookPs en a l else (a, -1, max e.1 a - a) :: (max e.1 a, e.2.1 + max e.1 a - e.1, min (e.1 + e.2.2) en - max e.1 a) :: lookPs en (min (e.1 + e.2.2) en) l

def look (l : List Ext) (v n : Int) : List Ext := addAll [] (lookPs (v + n) v l)

theorem lookPs_ok {en : Int} : ∀ {l : List Ext} {a b : Int}, From b l → (∀ x ∈ l, One x) → a ≤ en →
    Loose a (lookPs en a l) ∧ Ex.last a (lookPs en a l) = en ∧ ∀ u, get (lookPs en a l) u = if a ≤ u ∧ u < en then some ((get l u).getD (-1)) else none
  | [], a, b, _, _, ha => by
    refine ⟨⟨Int.le_refl _, by show 0 ≤ en - a; omega, Int.le_refl _, trivial⟩, by simp only [lookPs, Ex.last]; omega, fun u => ?_⟩
    simp only [lookPs, get, val]
    by_cases c : a ≤ u ∧ u < en
    · rw [if_pos (by omega), if_pos c]; rfl
    · rw [if_neg (by omega), if_neg c]
  | e :: l, a, b, ⟨g1, g2, g3, g4⟩, hx, ha => by
    obtain ⟨h1, h2, h3⟩ := hx e (by simp)
    unfold Fits at h2 h3
    have hx' : ∀ x ∈ l, One x := fun x hy => hx x (by simp [hy])
    unfold lookPs
    split
    · rename_i hle
      obtain ⟨r1, r2, r3⟩ := lookPs_ok (l := l) (a := a) g4 hx' ha
      refine ⟨r1, r2, fun u => ?_⟩
      rw [r3 u]
      by_cases c : a ≤ u ∧ u < en
      · rw [if_pos c, if_pos c]
        simp only [get]
        rw [if_neg (by omega)]
      · rw [if_neg c, if_neg c]
    · rename_i hle
      obtain ⟨r1, r2, r3⟩ := lookPs_ok (l := l) (a := min (e.1 + e.2.2) en) g4 hx' (Int.min_le_right _ _)
      refine ⟨⟨Int.le_refl _, by show 0 ≤ max e.1 a - a; omega, Int.le_refl _, ?_, ?_, ?_, ?_⟩, ?_, fun u => ?_⟩
      · show a + (max e.1 a - a) ≤ max e.1 a; omega
      · show 0 ≤ min (e.1 + e.2.2) en - max e.1 a; omega
      · show -1 ≤ e.2.1 + max e.1 a - e.1; omega
      · show Loose (max e.1 a + (min (e.1 + e.2.2) en - max e.1 a)) _
        rw [show max e.1 a + (min (e.1 + e.2.2) en - max e.1 a) = min (e.1 + e.2.2) en by omega]
        exact r1
      · show Ex.last (max e.1 a + (min (e.1 + e.2.2) en - max e.1 a)) _ = en
        rw [show max e.1 a + (min (e.1 + e.2.2) en - max e.1 a) = min (e.1 + e.2.2) en by omega]
        exact r2
      · simp only [get]
        rw [r3 u]
        by_cases c1 : a ≤ u ∧ u < a + (max e.1 a - a)
        · rw [if_pos c1, if_pos (show a ≤ u ∧ u < en by omega), if_neg (show ¬ (e.1 ≤ u ∧ u < e.1 + e.2.2) by omega), get_low g4.loose (by omega)]
          rfl
        · rw [if_neg c1]
          by_cases c2 : max e.1 a ≤ u ∧ u < max e.1 a + (min (e.1 + e.2.2) en - max e.1 a)
          · rw [if_pos c2, if_pos (show a ≤ u ∧ u < en by omega), if_pos (show e.1 ≤ u ∧ u < e.1 + e.2.2 by omega), Option.getD_some]
            congr 1
            unfold val
            rw [if_neg (show ¬ (e.2.1 + max e.1 a - e.1 = -1) by omega), if_neg (show ¬ e.2.1 = -1 by omega)]
            show e.2.1 + max e.1 a - e.1 + u - max e.1 a = e.2.1 + u - e.1
            omega
          · rw [if_neg c2]
            by_cases c3 : min (e.1 + e.2.2) en ≤ u ∧ u < en
            · rw [if_pos c3, if_pos (show a ≤ u ∧ u < en by omega), if_neg (show ¬ (e.1 ≤ u ∧ u < e.1 + e.2.2) by omega)]
            · rw [if_neg c3, if_neg (show ¬ (a ≤ u ∧ u < en) by omega)]

theorem look_ok {l : List Ext} (h : Good l) {v n : Int} (hn : 0 ≤ n) : From v (look l v n) ∧ Sep (look l v n) ∧ Ex.last v (look l v n) ≤ v + n ∧ ∀ u, get (look l v n) u = if v ≤ u ∧ u < v + n then some (at_ l u) else none := by
  obtain ⟨p1, p2, p3⟩ := lookPs_ok (en := v + n) (a := v) h.from_ (fun x hx => good_phys h hx) (by omega)
  obtain ⟨r1, r2, r3, r4⟩ := tidy p1
  exact ⟨r1, r2, by unfold look; omega, fun u => by unfold look at_; rw [r4 u, p3 u]⟩

theorem chain_get : ∀ {l : List Ext}, Chain l → ∀ (k : Nat) (h : k + 1 < l.length), Behind l[k] l[k + 1]
  | x :: y :: l, h, 0, _ => h.1
  | x :: y :: l, h, k + 1, hk => by
    have := chain_get (l := y :: l) h.2 k (by simpa using hk)
    simpa using this

theorem chain_of : ∀ {l : List Ext}, (∀ (k : Nat) (h : k + 1 < l.length), Behind l[k] l[k + 1]) → Chain l
  | [], _ => trivial
  | [_], _ => trivial
  | x :: y :: l, h => ⟨h 0 (by simp), chain_of (l := y :: l) (fun k hk => h (k + 1) (by simpa using hk))⟩

/-- What Check asks of the extent number k. -/
def Step (l : List Ext) (k : Nat) (h : k < l.length) : Prop := One l[k] ∧ ∀ j (hj : j + 1 = k), Behind (l[j]'(by omega)) l[k]

theorem mays_steps {l : List Ext} : Mays l ↔ ∀ k (h : k < l.length), Step l k h := by
  constructor
  · rintro ⟨h1, h2⟩ k h
    refine ⟨h1 _ (List.getElem_mem h), fun j hj => ?_⟩
    subst hj
    exact chain_get h2 j h
  · intro h
    refine ⟨fun x hx => ?_, chain_of (fun k hk => (h (k + 1) hk).2 k rfl)⟩
    obtain ⟨j, hj, rfl⟩ := List.mem_iff_getElem.1 hx
    exact (h j hj).1

end Go.Proofs.Ytinlgoljaiolnab.Ex
