/-
  Plain functions: the pieces that a map has of some sectors, and maps laid out of pieces. It imports no program. Conditions: those that each lemma names.
-/
import Derived.Test.YtlpmfbinemmikaaEPieces
import Derived.Test.YtlpmfbinemmikaaEPut
namespace Go.Proofs.Ytlpmfbinemmikaa.Ex
set_option linter.unusedVariables false

/-- Those of an extent's sectors, counted from its first, from a up to b. -/
def part (x : Ext) (a b : Int) : List Ext := if max a 0 < min b x.2.2 then [(x.1 + max a 0, x.2.1 + max a 0, min b x.2.2 - max a 0)] else []

def wOne (a b : Int) (x : Ext) : List Ext := part x (a - x.1) (b - x.1)

/-- What a map has of the sectors from a up to b. -/
def within (l : List Ext) (a b : Int) : List Ext := l.flatMap (wOne a b)

/-- Pieces that are laid: none is empty, none a hole. -/
structure Bits (ps : List Ext) : Prop where
  pieces : Pieces ps
  one : ∀ z ∈ ps, 1 ≤ z.2.2 ∧ 0 ≤ z.2.1

theorem Bits.front {q r : List Ext} (h : Bits (q ++ r)) : Bits q := ⟨h.pieces.front, fun z hz => h.one z (by simp [hz])⟩

theorem part_len (x : Ext) (a b : Int) : (part x a b).length ≤ 1 := by unfold part; split <;> simp

theorem part_mem {x z : Ext} {a b : Int} (h : z ∈ part x a b) : 1 ≤ z.2.2 ∧ x.2.1 ≤ z.2.1 ∧ z.2.1 + z.2.2 ≤ x.2.1 + x.2.2 := by
  unfold part at h
  split at h
  · simp only [List.mem_singleton] at h
    subst h
    simp only
    omega
  · cases h

theorem wOne_none {a b : Int} {x : Ext} (h : x.1 + x.2.2 ≤ a ∨ b ≤ x.1) : wOne a b x = [] := by
  unfold wOne part
  rw [if_neg (by omega)]

theorem within_none : ∀ {l : List Ext} {c a b : Int}, From c l → b ≤ c → within l a b = []
  | [], _, _, _, _, _ => rfl
  | x :: l, c, a, b, ⟨h1, h2, h3, h4⟩, h => by
    unfold within
    rw [List.flatMap_cons, wOne_none (.inr (by omega))]
    exact within_none (c := x.1 + x.2.2) h4 (by omega)

theorem within_len (l : List Ext) (a b : Int) : (within l a b).length ≤ l.length := by
  have := flat_len (f := wOne a b) (k := 1) (fun x => part_len _ _ _) l
  rw [Nat.mul_one] at this
  exact this

theorem within_mem {l : List Ext} {a b : Int} {z : Ext} (hl : ∀ x ∈ l, One x) (h : z ∈ within l a b) : 1 ≤ z.2.2 ∧ 0 ≤ z.2.1 ∧ z.2.1 + z.2.2 ≤ 65536 := by
  obtain ⟨x, hx, hz⟩ := List.mem_flatMap.1 h
  have h1 := part_mem hz
  have h2 := hl x hx
  unfold One Fits at h2
  omega

theorem within_loose : ∀ {l : List Ext} {c : Int}, From c l → (∀ x ∈ l, One x) → ∀ {d a b : Int}, d ≤ max a c → d ≤ b → Loose d (within l a b) ∧ Ex.last d (within l a b) ≤ b
  | [], c, _, _, d, a, b, h1, h2 => ⟨trivial, h2⟩
  | x :: l, c, ⟨f1, f2, f3, f4⟩, ho, d, a, b, h1, h2 => by
    have ih := fun {d : Int} => within_loose (l := l) (c := x.1 + x.2.2) f4 (fun y hy => ho y (by simp [hy])) (d := d) (a := a) (b := b)
    have hx := ho x (by simp)
    unfold One Fits at hx
    have e : within (x :: l) a b = wOne a b x ++ within l a b := rfl
    rw [e]
    unfold wOne part
    split
    · next hc =>
      obtain ⟨i1, i2⟩ := ih (d := x.1 + min (b - x.1) x.2.2) (by omega) (by omega)
      have e2 : x.1 + max (a - x.1) 0 + (min (b - x.1) x.2.2 - max (a - x.1) 0) = x.1 + min (b - x.1) x.2.2 := by omega
      refine ⟨⟨?_, ?_, ?_, ?_⟩, ?_⟩
      · show d ≤ x.1 + max (a - x.1) 0; omega
      · show 0 ≤ min (b - x.1) x.2.2 - max (a - x.1) 0; omega
      · show -1 ≤ x.2.1 + max (a - x.1) 0; omega
      · show Loose (x.1 + max (a - x.1) 0 + (min (b - x.1) x.2.2 - max (a - x.1) 0)) (within l a b)
        rw [e2]; exact i1
      · show Ex.last (x.1 + max (a - x.1) 0 + (min (b - x.1) x.2.2 - max (a - x.1) 0)) (within l a b) ≤ b
        rw [e2]; exact i2
    · next hc =>
      exact ih (by omega) h2

theorem wOne_get {a b : Int} {e : Ext} (h : One e) (u : Int) : get (wOne a b e) u = if a ≤ u ∧ u < b then get [e] u else none := by
  unfold One Fits at h
  unfold wOne part
  by_cases hc : max (a - e.1) 0 < min (b - e.1) e.2.2
  · rw [if_pos hc]
    simp only [get, val]
    rw [if_neg (by omega : ¬ e.2.1 + max (a - e.1) 0 = -1), if_neg (by omega : ¬ e.2.1 = -1)]
    by_cases c1 : a ≤ u ∧ u < b
    · rw [if_pos c1]
      by_cases c2 : e.1 ≤ u ∧ u < e.1 + e.2.2
      · rw [if_pos c2, if_pos (by omega)]
        congr 1; omega
      · rw [if_neg c2, if_neg (by omega)]
    · rw [if_neg c1, if_neg (by omega)]
  · rw [if_neg hc]
    simp only [get]
    by_cases c1 : a ≤ u ∧ u < b
    · rw [if_pos c1, if_neg (by omega)]
    · rw [if_neg c1]

theorem within_get {l : List Ext} {c a b : Int} (hf : From c l) (ho : ∀ x ∈ l, One x) (u : Int) : get (within l a b) u = if a ≤ u ∧ u < b then get l u else none :=
  flat_get (f := wOne a b) (g := fun v o => if a ≤ v ∧ v < b then o else none) (fun v => by simp) hf (fun x hx v => wOne_get (ho x hx) v) u

/-- Good maps out of pieces that were laid. -/
theorem bits_good {ps : List Ext} (h : Bits ps) (hp : ∀ z ∈ ps, z.2.1 + z.2.2 ≤ 65536) : Good (addAll [] ps) ∧ ∀ v, get (addAll [] ps) v = get ps v := by
  refine good_tidy h.pieces.loose h.pieces.last (fun v p hv => ?_)
  obtain ⟨x, hx, h1, h2, rfl⟩ := get_mem hv
  have h3 := h.one x hx
  have h4 := hp x hx
  unfold val
  rw [if_neg (by omega)]
  omega

/-- What is laid where a hole is made. -/
def cutPs (l : List Ext) (v n : Int) : List Ext := within l 0 v ++ within l (v + n) 65536

theorem get_out {l : List Ext} (h : Good l) {u : Int} (hu : u < 0 ∨ 65536 ≤ u) : get l u = none := by
  rcases hu with hu | hu
  · exact get_low h.from_.loose hu
  · exact get_high h.from_.loose (Int.le_trans h.last hu)

theorem cutPs_bits {l : List Ext} (h : Ok l) {v n : Int} (hf : Fits v n) : Bits (cutPs l v n) := by
  have hg := h.good
  unfold Fits at hf
  have ho := fun x hx => good_phys hg (x := x) hx
  obtain ⟨a1, a2⟩ := within_loose hg.from_ ho (d := 0) (a := 0) (b := v) (by omega) (by omega)
  obtain ⟨b1, b2⟩ := within_loose hg.from_ ho (d := Ex.last 0 (within l 0 v)) (a := v + n) (b := 65536) (by omega) (by omega)
  have hm : ∀ z ∈ cutPs l v n, 1 ≤ z.2.2 ∧ 0 ≤ z.2.1 ∧ z.2.1 + z.2.2 ≤ 65536 := fun z hz => by
    rcases List.mem_append.1 hz with hz | hz
    · exact within_mem ho hz
    · exact within_mem ho hz
  refine ⟨⟨Loose_append.2 ⟨a1, b1⟩, by unfold cutPs; rw [last_append]; exact b2, fun z hz => ?_, ?_⟩, fun z hz => ?_⟩
  · have := hm z hz; omega
  · have h1 := within_len l 0 v
    have h2 := within_len l (v + n) 65536
    have h3 := h.1
    unfold cutPs
    rw [List.length_append]
    omega
  · have := hm z hz; omega

theorem cutPs_eq {l : List Ext} (h : Ok l) {v n : Int} (hf : Fits v n) : addAll [] (cutPs l v n) = without l v n := by
  have hg := h.good
  have ho := fun x hx => good_phys hg (x := x) hx
  obtain ⟨g1, g2⟩ := bits_good (cutPs_bits h hf) (fun z hz => by
    rcases List.mem_append.1 hz with hz | hz
    · exact (within_mem ho hz).2.2
    · exact (within_mem ho hz).2.2)
  obtain ⟨w1, w2⟩ := without_ok hg v n
  unfold Fits at hf
  refine good_unique g1 w1 (fun u => ?_)
  rw [g2, w2]
  unfold cutPs
  rw [get_append, within_get hg.from_ ho, within_get hg.from_ ho]
  by_cases c1 : v ≤ u ∧ u < v + n
  · rw [if_pos c1, if_neg (by omega), if_neg (by omega)]; rfl
  · rw [if_neg c1]
    by_cases c2 : 0 ≤ u ∧ u < v
    · rw [if_pos c2, if_neg (by omega)]; simp
    · rw [if_neg c2]
      by_cases c3 : v + n ≤ u ∧ u < 65536
      · rw [if_pos c3]; rfl
      · rw [if_neg c3, get_out hg (by omega)]; rfl

/-- What is laid where an extent is put. -/
def putPs (l : List Ext) (x : Ext) : List Ext := within l 0 x.1 ++ (x :: within l (x.1 + x.2.2) 65536)

theorem putPs_bits {l : List Ext} (h : Ok l) {x : Ext} (hx : One x) : Bits (putPs l x) ∧ ∀ z ∈ putPs l x, z.2.1 + z.2.2 ≤ 65536 := by
  have hg := h.good
  unfold One Fits at hx
  have ho := fun x hx => good_phys hg (x := x) hx
  obtain ⟨a1, a2⟩ := within_loose hg.from_ ho (d := 0) (a := 0) (b := x.1) (by omega) (by omega)
  obtain ⟨b1, b2⟩ := within_loose hg.from_ ho (d := x.1 + x.2.2) (a := x.1 + x.2.2) (b := 65536) (by omega) (by omega)
  have hm : ∀ z ∈ putPs l x, 1 ≤ z.2.2 ∧ 0 ≤ z.2.1 ∧ z.2.1 + z.2.2 ≤ 65536 := fun z hz => by
    rcases List.mem_append.1 hz with hz | hz
    · exact within_mem ho hz
    · rcases List.mem_cons.1 hz with rfl | hz
      · omega
      · exact within_mem ho hz
  refine ⟨⟨⟨Loose_append.2 ⟨a1, by omega, by omega, by omega, b1⟩, ?_, fun z hz => ?_, ?_⟩, fun z hz => ?_⟩, fun z hz => (hm z hz).2.2⟩
  · unfold putPs; rw [last_append]; exact b2
  · have := hm z hz; omega
  · have h1 := within_len l 0 x.1
    have h2 := within_len l (x.1 + x.2.2) 65536
    have h3 := h.1
    unfold putPs
    rw [List.length_append, List.length_cons]
    omega
  · have := hm z hz; omega

theorem putPs_eq {l : List Ext} (h : Ok l) {x : Ext} (hx : One x) : addAll [] (putPs l x) = put l x := by
  have hg := h.good
  have ho := fun x hx => good_phys hg (x := x) hx
  obtain ⟨b1, b2⟩ := putPs_bits h hx
  obtain ⟨g1, g2⟩ := bits_good b1 b2
  obtain ⟨w1, w2⟩ := put_ok hg hx
  unfold One Fits at hx
  refine good_unique g1 w1 (fun u => ?_)
  rw [g2, w2]
  unfold putPs
  rw [get_append, within_get hg.from_ ho]
  simp only [get, val]
  rw [within_get hg.from_ ho, if_neg (by omega : ¬ x.2.1 = -1)]
  by_cases c1 : x.1 ≤ u ∧ u < x.1 + x.2.2
  · rw [if_pos c1, if_pos c1, if_neg (by omega)]; rfl
  · rw [if_neg c1, if_neg c1]
    by_cases c2 : 0 ≤ u ∧ u < x.1
    · rw [if_pos c2, if_neg (by omega)]; simp
    · rw [if_neg c2]
      by_cases c3 : x.1 + x.2.2 ≤ u ∧ u < 65536
      · rw [if_pos c3]; rfl
      · rw [if_neg c3, get_out hg (by omega)]; rfl

/-- What is laid where sectors move. -/
def shift (t : Int) (x : Ext) : Ext := (x.1, x.2.1 + t, x.2.2)
def mOne (a n t : Int) (e : Ext) : List Ext := part e 0 (a - e.2.1) ++ ((part e (a - e.2.1) (a - e.2.1 + n)).map (shift (t - a)) ++ part e (a - e.2.1 + n) e.2.2)
def movePs (l : List Ext) (a n t : Int) : List Ext := l.flatMap (mOne a n t)

theorem part_loose {x : Ext} {a b c : Int} (h : One x) (t : Int) (ht : -1 ≤ t + x.2.1) (hc : c ≤ x.1 + max a 0) : Loose c ((part x a b).map (shift t)) ∧ Ex.last c ((part x a b).map (shift t)) ≤ max c (x.1 + min b x.2.2) := by
  unfold part
  split
  · next hh =>
    refine ⟨⟨hc, ?_, ?_, trivial⟩, ?_⟩
    · show 0 ≤ min b x.2.2 - max a 0; omega
    · show -1 ≤ x.2.1 + max a 0 + t; omega
    · show x.1 + max a 0 + (min b x.2.2 - max a 0) ≤ _; omega
  · exact ⟨trivial, by show c ≤ _; omega⟩

theorem part_loose0 {x : Ext} {a b c : Int} (h : One x) (hc : c ≤ x.1 + max a 0) : Loose c (part x a b) ∧ Ex.last c (part x a b) ≤ max c (x.1 + min b x.2.2) := by
  unfold One Fits at h
  unfold part
  split
  · next hh =>
    refine ⟨⟨hc, ?_, ?_, trivial⟩, ?_⟩
    · show 0 ≤ min b x.2.2 - max a 0; omega
    · show -1 ≤ x.2.1 + max a 0; omega
    · show x.1 + max a 0 + (min b x.2.2 - max a 0) ≤ _; omega
  · exact ⟨trivial, by show c ≤ _; omega⟩

theorem mOne_mem {a n t : Int} {e z : Ext} (h : One e) (ha : Fits a n) (ht : Fits t n) (hz : z ∈ mOne a n t e) : 1 ≤ z.2.2 ∧ 0 ≤ z.2.1 ∧ z.2.1 + z.2.2 ≤ 65536 := by
  unfold One Fits at h
  unfold Fits at ha ht
  rcases List.mem_append.1 hz with hz | hz
  · have := part_mem hz; omega
  rcases List.mem_append.1 hz with hz | hz
  · obtain ⟨y, hy, rfl⟩ := List.mem_map.1 hz
    unfold part at hy
    split at hy
    · simp only [List.mem_singleton] at hy
      subst hy
      simp only [shift]
      omega
    · cases hy
  · have := part_mem hz; omega

theorem mOne_loose {a n t : Int} {e : Ext} (h : One e) (ha : Fits a n) (ht : Fits t n) (c : Int) (hc : c ≤ e.1) : Loose c (mOne a n t e) ∧ Ex.last c (mOne a n t e) ≤ e.1 + e.2.2 := by
  have h' := h
  unfold One Fits at h'
  unfold Fits at ha ht
  have p1 := part_loose0 (x := e) (a := 0) (b := a - e.2.1) (c := c) h (by omega)
  unfold mOne
  rw [Loose_append, last_append, Loose_append, last_append]
  generalize hd : Ex.last c (part e 0 (a - e.2.1)) = d at *
  have hd1 : c ≤ d := by rw [← hd]; exact p1.1.last
  have p2 : Loose d ((part e (a - e.2.1) (a - e.2.1 + n)).map (shift (t - a))) ∧ Ex.last d ((part e (a - e.2.1) (a - e.2.1 + n)).map (shift (t - a))) ≤ max d (e.1 + min (a - e.2.1 + n) e.2.2) := by
    have hdd : d ≤ e.1 + max (a - e.2.1) 0 := by omega
    unfold part
    split
    · next hh =>
      refine ⟨⟨hdd, ?_, ?_, trivial⟩, ?_⟩
      · show 0 ≤ min (a - e.2.1 + n) e.2.2 - max (a - e.2.1) 0; omega
      · show -1 ≤ e.2.1 + max (a - e.2.1) 0 + (t - a); omega
      · show e.1 + max (a - e.2.1) 0 + (min (a - e.2.1 + n) e.2.2 - max (a - e.2.1) 0) ≤ _; omega
    · exact ⟨trivial, by show d ≤ _; omega⟩
  generalize hf : Ex.last d ((part e (a - e.2.1) (a - e.2.1 + n)).map (shift (t - a))) = f at *
  have hf1 : d ≤ f := by rw [← hf]; exact p2.1.last
  have p3 := part_loose0 (x := e) (a := a - e.2.1 + n) (b := e.2.2) (c := f) h (by omega)
  exact ⟨⟨p1.1, p2.1, p3.1⟩, by omega⟩

theorem mOne_get {a n t : Int} {e : Ext} (h : One e) (ha : Fits a n) (ht : Fits t n) (u : Int) : get (mOne a n t e) u = (get [e] u).map (moved a n t) := by
  unfold One Fits at h
  unfold Fits at ha ht
  have q1 : ∀ c d, get (part e c d) u = if e.1 ≤ u ∧ u < e.1 + e.2.2 ∧ c ≤ u - e.1 ∧ u - e.1 < d then some (e.2.1 + u - e.1) else none := by
    intro c d
    unfold part
    split
    · next hh =>
      simp only [get, val]
      rw [if_neg (by omega : ¬ e.2.1 + max c 0 = -1)]
      by_cases c1 : e.1 ≤ u ∧ u < e.1 + e.2.2 ∧ c ≤ u - e.1 ∧ u - e.1 < d
      · rw [if_pos c1, if_pos (by omega)]; congr 1; omega
      · rw [if_neg c1, if_neg (by omega)]
    · next hh =>
      rw [if_neg (by omega)]; rfl
  have q2 : get ((part e (a - e.2.1) (a - e.2.1 + n)).map (shift (t - a))) u = if e.1 ≤ u ∧ u < e.1 + e.2.2 ∧ a - e.2.1 ≤ u - e.1 ∧ u - e.1 < a - e.2.1 + n then some (e.2.1 + u - e.1 + (t - a)) else none := by
    unfold part
    split
    · next hh =>
      simp only [List.map_cons, List.map_nil, get, val, shift]
      rw [if_neg (by omega : ¬ e.2.1 + max (a - e.2.1) 0 + (t - a) = -1)]
      by_cases c1 : e.1 ≤ u ∧ u < e.1 + e.2.2 ∧ a - e.2.1 ≤ u - e.1 ∧ u - e.1 < a - e.2.1 + n
      · rw [if_pos c1, if_pos (by omega)]; congr 1; omega
      · rw [if_neg c1, if_neg (by omega)]
    · next hh =>
      rw [if_neg (by omega)]; rfl
  unfold mOne
  rw [get_append, get_append, q1, q2, q1]
  simp only [get, val]
  rw [if_neg (by omega : ¬ e.2.1 = -1)]
  by_cases c0 : e.1 ≤ u ∧ u < e.1 + e.2.2
  · rw [if_pos c0]
    simp only [Option.map_some, moved]
    by_cases c1 : u - e.1 < a - e.2.1
    · have k1 : e.1 ≤ u ∧ u < e.1 + e.2.2 ∧ 0 ≤ u - e.1 ∧ u - e.1 < a - e.2.1 := by omega
      have k2 : ¬ (a ≤ e.2.1 + u - e.1 ∧ e.2.1 + u - e.1 < a + n) := by omega
      rw [if_pos k1, if_neg k2]; rfl
    · have k1 : ¬ (e.1 ≤ u ∧ u < e.1 + e.2.2 ∧ 0 ≤ u - e.1 ∧ u - e.1 < a - e.2.1) := by omega
      rw [if_neg k1]
      by_cases c2 : u - e.1 < a - e.2.1 + n
      · have k2 : e.1 ≤ u ∧ u < e.1 + e.2.2 ∧ a - e.2.1 ≤ u - e.1 ∧ u - e.1 < a - e.2.1 + n := by omega
        have k3 : a ≤ e.2.1 + u - e.1 ∧ e.2.1 + u - e.1 < a + n := by omega
        rw [if_pos k2, if_pos k3]
        simp only [Option.none_or, Option.some_or]
        congr 1; omega
      · have k2 : ¬ (e.1 ≤ u ∧ u < e.1 + e.2.2 ∧ a - e.2.1 ≤ u - e.1 ∧ u - e.1 < a - e.2.1 + n) := by omega
        have k3 : ¬ (a ≤ e.2.1 + u - e.1 ∧ e.2.1 + u - e.1 < a + n) := by omega
        have k4 : e.1 ≤ u ∧ u < e.1 + e.2.2 ∧ a - e.2.1 + n ≤ u - e.1 ∧ u - e.1 < e.2.2 := by omega
        rw [if_neg k2, if_pos k4, if_neg k3]
        rfl
  · rw [if_neg c0, if_neg (by omega), if_neg (by omega), if_neg (by omega)]
    rfl

theorem mOne_len (a n t : Int) (e : Ext) : (mOne a n t e).length ≤ 3 := by
  unfold mOne
  have h1 := part_len e 0 (a - e.2.1)
  have h2 := part_len e (a - e.2.1) (a - e.2.1 + n)
  have h3 := part_len e (a - e.2.1 + n) e.2.2
  rw [List.length_append, List.length_append, List.length_map]
  omega

theorem movePs_bits {l : List Ext} (h : Ok l) {a n t : Int} (ha : Fits a n) (ht : Fits t n) : Bits (movePs l a n t) ∧ ∀ z ∈ movePs l a n t, z.2.1 + z.2.2 ≤ 65536 := by
  have hg := h.good
  have hf := flat_last (f := mOne a n t) (fun x hx c hc => mOne_loose (good_phys hg hx) ha ht c hc) hg.from_
  have hm : ∀ z ∈ movePs l a n t, 1 ≤ z.2.2 ∧ 0 ≤ z.2.1 ∧ z.2.1 + z.2.2 ≤ 65536 := fun z hz => by
    obtain ⟨x, hx, hz⟩ := List.mem_flatMap.1 hz
    exact mOne_mem (good_phys hg hx) ha ht hz
  refine ⟨⟨⟨hf.1, Int.le_trans hf.2 hg.last, fun z hz => ?_, ?_⟩, fun z hz => ?_⟩, fun z hz => (hm z hz).2.2⟩
  · have := hm z hz; omega
  · have h1 := flat_len (f := mOne a n t) (k := 3) (mOne_len a n t) l
    have h2 := h.1
    show (l.flatMap (mOne a n t)).length ≤ _
    omega
  · have := hm z hz; omega

theorem movePs_eq {l : List Ext} (h : Ok l) {a n t : Int} (ha : Fits a n) (ht : Fits t n) : addAll [] (movePs l a n t) = move l a n t := by
  have hg := h.good
  obtain ⟨b1, b2⟩ := movePs_bits h ha ht
  obtain ⟨g1, g2⟩ := bits_good b1 b2
  obtain ⟨w1, w2⟩ := move_ok hg (a := a) ht
  refine good_unique g1 w1 (fun u => ?_)
  rw [g2, w2]
  exact flat_get (f := mOne a n t) (g := fun v o => o.map (moved a n t)) (fun v => rfl) hg.from_ (fun x hx v => mOne_get (good_phys hg hx) ha ht v) u

/-- Where a sector stands: the last piece of it that was met. -/
def fp (ps : List Ext) : Int := (ps.getLast?.map (·.2.1)).getD (-1)
theorem fp_nil : fp [] = -1 := rfl
theorem fp_snoc (ps : List Ext) (x : Ext) : fp (ps ++ [x]) = x.2.1 := by unfold fp; simp

theorem find_eq : ∀ {l : List Ext} {c : Int}, From c l → (∀ x ∈ l, One x) → ∀ v, fp (within l v (v + 1)) = at_ l v
  | [], _, _, _, v => rfl
  | x :: l, c, ⟨f1, f2, f3, f4⟩, ho, v => by
    have hx := ho x (by simp)
    unfold One Fits at hx
    have e : within (x :: l) v (v + 1) = wOne v (v + 1) x ++ within l v (v + 1) := rfl
    rw [e]
    by_cases hc : x.1 ≤ v ∧ v < x.1 + x.2.2
    · rw [within_none (c := x.1 + x.2.2) f4 (by omega), List.append_nil]
      unfold wOne part at_
      rw [if_pos (by omega)]
      simp only [get, val]
      rw [if_pos hc, if_neg (by omega : ¬ x.2.1 = -1)]
      show x.2.1 + max (v - x.1) 0 = x.2.1 + v - x.1
      omega
    · rw [wOne_none (by omega), List.nil_append, find_eq (c := x.1 + x.2.2) f4 (fun y hy => ho y (by simp [hy])) v]
      unfold at_
      simp only [get]
      rw [if_neg hc]

end Go.Proofs.Ytlpmfbinemmikaa.Ex
