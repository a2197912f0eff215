/-
  Plain functions: what the calls of a map answer, and what follows of them. It imports no program. Conditions: those that each lemma names.
-/
import Derived.Test.YtinlgoljaiolnabESpans
namespace Go.Proofs.Ytinlgoljaiolnab.Ex
set_option linter.unusedVariables false

def checkE (l : List Ext) : Int := @ite _ (Ok l) (decOk l) (0) (9)

def findE (l : List Ext) (v : Int) : Int := @ite _ (Ok l) (decOk l) ((if 0 ≤ v ∧ v < 65536 then 0 else 4)) (9)
def findV (l : List Ext) (v : Int) : Int := if findE l v = 0 then at_ l v else 0

def lookE (l : List Ext) (v n : Int) : Int := @ite _ (Ok l) (decOk l) ((if Fits v n then 0 else 4)) (9)
def lookL (l : List Ext) (v n : Int) : List Ext := if lookE l v n = 0 then look l v n else []

def cutE (l : List Ext) (v n : Int) : Int := @ite _ (Ok l) (decOk l) ((if Fits v n then (if (without l v n).length ≤ 1024 then 0 else 51) else 4)) (9)
def cutL (l : List Ext) (v n : Int) : List Ext := if cutE l v n = 0 then without l v n else []

def putE (l : List Ext) (x : Ext) : Int := @ite _ (Ok l) (decOk l) ((if One x then (if (put l x).length ≤ 1024 then 0 else 51) else 4)) (9)
def putL (l : List Ext) (x : Ext) : List Ext := if putE l x = 0 then put l x else []

abbrev Span (x : Spn) (t : Int) : Prop := 1 ≤ x.2 ∧ Fits x.1 x.2 ∧ Fits t x.2

def moveE (l : List Ext) (x : Spn) (t : Int) : Int := @ite _ (Ok l) (decOk l) ((if Span x t then (if (move l x.1 x.2 t).length ≤ 1024 then 0 else 51) else 4)) (9)
def moveL (l : List Ext) (x : Spn) (t : Int) : List Ext := if moveE l x t = 0 then move l x.1 x.2 t else []

def usedL (l : List Ext) : List Spn := @ite _ (Ok l) (decOk l) (used l) ([])

theorem Ok.good {l : List Ext} (h : Ok l) : Good l := (good_iff l).1 h.2
theorem ok_of {l : List Ext} (h : Good l) (hn : l.length ≤ 1024) : Ok l := ⟨hn, (good_iff l).2 h⟩

theorem checkE_ok {l : List Ext} (h : Ok l) : checkE l = 0 := if_pos h
theorem checkE_no {l : List Ext} (h : ¬ Ok l) : checkE l = 9 := if_neg h
theorem checkE_zero {l : List Ext} : checkE l = 0 ↔ Ok l := by
  unfold checkE
  by_cases h : Ok l
  · rw [if_pos h]; exact ⟨fun _ => h, fun _ => rfl⟩
  · rw [if_neg h]; exact ⟨fun g => absurd g (by decide), fun g => absurd g h⟩

theorem findE_zero {l : List Ext} {v : Int} : findE l v = 0 ↔ Ok l ∧ 0 ≤ v ∧ v < 65536 := by
  unfold findE
  by_cases h : Ok l
  · rw [if_pos h]
    by_cases g : 0 ≤ v ∧ v < 65536
    · rw [if_pos g]; exact ⟨fun _ => ⟨h, g⟩, fun _ => rfl⟩
    · rw [if_neg g]; exact ⟨fun k => absurd k (by decide), fun k => absurd k.2 g⟩
  · rw [if_neg h]; exact ⟨fun k => absurd k (by decide), fun k => absurd k.1 h⟩

theorem lookE_zero {l : List Ext} {v n : Int} : lookE l v n = 0 ↔ Ok l ∧ Fits v n := by
  unfold lookE
  by_cases h : Ok l
  · rw [if_pos h]
    by_cases g : Fits v n
    · rw [if_pos g]; exact ⟨fun _ => ⟨h, g⟩, fun _ => rfl⟩
    · rw [if_neg g]; exact ⟨fun k => absurd k (by decide), fun k => absurd k.2 g⟩
  · rw [if_neg h]; exact ⟨fun k => absurd k (by decide), fun k => absurd k.1 h⟩

theorem cutE_zero {l : List Ext} {v n : Int} : cutE l v n = 0 ↔ Ok l ∧ Fits v n ∧ (without l v n).length ≤ 1024 := by
  unfold cutE
  by_cases h : Ok l
  · rw [if_pos h]
    by_cases g : Fits v n
    · rw [if_pos g]
      by_cases k : (without l v n).length ≤ 1024
      · rw [if_pos k]; exact ⟨fun _ => ⟨h, g, k⟩, fun _ => rfl⟩
      · rw [if_neg k]; exact ⟨fun q => absurd q (by decide), fun q => absurd q.2.2 k⟩
    · rw [if_neg g]; exact ⟨fun k => absurd k (by decide), fun k => absurd k.2.1 g⟩
  · rw [if_neg h]; exact ⟨fun k => absurd k (by decide), fun k => absurd k.1 h⟩

theorem putE_zero {l : List Ext} {x : Ext} : putE l x = 0 ↔ Ok l ∧ One x ∧ (put l x).length ≤ 1024 := by
  unfold putE
  by_cases h : Ok l
  · rw [if_pos h]
    by_cases g : One x
    · rw [if_pos g]
      by_cases k : (put l x).length ≤ 1024
      · rw [if_pos k]; exact ⟨fun _ => ⟨h, g, k⟩, fun _ => rfl⟩
      · rw [if_neg k]; exact ⟨fun q => absurd q (by decide), fun q => absurd q.2.2 k⟩
    · rw [if_neg g]; exact ⟨fun k => absurd k (by decide), fun k => absurd k.2.1 g⟩
  · rw [if_neg h]; exact ⟨fun k => absurd k (by decide), fun k => absurd k.1 h⟩

theorem moveE_zero {l : List Ext} {x : Spn} {t : Int} : moveE l x t = 0 ↔ Ok l ∧ Span x t ∧ (move l x.1 x.2 t).length ≤ 1024 := by
  unfold moveE
  by_cases h : Ok l
  · rw [if_pos h]
    by_cases g : Span x t
    · rw [if_pos g]
      by_cases k : (move l x.1 x.2 t).length ≤ 1024
      · rw [if_pos k]; exact ⟨fun _ => ⟨h, g, k⟩, fun _ => rfl⟩
      · rw [if_neg k]; exact ⟨fun q => absurd q (by decide), fun q => absurd q.2.2 k⟩
    · rw [if_neg g]; exact ⟨fun k => absurd k (by decide), fun k => absurd k.2.1 g⟩
  · rw [if_neg h]; exact ⟨fun k => absurd k (by decide), fun k => absurd k.1 h⟩

theorem cutL_ok {l : List Ext} {v n : Int} (h : cutE l v n = 0) : cutL l v n = without l v n ∧ Ok (cutL l v n) ∧ ∀ u, get (cutL l v n) u = if v ≤ u ∧ u < v + n then none else get l u := by
  have e : cutL l v n = without l v n := if_pos h
  obtain ⟨h1, h2, h3⟩ := cutE_zero.1 h
  obtain ⟨w1, w2⟩ := without_ok h1.good v n
  rw [e]
  exact ⟨rfl, ok_of w1 h3, w2⟩

theorem putL_ok {l : List Ext} {x : Ext} (h : putE l x = 0) : putL l x = put l x ∧ Ok (putL l x) ∧ ∀ u, get (putL l x) u = if x.1 ≤ u ∧ u < x.1 + x.2.2 then some (x.2.1 + u - x.1) else get l u := by
  have e : putL l x = put l x := if_pos h
  obtain ⟨h1, h2, h3⟩ := putE_zero.1 h
  obtain ⟨w1, w2⟩ := put_ok h1.good h2
  rw [e]
  exact ⟨rfl, ok_of w1 h3, w2⟩

theorem moveL_ok {l : List Ext} {x : Spn} {t : Int} (h : moveE l x t = 0) : moveL l x t = move l x.1 x.2 t ∧ Ok (moveL l x t) ∧ ∀ u, get (moveL l x t) u = (get l u).map (moved x.1 x.2 t) := by
  have e : moveL l x t = move l x.1 x.2 t := if_pos h
  obtain ⟨h1, h2, h3⟩ := moveE_zero.1 h
  obtain ⟨w1, w2⟩ := move_ok h1.good (a := x.1) h2.2.2
  rw [e]
  exact ⟨rfl, ok_of w1 h3, w2⟩

/-- Put sectors stand where they should, all others where they stood. -/
theorem put_law {l : List Ext} {x : Ext} (h : putE l x = 0) {v : Int} (h0 : 0 ≤ v) (h1 : v < 65536) : findE (putL l x) v = 0 ∧ findE l v = 0 ∧ checkE (putL l x) = 0 ∧ findV (putL l x) v = if x.1 ≤ v ∧ v - x.1 < x.2.2 then x.2.1 + v - x.1 else findV l v := by
  obtain ⟨e, g1, g2⟩ := putL_ok h
  obtain ⟨k1, k2, k3⟩ := putE_zero.1 h
  have f1 := findE_zero.2 ⟨g1, h0, h1⟩
  have f2 := findE_zero.2 ⟨k1, h0, h1⟩
  refine ⟨f1, f2, checkE_ok g1, ?_⟩
  unfold findV at_
  rw [if_pos f1, if_pos f2, g2 v]
  by_cases c : x.1 ≤ v ∧ v < x.1 + x.2.2
  · rw [if_pos c, if_pos (by omega)]; rfl
  · rw [if_neg c, if_neg (by omega)]

theorem cut_law {l : List Ext} {a n : Int} (h : cutE l a n = 0) {v : Int} (h0 : 0 ≤ v) (h1 : v < 65536) : findE (cutL l a n) v = 0 ∧ findE l v = 0 ∧ checkE (cutL l a n) = 0 ∧ findV (cutL l a n) v = if a ≤ v ∧ v - a < n then -1 else findV l v := by
  obtain ⟨e, g1, g2⟩ := cutL_ok h
  obtain ⟨k1, k2, k3⟩ := cutE_zero.1 h
  have f1 := findE_zero.2 ⟨g1, h0, h1⟩
  have f2 := findE_zero.2 ⟨k1, h0, h1⟩
  refine ⟨f1, f2, checkE_ok g1, ?_⟩
  unfold findV at_
  rw [if_pos f1, if_pos f2, g2 v]
  by_cases c : a ≤ v ∧ v < a + n
  · rw [if_pos c, if_pos (by omega)]; rfl
  · rw [if_neg c, if_neg (by omega)]

theorem move_law {l : List Ext} {x : Spn} {t : Int} (h : moveE l x t = 0) {v : Int} (h0 : 0 ≤ v) (h1 : v < 65536) : findE (moveL l x t) v = 0 ∧ findE l v = 0 ∧ checkE (moveL l x t) = 0 ∧ -1 ≤ findV l v ∧ findV l v < 65536 ∧ findV (moveL l x t) v = if x.1 ≤ findV l v ∧ findV l v - x.1 < x.2 then t + findV l v - x.1 else findV l v := by
  obtain ⟨e, g1, g2⟩ := moveL_ok h
  obtain ⟨k1, k2, k3⟩ := moveE_zero.1 h
  have f1 := findE_zero.2 ⟨g1, h0, h1⟩
  have f2 := findE_zero.2 ⟨k1, h0, h1⟩
  have hx := k2.2.1
  unfold Fits at hx
  unfold findV at_
  rw [if_pos f1, if_pos f2, g2 v]
  cases hp : get l v with
  | none =>
    simp only [Option.map_none, Option.getD_none]
    rw [if_neg (by omega)]
    exact ⟨f1, f2, checkE_ok g1, by omega, by omega, rfl⟩
  | some p =>
    have hv := k1.good.vals v p hp
    simp only [Option.map_some, Option.getD_some, moved]
    refine ⟨f1, f2, checkE_ok g1, by omega, by omega, ?_⟩
    by_cases c : x.1 ≤ p ∧ p < x.1 + x.2
    · rw [if_pos c, if_pos (by omega)]
    · rw [if_neg c, if_neg (by omega)]

/-- Put twice, or cut twice, is as once. -/
theorem put_twice {l : List Ext} {x : Ext} (h : putE l x = 0) : putE (putL l x) x = 0 ∧ putL (putL l x) x = putL l x := by
  obtain ⟨e, g1, g2⟩ := putL_ok h
  obtain ⟨k1, k2, k3⟩ := putE_zero.1 h
  obtain ⟨w1, w2⟩ := put_ok g1.good k2
  have eq : put (putL l x) x = putL l x := good_unique w1 g1.good (fun u => by
    rw [w2 u, g2 u]
    by_cases c : x.1 ≤ u ∧ u < x.1 + x.2.2
    · rw [if_pos c, if_pos c]
    · rw [if_neg c, if_neg c])
  have hE : putE (putL l x) x = 0 := putE_zero.2 ⟨g1, k2, by rw [eq]; exact g1.1⟩
  exact ⟨hE, by rw [show putL (putL l x) x = put (putL l x) x from if_pos hE, eq]⟩

theorem cut_put {l : List Ext} {x : Ext} (h : putE l x = 0) (hc : cutE (putL l x) x.1 x.2.2 = 0) (hd : cutE l x.1 x.2.2 = 0) : cutL (putL l x) x.1 x.2.2 = cutL l x.1 x.2.2 := by
  obtain ⟨-, g1, g2⟩ := putL_ok h
  obtain ⟨-, c1, c2⟩ := cutL_ok hc
  obtain ⟨-, d1, d2⟩ := cutL_ok hd
  refine good_unique c1.good d1.good (fun u => ?_)
  rw [c2 u, d2 u, g2 u]
  by_cases c : x.1 ≤ u ∧ u < x.1 + x.2.2
  · rw [if_pos c, if_pos c]
  · rw [if_neg c, if_neg c, if_neg c]

theorem cut_twice {l : List Ext} {v n : Int} (h : cutE l v n = 0) : cutE (cutL l v n) v n = 0 ∧ cutL (cutL l v n) v n = cutL l v n := by
  obtain ⟨e, g1, g2⟩ := cutL_ok h
  obtain ⟨k1, k2, k3⟩ := cutE_zero.1 h
  obtain ⟨w1, w2⟩ := without_ok g1.good v n
  have eq : without (cutL l v n) v n = cutL l v n := good_unique w1 g1.good (fun u => by
    rw [w2 u, g2 u]
    by_cases c : v ≤ u ∧ u < v + n
    · rw [if_pos c, if_pos c]
    · rw [if_neg c])
  have hE : cutE (cutL l v n) v n = 0 := cutE_zero.2 ⟨g1, k2, by rw [eq]; exact g1.1⟩
  exact ⟨hE, by rw [show cutL (cutL l v n) v n = without (cutL l v n) v n from if_pos hE, eq]⟩

/-- What moved away and back again, to a place where nothing stood, is the map that was. -/
theorem move_back {l : List Ext} {x : Spn} {t : Int} (h : moveE l x t = 0) (hn : ∀ e ∈ l, ¬ (e.2.1 < t + x.2 ∧ t < e.2.1 + e.2.2)) : moveE (moveL l x t) (t, x.2) x.1 = 0 ∧ moveL (moveL l x t) (t, x.2) x.1 = l := by
  obtain ⟨e, g1, g2⟩ := moveL_ok h
  obtain ⟨k1, k2, k3⟩ := moveE_zero.1 h
  obtain ⟨s1, s2, s3⟩ := k2
  obtain ⟨w1, w2⟩ := move_ok g1.good (a := t) (n := x.2) (t := x.1) s2
  have free : ∀ v p, get l v = some p → ¬ (t ≤ p ∧ p < t + x.2) := by
    intro v p hp hc
    obtain ⟨y, hy, y1, y2, rfl⟩ := get_mem hp
    have ho := good_phys k1.good hy
    unfold One Fits at ho
    apply hn y hy
    unfold val at hc
    rw [if_neg (by omega)] at hc
    omega
  have eq : move (moveL l x t) t x.2 x.1 = l := good_unique w1 k1.good (fun u => by
    rw [w2 u, g2 u]
    cases hp : get l u with
    | none => rfl
    | some p =>
      simp only [Option.map_some]
      congr 1
      have := free u p hp
      unfold moved
      by_cases c : x.1 ≤ p ∧ p < x.1 + x.2
      · rw [if_pos c, if_pos (by omega)]; omega
      · rw [if_neg c, if_neg this])
  have hE : moveE (moveL l x t) (t, x.2) x.1 = 0 := moveE_zero.2 ⟨g1, ⟨s1, s3, s2⟩, by show (move (moveL l x t) t x.2 x.1).length ≤ 1024; rw [eq]; exact k1.1⟩
  exact ⟨hE, by rw [show moveL (moveL l x t) (t, x.2) x.1 = move (moveL l x t) t x.2 x.1 from if_pos hE, eq]⟩

/-- Pieces that have all sectors from a to b stand one behind the other. -/
theorem pieces : ∀ {ps : List Ext} {a b : Int}, From a ps → (∀ u, (∃ p, get ps u = some p) ↔ a ≤ u ∧ u < b) → a ≤ b →
    match ps with
    | [] => a = b
    | x :: l => x.1 = a ∧ 1 ≤ x.2.2 ∧ a + x.2.2 ≤ b ∧ get ps a = some (val x a) ∧ get ps (a + x.2.2 - 1) = some (val x (a + x.2.2 - 1)) ∧ From (a + x.2.2) l ∧ (∀ u, (∃ p, get l u = some p) ↔ a + x.2.2 ≤ u ∧ u < b) ∧ ∀ u, a + x.2.2 ≤ u → get ps u = get l u
  | [], a, b, _, h, hab => by
    by_cases c : a = b
    · exact c
    · obtain ⟨p, hp⟩ := (h a).2 ⟨by omega, by omega⟩
      cases hp
  | x :: l, a, b, ⟨h1, h2, h3, h4⟩, h, hab => by
    have hx1 : x.1 = a := by
      by_cases c : x.1 = a
      · exact c
      · have hx : ∃ p, get (x :: l) x.1 = some p := ⟨_, by simp only [get]; rw [if_pos (by omega)]⟩
        have := (h x.1).1 hx
        obtain ⟨p, hp⟩ := (h a).2 ⟨by omega, by omega⟩
        simp only [get] at hp
        rw [if_neg (by omega), get_low h4.loose (by omega)] at hp
        cases hp
    have hend : ∃ p, get (x :: l) (x.1 + x.2.2 - 1) = some p := ⟨_, by simp only [get]; rw [if_pos (by omega)]⟩
    have hb := (h _).1 hend
    have up : ∀ u, a + x.2.2 ≤ u → get (x :: l) u = get l u := fun u hu => by simp only [get]; rw [if_neg (by omega)]
    refine ⟨hx1, h2, by omega, by simp only [get]; rw [if_pos (by omega)], by simp only [get]; rw [if_pos (by omega)], by rw [← hx1]; exact h4, fun u => ?_, up⟩
    constructor
    · rintro ⟨p, hp⟩
      by_cases c : a + x.2.2 ≤ u
      · exact ⟨c, ((h u).1 ⟨p, by rw [up u c]; exact hp⟩).2⟩
      · rw [get_low h4.loose (by omega)] at hp
        cases hp
    · rintro ⟨c1, c2⟩
      obtain ⟨p, hp⟩ := (h u).2 ⟨by omega, c2⟩
      exact ⟨p, by rw [← up u c1]; exact hp⟩

end Go.Proofs.Ytinlgoljaiolnab.Ex
