/-
  Plain functions: maps of extents, pieces of them, and what they are sector by sector. It imports no program. Conditions: those that each lemma names.
-/
import Derived.Test.YtinlgoljaiolnabRep
namespace Go.Proofs.Ytinlgoljaiolnab
set_option linter.unusedVariables false

abbrev Ext := Int × Int × Int
abbrev Spn := Int × Int

def rExt : Rep Ext := rPair rInt (rPair rInt rInt)
def rExts : Rep (List Ext) := rList rExt (by decide)
def rSpn : Rep Spn := rPair rInt rInt
def rSpns : Rep (List Spn) := rList rSpn (by decide)

namespace Ex

/-- What a piece says of a sector that it has. -/
def val (x : Ext) (v : Int) : Int := if x.2.1 = -1 then -1 else x.2.1 + v - x.1

/-- What a list of pieces says of a sector; none, if no piece has it. -/
def get : List Ext → Int → Option Int
  | [], _ => none
  | x :: l, v => if x.1 ≤ v ∧ v < x.1 + x.2.2 then some (val x v) else get l v

/-- Could two pieces, one behind the other, be one? -/
abbrev Joins (x y : Ext) : Prop := x.1 + x.2.2 = y.1 ∧ (x.2.1 = -1 ∧ y.2.1 = -1 ∨ x.2.1 ≠ -1 ∧ y.2.1 ≠ -1 ∧ x.2.1 + x.2.2 = y.2.1)

/-- Pieces in order, from b on. -/
def From : Int → List Ext → Prop
  | _, [] => True
  | b, x :: l => b ≤ x.1 ∧ 1 ≤ x.2.2 ∧ -1 ≤ x.2.1 ∧ From (x.1 + x.2.2) l

/-- .. of which some may be empty. -/
def Loose : Int → List Ext → Prop
  | _, [] => True
  | b, x :: l => b ≤ x.1 ∧ 0 ≤ x.2.2 ∧ -1 ≤ x.2.1 ∧ Loose (x.1 + x.2.2) l

/-- No two neighbours that could be one. -/
def Sep : List Ext → Prop
  | x :: y :: l => ¬ Joins x y ∧ Sep (y :: l)
  | _ => True

/-- Where the last piece ends. -/
def last : Int → List Ext → Int
  | b, [] => b
  | _, x :: l => last (x.1 + x.2.2) l

theorem From.loose : ∀ {l : List Ext} {b : Int}, From b l → Loose b l
  | [], _, _ => trivial
  | _ :: _, _, ⟨h1, h2, h3, h4⟩ => ⟨h1, by omega, h3, h4.loose⟩

theorem From.weaken : ∀ {l : List Ext} {b c : Int}, From b l → c ≤ b → From c l
  | [], _, _, _, _ => trivial
  | _ :: _, _, _, ⟨h1, h2, h3, h4⟩, h => ⟨by omega, h2, h3, h4⟩

theorem Loose.weaken : ∀ {l : List Ext} {b c : Int}, Loose b l → c ≤ b → Loose c l
  | [], _, _, _, _ => trivial
  | _ :: _, _, _, ⟨h1, h2, h3, h4⟩, h => ⟨by omega, h2, h3, h4⟩

theorem Loose.last : ∀ {l : List Ext} {b : Int}, Loose b l → b ≤ Ex.last b l
  | [], _, _ => Int.le_refl _
  | x :: l, b, ⟨h1, h2, _, h4⟩ => by have := h4.last; simp only [Ex.last]; omega

theorem last_append : ∀ (l m : List Ext) (b : Int), last b (l ++ m) = last (last b l) m
  | [], _, _ => rfl
  | x :: l, m, b => last_append l m _

theorem From_append : ∀ {l m : List Ext} {b : Int}, From b (l ++ m) ↔ From b l ∧ From (last b l) m
  | [], m, b => by simp [From, last]
  | x :: l, m, b => by
    simp only [List.cons_append, From, last]
    rw [From_append]
    constructor
    · rintro ⟨h1, h2, h3, h4, h5⟩; exact ⟨⟨h1, h2, h3, h4⟩, h5⟩
    · rintro ⟨⟨h1, h2, h3, h4⟩, h5⟩; exact ⟨h1, h2, h3, h4, h5⟩

theorem Loose_append : ∀ {l m : List Ext} {b : Int}, Loose b (l ++ m) ↔ Loose b l ∧ Loose (last b l) m
  | [], m, b => by simp [Loose, last]
  | x :: l, m, b => by
    simp only [List.cons_append, Loose, last]
    rw [Loose_append]
    constructor
    · rintro ⟨h1, h2, h3, h4, h5⟩; exact ⟨⟨h1, h2, h3, h4⟩, h5⟩
    · rintro ⟨⟨h1, h2, h3, h4⟩, h5⟩; exact ⟨h1, h2, h3, h4, h5⟩

theorem get_append : ∀ (l m : List Ext) (v : Int), get (l ++ m) v = (get l v).or (get m v)
  | [], _, _ => rfl
  | x :: l, m, v => by
    simp only [List.cons_append, get]
    split
    · rfl
    · exact get_append l m v

theorem get_low : ∀ {l : List Ext} {b : Int}, Loose b l → ∀ {v : Int}, v < b → get l v = none
  | [], _, _, _, _ => rfl
  | x :: l, b, ⟨h1, h2, _, h4⟩, v, hv => by
    simp only [get]
    rw [if_neg (by omega)]
    exact get_low h4 (by omega)

theorem get_high : ∀ {l : List Ext} {b : Int}, Loose b l → ∀ {v : Int}, last b l ≤ v → get l v = none
  | [], _, _, _, _ => rfl
  | x :: l, b, ⟨h1, h2, _, h4⟩, v, hv => by
    have h5 := h4.last
    simp only [last] at hv
    simp only [get]
    rw [if_neg (by omega)]
    exact get_high h4 hv

/-- Lists of pieces that say the same are one, where no two neighbours could be one. -/
theorem unique : ∀ {l m : List Ext} {b : Int}, From b l → Sep l → From b m → Sep m → (∀ v, get l v = get m v) → l = m
  | [], [], _, _, _, _, _, _ => rfl
  | [], y :: m, b, _, _, ⟨h1, h2, _, _⟩, _, h => by
    have := h y.1
    simp only [get] at this
    rw [if_pos (by omega)] at this
    cases this
  | x :: l, [], b, ⟨h1, h2, _, _⟩, _, _, _, h => by
    have := h x.1
    simp only [get] at this
    rw [if_pos (by omega)] at this
    cases this
  | x :: l, y :: m, b, ⟨a1, a2, a3, a4⟩, sl, ⟨b1, b2, b3, b4⟩, sm, h => by
    -- they begin at one place
    have e1 : x.1 = y.1 := by
      rcases Int.lt_trichotomy x.1 y.1 with g | g | g
      · have := h x.1
        simp only [get] at this
        rw [if_pos (by omega), if_neg (by omega), get_low b4.loose (by omega)] at this
        cases this
      · exact g
      · have := h y.1
        simp only [get] at this
        rw [if_neg (by omega), if_pos (by omega), get_low a4.loose (by omega)] at this
        cases this
    -- and stand at one place
    have e2 : x.2.1 = y.2.1 := by
      have := h x.1
      simp only [get] at this
      rw [if_pos (by omega), if_pos (by omega)] at this
      simp only [Option.some.injEq, val] at this
      rw [e1] at this
      split at this <;> split at this <;> omega
    -- no one is the longer one
    have longer : ∀ {x y : Ext} {l m : List Ext}, 1 ≤ x.2.2 → -1 ≤ x.2.1 → From (x.1 + x.2.2) l → Sep (x :: l) → x.1 = y.1 → x.2.1 = y.2.1 → (∀ v, get (x :: l) v = get (y :: m) v) → ¬ x.2.2 < y.2.2 := by
      intro x y l m g1 g2 g3 gs f1 f2 gh hlt
      have t := gh (x.1 + x.2.2)
      simp only [get] at t
      rw [if_neg (by omega), if_pos (by omega)] at t
      match l, g3, gs, t with
      | [], _, _, t => cases t
      | z :: l, ⟨k1, k2, k3, k4⟩, ⟨gj, _⟩, t =>
        simp only [get] at t
        by_cases hz : z.1 = x.1 + x.2.2
        · rw [if_pos (by omega)] at t
          simp only [Option.some.injEq, val] at t
          apply gj
          unfold Joins
          refine ⟨by omega, ?_⟩
          split at t <;> split at t <;> omega
        · rw [if_neg (by omega), get_low k4.loose (by omega)] at t
          cases t
    have l1 := longer a2 a3 a4 sl e1 e2 h
    have l2 := longer b2 b3 b4 sm e1.symm e2.symm (fun v => (h v).symm)
    have e3 : x.2.2 = y.2.2 := by omega
    have e : x = y := Prod.ext e1 (Prod.ext e2 e3)
    subst e
    have sl' : Sep l := by
      cases l with
      | nil => trivial
      | cons z l => exact sl.2
    have sm' : Sep m := by
      cases m with
      | nil => trivial
      | cons z m => exact sm.2
    congr 1
    refine unique a4 sl' b4 sm' (fun v => ?_)
    have := h v
    simp only [get] at this
    by_cases hv : x.1 ≤ v ∧ v < x.1 + x.2.2
    · rw [get_low a4.loose (by omega), get_low b4.loose (by omega)]
    · rw [if_neg hv, if_neg hv] at this
      exact this

/-- A piece put behind others: it goes on with the last one, or is a new one. -/
def add (l : List Ext) (x : Ext) : List Ext :=
  if x.2.2 < 1 then l else
  match l.getLast? with
  | none => [x]
  | some y => if Joins y x then l.dropLast ++ [(y.1, y.2.1, y.2.2 + x.2.2)] else l ++ [x]

def addAll (l : List Ext) (ps : List Ext) : List Ext := ps.foldl add l

theorem Sep_snoc : ∀ {l : List Ext} {y x : Ext}, Sep (l ++ [y]) → ¬ Joins y x → Sep (l ++ [y, x])
  | [], y, x, _, h => ⟨h, trivial⟩
  | [z], y, x, ⟨h1, _⟩, h => ⟨h1, h, trivial⟩
  | z :: u :: l, y, x, ⟨h1, h2⟩, h => ⟨h1, Sep_snoc (l := u :: l) h2 h⟩

theorem Sep_last : ∀ {l : List Ext} {y z : Ext}, Sep (l ++ [y]) → (∀ u, Joins u z → Joins u y) → Sep (l ++ [z])
  | [], y, z, _, _ => trivial
  | [u], y, z, ⟨h1, _⟩, h => ⟨fun g => h1 (h u g), trivial⟩
  | u :: t :: l, y, z, ⟨h1, h2⟩, h => ⟨h1, Sep_last (l := t :: l) h2 h⟩

theorem Sep_front : ∀ {l m : List Ext}, Sep (l ++ m) → Sep l
  | [], _, _ => trivial
  | [_], _, _ => trivial
  | x :: y :: l, m, ⟨h1, h2⟩ => ⟨h1, Sep_front (l := y :: l) h2⟩

/-- What 'add' makes of pieces in order. -/
theorem add_ok {l : List Ext} {x : Ext} {b : Int} (hl : From b l) (hs : Sep l) (h1 : last b l ≤ x.1) (h2 : 0 ≤ x.2.2) (h3 : -1 ≤ x.2.1) :
    From b (add l x) ∧ Sep (add l x) ∧ last b (add l x) ≤ x.1 + x.2.2 ∧ ∀ v, get (add l x) v = (get l v).or (get [x] v) := by
  unfold add
  by_cases h0 : x.2.2 < 1
  · rw [if_pos h0]
    refine ⟨hl, hs, by omega, fun v => ?_⟩
    have : get [x] v = none := by simp only [get]; rw [if_neg (by omega)]
    rw [this, Option.or_none]
  · rw [if_neg h0]
    rcases List.eq_nil_or_concat l with rfl | ⟨m, y, rfl⟩
    · simp only [List.getLast?_nil]
      exact ⟨⟨h1, by omega, h3, trivial⟩, trivial, by simp [last], fun v => rfl⟩
    · rw [List.concat_eq_append] at hl hs h1 ⊢
      simp only [List.getLast?_append, List.getLast?_singleton, Option.some_or]
      obtain ⟨f1, f2, f3, f4, -⟩ := From_append.1 hl
      rw [last_append] at h1
      simp only [last] at h1
      by_cases hj : Joins y x
      · rw [if_pos hj]
        have hd : (m ++ [y]).dropLast = m := by simp
        rw [hd]
        refine ⟨From_append.2 ⟨f1, f2, by show 1 ≤ y.2.2 + x.2.2; omega, f4, trivial⟩, Sep_last hs ?_, ?_, fun v => ?_⟩
        · intro u hu
          unfold Joins at hu ⊢
          exact hu
        · rw [last_append]; simp only [last]; have := hj.1; omega
        · rw [get_append, get_append]
          cases get m v with
          | some p => rfl
          | none =>
            simp only [Option.none_or, get, val]
            obtain ⟨j1, j2⟩ := hj
            by_cases c1 : y.1 ≤ v ∧ v < y.1 + y.2.2
            · rw [if_pos (by omega), if_pos c1, Option.some_or]
            · rw [if_neg c1, Option.none_or]
              by_cases c2 : x.1 ≤ v ∧ v < x.1 + x.2.2
              · rw [if_pos (by omega), if_pos c2]
                congr 1
                split <;> split <;> omega
              · rw [if_neg (by omega), if_neg c2]
      · rw [if_neg hj]
        refine ⟨From_append.2 ⟨hl, ?_, by omega, h3, trivial⟩, ?_, ?_, fun v => get_append _ _ v⟩
        · rw [last_append]; exact h1
        · rw [List.append_assoc]; exact Sep_snoc hs hj
        · rw [last_append]; simp [last]

theorem addAll_ok : ∀ {ps l : List Ext} {b c : Int}, From b l → Sep l → last b l ≤ c → Loose c ps →
    From b (addAll l ps) ∧ Sep (addAll l ps) ∧ last b (addAll l ps) ≤ last c ps ∧ ∀ v, get (addAll l ps) v = (get l v).or (get ps v)
  | [], l, b, c, hl, hs, hc, _ => ⟨hl, hs, hc, fun v => by simp [addAll, get]⟩
  | x :: ps, l, b, c, hl, hs, hc, ⟨h1, h2, h3, h4⟩ => by
    obtain ⟨a1, a2, a3, a4⟩ := add_ok hl hs (show last b l ≤ x.1 by omega) h2 h3
    obtain ⟨r1, r2, r3, r4⟩ := addAll_ok (ps := ps) a1 a2 a3 h4
    refine ⟨r1, r2, r3, fun v => ?_⟩
    have := r4 v
    rw [a4 v, Option.or_assoc] at this
    rw [show addAll l (x :: ps) = addAll (add l x) ps from rfl, this]
    congr 1
    simp only [get]
    split <;> simp

/-- Pieces in order, made as few as can be. -/
theorem tidy {ps : List Ext} {b : Int} (h : Loose b ps) : From b (addAll [] ps) ∧ Sep (addAll [] ps) ∧ last b (addAll [] ps) ≤ last b ps ∧ ∀ v, get (addAll [] ps) v = get ps v :=
  addAll_ok (l := []) (b := b) trivial trivial (Int.le_refl _) h

theorem addAll_append (l a b : List Ext) : addAll l (a ++ b) = addAll (addAll l a) b := by simp [addAll]

end Ex
end Go.Proofs.Ytinlgoljaiolnab
