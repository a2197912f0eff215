/-
  Facts that the proof rests on, part 2. Conditions: those that each of them names.
-/
import Derived.ChangeArms
import Derived.DataReads
import Derived.Deep.Slices
import Derived.OpenShut
import Derived.ProofKit
import Derived.SizedLaws
import Derived.Test.YtinlgoljaiolnaaBK00
namespace Go.Proofs.Ytinlgoljaiolnaa
open Go.ChangeShapes Go.WideShapes Go.ChangeAt Go.RowKit Go.Deep
set_option linter.unusedVariables false
def Opens {α : Type} (Pr : Program) (t : TypeId) (A : Rep α) : Prop :=
  ∀ (H : Type) (enc : TypeId × Value → H) (w : World) (fuel : Nat) (cs : List Value) (d : DataW H) (ps : List MemPlace),
    DataW.trod enc Pr w 0 (fun _ => true) true fuel t cs = some (d, ps) → (∀ k ∈ d.weights Pr t, k ≤ reachBytes) → ∃ x : α, A.rd w (fun _ => True) cs x
theorem opens_int {Pr : Program} {t : TypeId} (ht : Pr.underlying t = some (.int .i64)) : Opens Pr t rInt := by
  intro H enc w fuel cs d ps h _
  obtain ⟨n, rfl, _, hw⟩ := DataW.trod_int ht h
  have := bounds_i64 hw
  exact ⟨n, rfl, by omega, by omega⟩
theorem weights_all {H : Type} {Pr : Program} {e : TypeId} {l : List (DataW H)} {d : DataW H} (hd : d ∈ l) : ∀ k ∈ d.weights Pr e, k ∈ DataW.weightsAll Pr e l := by
  induction l with
  | nil => cases hd
  | cons a l ih =>
    intro k hk
    simp only [DataW.weightsAll, List.mem_append]
    rcases List.mem_cons.1 hd with rfl | h
    · exact .inl hk
    · exact .inr (ih h k hk)
theorem exists_list {α : Type} {Q : Nat → α → Prop} : ∀ (n : Nat), (∀ i, i < n → ∃ x, Q i x) → ∃ l : List α, l.length = n ∧ ∀ (i : Nat) (h : i < l.length), Q i l[i]
  | 0, _ => ⟨[], rfl, fun i h => by simp at h⟩
  | n + 1, h => by
    obtain ⟨l, hl, hq⟩ := exists_list n (fun i hi => h i (by omega))
    obtain ⟨x, hx⟩ := h n (by omega)
    refine ⟨l ++ [x], by simp [hl], fun i hi => ?_⟩
    by_cases hin : i < l.length
    · rw [List.getElem_append_left hin]; exact hq i hin
    · have e : i = n := by simp at hi; omega
      subst e
      rw [List.getElem_append_right (by omega)]
      simpa [hl] using hx
theorem opens_list {α : Type} {Pr : Program} {t e : TypeId} {A : Rep α} {hs : 0 < A.size} (ht : Pr.underlying t = some (.slice e)) (hc : Pr.cellsOf e = A.size) (hb : Pr.bytesOf e = A.bytes) (hA : Opens Pr e A) : Opens Pr t (rList A hs) := by
  intro H enc w fuel cs d ps h hw
  rcases open_slice ht h with ⟨rfl, hx⟩ | ⟨a, len, cap, m, n, D, Pl, rfl, _, hl, hm, hmm, hx, hel⟩
  · exact ⟨[], none, 0, 0, rfl, rfl, Nat.le_refl _, fun _ => rfl, by simp, fun x hx => by cases hx⟩
  · simp only [if_true] at hmm
    subst hmm
    simp only [Prod.mk.injEq] at hx
    obtain ⟨rfl, _⟩ := hx
    have hwt : (len + (m - len)) * A.bytes ≤ reachBytes := by
      have := hw ((len + (m - len)) * A.bytes) (by simp [DataW.weights, ht, hb])
      exact this
    have hbound : len * A.bytes ≤ 140737488351232 := by
      have : len * A.bytes ≤ (len + (m - len)) * A.bytes := Nat.mul_le_mul_right _ (by omega)
      unfold reachBytes at hwt
      omega
    have each : ∀ i, i < len → ∃ x : α, ∃ cj, A.rd w (fun _ => True) cj x ∧ ∀ (k : Nat) (v : Value), cj[k]? = some v → w.cell? (a.add (i * A.size + k)) = some v := by
      intro i hi
      obtain ⟨cs', h1, h2⟩ := hel i (by omega)
      obtain ⟨x, hx⟩ := hA H enc w n cs' (D i) (Pl i) h2 (fun k hk => hw k (by
        simp only [DataW.weights, ht, List.mem_cons, List.mem_append]
        exact .inr (.inl (weights_all (List.mem_map.2 ⟨i, List.mem_range.2 hi, rfl⟩) k hk))))
      refine ⟨x, cs', hx, fun k v hv => ?_⟩
      rw [hc] at h1
      obtain ⟨_, g1, g2⟩ := World.cells?_some h1
      have hk : k < A.size := by have := (List.getElem?_eq_some_iff.1 hv).1; rw [A.len hx] at this; exact this
      have := g2 k hk
      rw [Addr.add_add] at this
      rw [this, hv]
    obtain ⟨l, hlen, hl'⟩ := exists_list len each
    refine ⟨l, some a, len, m, rfl, hlen, hl, (fun (h : some _ = none) => by cases h), hbound, fun x hx j hj => ?_⟩
    simp only [Option.some.injEq] at hx
    subst hx
    exact ⟨trivial, hl' j hj⟩
def OpensTail {α : Type} (Pr : Program) (fs : List Field) (off : Nat) (A : Rep α) : Prop :=
  ∀ (H : Type) (enc : TypeId × Value → H) (w : World) (n : Nat) (cs : List Value) (xs : List (DataW H × List MemPlace)), xs.length = fs.length → cs.length = off + A.size →
    (∀ (i : Nat) (f : Field), fs[i]? = some f → DataW.trod enc Pr w 0 (fun _ => true) true n f.type ((cs.drop f.offset).take (Pr.cellsOf f.type)) = xs[i]?) →
    (∀ k ∈ DataW.weightsEach Pr (fs.map (·.type)) (xs.map (·.1)), k ≤ reachBytes) → ∃ x : α, A.rd w (fun _ => True) (cs.drop off) x
theorem opens_last {α : Type} {Pr : Program} {f : Field} {off : Nat} {A : Rep α} (ho : f.offset = off) (hc : Pr.cellsOf f.type = A.size) (hA : Opens Pr f.type A) : OpensTail Pr [f] off A := by
  intro H enc w n cs xs hl hcs hf hw
  match xs, hl with
  | [x], _ =>
    have h0 := hf 0 f rfl
    rw [ho, hc, List.take_of_length_le (by rw [List.length_drop]; omega)] at h0
    simp only [List.getElem?_cons_zero] at h0
    exact hA H enc w n _ x.1 x.2 h0 (fun k hk => hw k (by simpa [DataW.weightsEach] using hk))
theorem opens_field {α β : Type} {Pr : Program} {f : Field} {fs : List Field} {off : Nat} {A : Rep α} {B : Rep β} (ho : f.offset = off) (hc : Pr.cellsOf f.type = A.size) (hA : Opens Pr f.type A) (hB : OpensTail Pr fs (off + A.size) B) :
    OpensTail Pr (f :: fs) off (rPair A B) := by
  intro H enc w n cs xs hl hcs hf hw
  match xs, hl with
  | x :: xs, hl =>
    have h0 := hf 0 f rfl
    rw [ho, hc] at h0
    simp only [List.getElem?_cons_zero] at h0
    have hcs' : cs.length = off + A.size + B.size := by rw [hcs]; show off + (A.size + B.size) = _; omega
    obtain ⟨y, hy⟩ := hA H enc w n _ x.1 x.2 h0 (fun k hk => hw k (by simp only [List.map_cons, DataW.weightsEach, List.mem_append]; exact .inl hk))
    obtain ⟨z, hz⟩ := hB H enc w n cs xs (by simpa using hl) hcs' (fun i g hg => by simpa using hf (i + 1) g (by simpa using hg))
      (fun k hk => hw k (by simp only [List.map_cons, DataW.weightsEach, List.mem_append]; exact .inr hk))
    refine ⟨(y, z), _, _, ?_, hy, hz⟩
    rw [← List.drop_drop, List.take_append_drop]
theorem opens_struct {α : Type} {Pr : Program} {t : TypeId} {fs : Array Field} {A : Rep α} (ht : Pr.underlying t = some (.struct fs)) (hc : Pr.cellsOf t = A.size) (hA : OpensTail Pr fs.toList 0 A) : Opens Pr t A := by
  intro H enc w fuel cs d ps h hw
  obtain ⟨xs, n, _, hx, hl, hlen, hf⟩ := DataW.trod_struct ht h
  simp only [Prod.mk.injEq] at hx
  obtain ⟨rfl, _⟩ := hx
  obtain ⟨x, hx⟩ := hA H enc w n cs xs (by simpa using hlen) (by rw [hl, hc]; omega) (fun i f hi => hf i f (by simpa using hi)) (fun k hk => hw k (by simpa [DataW.weights, ht] using hk))
  exact ⟨x, by simpa using hx⟩
theorem Opens.arg {α : Type} {Pr : Program} {t : TypeId} {A : Rep α} (hA : Opens Pr t A) {H : Type} {enc : TypeId × Value → H} {w : World} {v : Value} {d : DataW H} {ps : List MemPlace}
    (h : DataW.Trod enc Pr w 0 (fun _ => true) true t v d ps) {ts : List TypeId} {ds : List (DataW H)} (hw : (DataW.weightsEach Pr ts ds).all (· ≤ reachBytes) = true) {j : Nat} (ht : ts[j]? = some t) (hd : ds[j]? = some d) :
    ∃ x : α, A.rd w (fun b => b < w.heap.size) v.cells.toList x := by
  obtain ⟨fuel, hf⟩ := h
  obtain ⟨x, hx⟩ := hA H enc w fuel _ d ps hf (fun k hk => by simpa using List.all_eq_true.1 hw k (DataW.weights_mem_each ht hd k hk))
  exact ⟨x, A.weaken hx (fun b _ hl => hl)⟩
end Go.Proofs.Ytinlgoljaiolnaa
namespace Go.Proofs.Ytinlgoljaiolnaa
set_option linter.unusedVariables false
abbrev Ext := Int × Int × Int
abbrev Spn := Int × Int
def rExt : Rep Ext := rPair rInt (rPair rInt rInt)
def rExts : Rep (List Ext) := rList rExt (by decide)
def rSpn : Rep Spn := rPair rInt rInt
def rSpns : Rep (List Spn) := rList rSpn (by decide)
namespace Ex
def val (x : Ext) (v : Int) : Int := if x.2.1 = -1 then -1 else x.2.1 + v - x.1
def get : List Ext → Int → Option Int
  | [], _ => none
  | x :: l, v => if x.1 ≤ v ∧ v < x.1 + x.2.2 then some (val x v) else get l v
abbrev Joins (x y : Ext) : Prop := x.1 + x.2.2 = y.1 ∧ (x.2.1 = -1 ∧ y.2.1 = -1 ∨ x.2.1 ≠ -1 ∧ y.2.1 ≠ -1 ∧ x.2.1 + x.2.2 = y.2.1)
def From : Int → List Ext → Prop
  | _, [] => True
  | b, x :: l => b ≤ x.1 ∧ 1 ≤ x.2.2 ∧ -1 ≤ x.2.1 ∧ From (x.1 + x.2.2) l
def Loose : Int → List Ext → Prop
  | _, [] => True
  | b, x :: l => b ≤ x.1 ∧ 0 ≤ x.2.2 ∧ -1 ≤ x.2.1 ∧ Loose (x.1 + x.2.2) l
def Sep : List Ext → Prop
  | x :: y :: l => ¬ Joins x y ∧ Sep (y :: l)
  | _ => True
def last : Int → List Ext → Int
  | b, [] => b
  | _, x :: l => last (x.1 + x.2.2) l
theorem From.loose : ∀ {l : List Ext} {b : Int}, From b l → Loose b l
  | [], _, _ => trivial
  | _ :: _, _, ⟨h1, h2, h3, h4⟩ => ⟨h1, by omega, h3, h4.loose⟩
theorem Loose.weaken : ∀ {l : List Ext} {b c : Int}, Loose b l → c ≤ b → Loose c l
  | [], _, _, _, _ => trivial
  | _ :: _, _, _, ⟨h1, h2, h3, h4⟩, h => ⟨by omega, h2, h3, h4⟩
theorem Loose.last : ∀ {l : List Ext} {b : Int}, Loose b l → b ≤ Ex.last b l
  | [], _, _ => Int.le_refl _
  | x :: l, b, ⟨h1, h2, _, h4⟩ => by have := h4.last; simp only [Ex.last]; omega
theorem last_append : ∀ (l m : List Ext) (b : Int), last b (l ++ m) = last (last b l) m
  | [], _, _ => rfl
  | x :: l, m, b => last_append l m _
theorem From_append : ∀ {l m : List Ext} {b : Int}, From b (l ++ m) ↔ From b l ∧ From (last b l) m
  | [], m, b => by simp [From, last]
  | x :: l, m, b => by
    simp only [List.cons_append, From, last]
    rw [From_append]
    constructor
    · rintro ⟨h1, h2, h3, h4, h5⟩; exact ⟨⟨h1, h2, h3, h4⟩, h5⟩
    · rintro ⟨⟨h1, h2, h3, h4⟩, h5⟩; exact ⟨h1, h2, h3, h4, h5⟩
theorem Loose_append : ∀ {l m : List Ext} {b : Int}, Loose b (l ++ m) ↔ Loose b l ∧ Loose (last b l) m
  | [], m, b => by simp [Loose, last]
  | x :: l, m, b => by
    simp only [List.cons_append, Loose, last]
    rw [Loose_append]
    constructor
    · rintro ⟨h1, h2, h3, h4, h5⟩; exact ⟨⟨h1, h2, h3, h4⟩, h5⟩
    · rintro ⟨⟨h1, h2, h3, h4⟩, h5⟩; exact ⟨h1, h2, h3, h4, h5⟩
theorem get_append : ∀ (l m : List Ext) (v : Int), get (l ++ m) v = (get l v).or (get m v)
  | [], _, _ => rfl
  | x :: l, m, v => by
    simp only [List.cons_append, get]
    split
    · rfl
    · exact get_append l m v
theorem get_low : ∀ {l : List Ext} {b : Int}, Loose b l → ∀ {v : Int}, v < b → get l v = none
  | [], _, _, _, _ => rfl
  | x :: l, b, ⟨h1, h2, _, h4⟩, v, hv => by
    simp only [get]
    rw [if_neg (by omega)]
    exact get_low h4 (by omega)
theorem get_high : ∀ {l : List Ext} {b : Int}, Loose b l → ∀ {v : Int}, last b l ≤ v → get l v = none
  | [], _, _, _, _ => rfl
  | x :: l, b, ⟨h1, h2, _, h4⟩, v, hv => by
    have h5 := h4.last
    simp only [last] at hv
    simp only [get]
    rw [if_neg (by omega)]
    exact get_high h4 hv
theorem unique : ∀ {l m : List Ext} {b : Int}, From b l → Sep l → From b m → Sep m → (∀ v, get l v = get m v) → l = m
  | [], [], _, _, _, _, _, _ => rfl
  | [], y :: m, b, _, _, ⟨h1, h2, _, _⟩, _, h => by
    have := h y.1
    simp only [get] at this
    rw [if_pos (by omega)] at this
    cases this
  | x :: l, [], b, ⟨h1, h2, _, _⟩, _, _, _, h => by
    have := h x.1
    simp only [get] at this
    rw [if_pos (by omega)] at this
    cases this
  | x :: l, y :: m, b, ⟨a1, a2, a3, a4⟩, sl, ⟨b1, b2, b3, b4⟩, sm, h => by
    -- they begin at one place
    have e1 : x.1 = y.1 := by
      rcases Int.lt_trichotomy x.1 y.1 with g | g | g
      · have := h x.1
        simp only [get] at this
        rw [if_pos (by omega), if_neg (by omega), get_low b4.loose (by omega)] at this
        cases this
      · exact g
      · have := h y.1
        simp only [get] at this
        rw [if_neg (by omega), if_pos (by omega), get_low a4.loose (by omega)] at this
        cases this
    -- and stand at one place
    have e2 : x.2.1 = y.2.1 := by
      have := h x.1
      simp only [get] at this
      rw [if_pos (by omega), if_pos (by omega)] at this
      simp only [Option.some.injEq, val] at this
      rw [e1] at this
      split at this <;> split at this <;> omega
    -- no one is the longer one
    have longer : ∀ {x y : Ext} {l m : List Ext}, 1 ≤ x.2.2 → -1 ≤ x.2.1 → From (x.1 + x.2.2) l → Sep (x :: l) → x.1 = y.1 → x.2.1 = y.2.1 → (∀ v, get (x :: l) v = get (y :: m) v) → ¬ x.2.2 < y.2.2 := by
      intro x y l m g1 g2 g3 gs f1 f2 gh hlt
      have t := gh (x.1 + x.2.2)
      simp only [get] at t
      rw [if_neg (by omega), if_pos (by omega)] at t
      match l, g3, gs, t with
      | [], _, _, t => cases t
      | z :: l, ⟨k1, k2, k3, k4⟩, ⟨gj, _⟩, t =>
        simp only [get] at t
        by_cases hz : z.1 = x.1 + x.2.2
        · rw [if_pos (by omega)] at t
          simp only [Option.some.injEq, val] at t
          apply gj
          unfold Joins
          refine ⟨by omega, ?_⟩
          split at t <;> split at t <;> omega
        · rw [if_neg (by omega), get_low k4.loose (by omega)] at t
          cases t
    have l1 := longer a2 a3 a4 sl e1 e2 h
    have l2 := longer b2 b3 b4 sm e1.symm e2.symm (fun v => (h v).symm)
    have e3 : x.2.2 = y.2.2 := by omega
    have e : x = y := Prod.ext e1 (Prod.ext e2 e3)
    subst e
    have sl' : Sep l := by
      cases l with
      | nil => trivial
      | cons z l => exact sl.2
    have sm' : Sep m := by
      cases m with
      | nil => trivial
      | cons z m => exact sm.2
    congr 1
    refine unique a4 sl' b4 sm' (fun v => ?_)
    have := h v
    simp only [get] at this
    by_cases hv : x.1 ≤ v ∧ v < x.1 + x.2.2
    · rw [get_low a4.loose (by omega), get_low b4.loose (by omega)]
    · rw [if_neg hv, if_neg hv] at this
      exact this
def add (l : List Ext) (x : Ext) : List Ext :=
  if x.2.2 < 1 then l else
  match l.getLast? with
  | none => [x]
  | some y => if Joins y x then l.dropLast ++ [(y.1, y.2.1, y.2.2 + x.2.2)] else l ++ [x]
def addAll (l : List Ext) (ps : List Ext) : List Ext := ps.foldl add l
theorem Sep_snoc : ∀ {l : List Ext} {y x : Ext}, Sep (l ++ [y]) → ¬ Joins y x → Sep (l ++ [y, x])
  | [], y, x, _, h => ⟨h, trivial⟩
  | [z], y, x, ⟨h1, _⟩, h => ⟨h1, h, trivial⟩
  | z :: u :: l, y, x, ⟨h1, h2⟩, h => ⟨h1, Sep_snoc (l := u :: l) h2 h⟩
theorem Sep_last : ∀ {l : List Ext} {y z : Ext}, Sep (l ++ [y]) → (∀ u, Joins u z → Joins u y) → Sep (l ++ [z])
  | [], y, z, _, _ => trivial
  | [u], y, z, ⟨h1, _⟩, h => ⟨fun g => h1 (h u g), trivial⟩
  | u :: t :: l, y, z, ⟨h1, h2⟩, h => ⟨h1, Sep_last (l := t :: l) h2 h⟩
theorem add_ok {l : List Ext} {x : Ext} {b : Int} (hl : From b l) (hs : Sep l) (h1 : last b l ≤ x.1) (h2 : 0 ≤ x.2.2) (h3 : -1 ≤ x.2.1) :
    From b (add l x) ∧ Sep (add l x) ∧ last b (add l x) ≤ x.1 + x.2.2 ∧ ∀ v, get (add l x) v = (get l v).or (get [x] v) := by
  unfold add
  by_cases h0 : x.2.2 < 1
  · rw [if_pos h0]
    refine ⟨hl, hs, by omega, fun v => ?_⟩
    have : get [x] v = none := by simp only [get]; rw [if_neg (by omega)]
    rw [this, Option.or_none]
  · rw [if_neg h0]
    rcases List.eq_nil_or_concat l with rfl | ⟨m, y, rfl⟩
    · simp only [List.getLast?_nil]
      exact ⟨⟨h1, by omega, h3, trivial⟩, trivial, by simp [last], fun v => rfl⟩
    · rw [List.concat_eq_append] at hl hs h1 ⊢
      simp only [List.getLast?_append, List.getLast?_singleton, Option.some_or]
      obtain ⟨f1, f2, f3, f4, -⟩ := From_append.1 hl
      rw [last_append] at h1
      simp only [last] at h1
      by_cases hj : Joins y x
      · rw [if_pos hj]
        have hd : (m ++ [y]).dropLast = m := by simp
        rw [hd]
        refine ⟨From_append.2 ⟨f1, f2, by show 1 ≤ y.2.2 + x.2.2; omega, f4, trivial⟩, Sep_last hs ?_, ?_, fun v => ?_⟩
        · intro u hu
          unfold Joins at hu ⊢
          exact hu
        · rw [last_append]; simp only [last]; have := hj.1; omega
        · rw [get_append, get_append]
          cases get m v with
          | some p => rfl
          | none =>
            simp only [Option.none_or, get, val]
            obtain ⟨j1, j2⟩ := hj
            by_cases c1 : y.1 ≤ v ∧ v < y.1 + y.2.2
            · rw [if_pos (by omega), if_pos c1, Option.some_or]
            · rw [if_neg c1, Option.none_or]
              by_cases c2 : x.1 ≤ v ∧ v < x.1 + x.2.2
              · rw [if_pos (by omega), if_pos c2]
                congr 1
                split <;> split <;> omega
              · rw [if_neg (by omega), if_neg c2]
      · rw [if_neg hj]
        refine ⟨From_append.2 ⟨hl, ?_, by omega, h3, trivial⟩, ?_, ?_, fun v => get_append _ _ v⟩
        · rw [last_append]; exact h1
        · rw [List.append_assoc]; exact Sep_snoc hs hj
        · rw [last_append]; simp [last]
theorem addAll_ok : ∀ {ps l : List Ext} {b c : Int}, From b l → Sep l → last b l ≤ c → Loose c ps →
    From b (addAll l ps) ∧ Sep (addAll l ps) ∧ last b (addAll l ps) ≤ last c ps ∧ ∀ v, get (addAll l ps) v = (get l v).or (get ps v)
  | [], l, b, c, hl, hs, hc, _ => ⟨hl, hs, hc, fun v => by simp [addAll, get]⟩
  | x :: ps, l, b, c, hl, hs, hc, ⟨h1, h2, h3, h4⟩ => by
    obtain ⟨a1, a2, a3, a4⟩ := add_ok hl hs (show last b l ≤ x.1 by omega) h2 h3
    obtain ⟨r1, r2, r3, r4⟩ := addAll_ok (ps := ps) a1 a2 a3 h4
    refine ⟨r1, r2, r3, fun v => ?_⟩
    have := r4 v
    rw [a4 v, Option.or_assoc] at this
    rw [show addAll l (x :: ps) = addAll (add l x) ps from rfl, this]
    congr 1
    simp only [get]
    split <;> simp
theorem tidy {ps : List Ext} {b : Int} (h : Loose b ps) : From b (addAll [] ps) ∧ Sep (addAll [] ps) ∧ last b (addAll [] ps) ≤ last b ps ∧ ∀ v, get (addAll [] ps) v = get ps v :=
  addAll_ok (l := []) (b := b) trivial trivial (Int.le_refl _) h
theorem addAll_append (l a b : List Ext) : addAll l (a ++ b) = addAll (addAll l a) b := by simp [addAll]
end Ex
end Go.Proofs.Ytinlgoljaiolnaa
namespace Go.Proofs.Ytinlgoljaiolnaa.Ex
set_option linter.unusedVariables false
abbrev Fits (a n : Int) : Prop := 0 ≤ a ∧ 0 ≤ n ∧ a ≤ 65536 ∧ n ≤ 65536 - a
abbrev One (x : Ext) : Prop := 1 ≤ x.2.2 ∧ Fits x.1 x.2.2 ∧ Fits x.2.1 x.2.2
abbrev Behind (x y : Ext) : Prop := x.1 + x.2.2 ≤ y.1 ∧ ¬ (y.1 = x.1 + x.2.2 ∧ y.2.1 = x.2.1 + x.2.2)
def Chain : List Ext → Prop
  | x :: y :: l => Behind x y ∧ Chain (y :: l)
  | _ => True
def Mays (l : List Ext) : Prop := (∀ x ∈ l, One x) ∧ Chain l
def Ok (l : List Ext) : Prop := l.length ≤ 1024 ∧ Mays l
def decChain : (l : List Ext) → Decidable (Chain l)
  | [] => isTrue trivial
  | [_] => isTrue trivial
  | x :: y :: l => by
    have := decChain (y :: l)
    unfold Chain
    exact inferInstance
def decOk (l : List Ext) : Decidable (Ok l) := by
  have := decChain l
  unfold Ok Mays
  exact inferInstance
structure Good (l : List Ext) : Prop where
  from_ : From 0 l
  sep : Sep l
  last : Ex.last 0 l ≤ 65536
  vals : ∀ v p, get l v = some p → 0 ≤ p ∧ p < 65536
theorem last_le : ∀ {l : List Ext} {b c : Int}, b ≤ c → (∀ x ∈ l, x.1 + x.2.2 ≤ c) → Ex.last b l ≤ c
  | [], _, _, h, _ => h
  | x :: l, b, c, h, hx => last_le (l := l) (hx x (by simp)) (fun y hy => hx y (by simp [hy]))
theorem mays_from : ∀ {l : List Ext} {b : Int}, (∀ x ∈ l, One x) → Chain l → (∀ x, l.head? = some x → b ≤ x.1) → From b l ∧ Sep l
  | [], _, _, _, _ => ⟨trivial, trivial⟩
  | [x], b, h, _, hb => by
    obtain ⟨h1, h2, h3⟩ := h x (by simp)
    exact ⟨⟨hb x rfl, h1, by have := h3.1; omega, trivial⟩, trivial⟩
  | x :: y :: l, b, h, hc, hb => by
    obtain ⟨h1, h2, h3⟩ := h x (by simp)
    obtain ⟨g1, g2, g3⟩ := h y (by simp)
    obtain ⟨r1, r2⟩ := mays_from (l := y :: l) (b := x.1 + x.2.2) (fun z hz => h z (by simp only [List.mem_cons] at hz ⊢; exact .inr hz)) hc.2 (fun z hz => by
      simp only [List.head?_cons, Option.some.injEq] at hz
      subst hz
      exact hc.1.1)
    refine ⟨⟨hb x rfl, h1, by have := h3.1; omega, r1⟩, fun hj => hc.1.2 ?_, r2⟩
    obtain ⟨j1, j2⟩ := hj
    have := h3.1
    have := g3.1
    omega
theorem get_mem : ∀ {l : List Ext} {v p : Int}, get l v = some p → ∃ x ∈ l, x.1 ≤ v ∧ v < x.1 + x.2.2 ∧ p = val x v
  | x :: l, v, p, h => by
    simp only [get] at h
    split at h
    · rename_i hc
      simp only [Option.some.injEq] at h
      exact ⟨x, by simp, hc.1, hc.2, h.symm⟩
    · obtain ⟨y, hy, r⟩ := get_mem h
      exact ⟨y, by simp [hy], r⟩
theorem get_of_mem : ∀ {l : List Ext} {b : Int}, From b l → ∀ {x : Ext}, x ∈ l → b ≤ x.1 ∧ 1 ≤ x.2.2 ∧ x.1 + x.2.2 ≤ Ex.last b l ∧ ∀ v, x.1 ≤ v → v < x.1 + x.2.2 → get l v = some (val x v)
  | y :: l, b, ⟨h1, h2, h3, h4⟩, x, hx => by
    have hl := h4.loose.last
    rcases List.mem_cons.1 hx with rfl | hx
    · refine ⟨h1, h2, hl, fun v a c => ?_⟩
      simp only [get]
      rw [if_pos ⟨a, c⟩]
    · obtain ⟨r1, r2, r3, r4⟩ := get_of_mem h4 hx
      refine ⟨by omega, r2, r3, fun v a c => ?_⟩
      simp only [get]
      rw [if_neg (by omega)]
      exact r4 v a c
theorem sep_chain : ∀ {l : List Ext} {b : Int}, From b l → Sep l → (∀ x ∈ l, x.2.1 ≠ -1) → Chain l
  | [], _, _, _, _ => trivial
  | [_], _, _, _, _ => trivial
  | x :: y :: l, b, ⟨h1, h2, h3, h4⟩, hs, hx => by
    refine ⟨⟨h4.1, fun hj => hs.1 ?_⟩, sep_chain (l := y :: l) h4 hs.2 (fun z hz => hx z (by simp only [List.mem_cons] at hz ⊢; exact .inr hz))⟩
    exact ⟨hj.1.symm, .inr ⟨hx x (by simp), hx y (by simp), hj.2.symm⟩⟩
theorem good_iff (l : List Ext) : Mays l ↔ Good l := by
  constructor
  · rintro ⟨h1, h2⟩
    obtain ⟨r1, r2⟩ := mays_from (b := 0) h1 h2 (fun x hx => (h1 x (List.mem_of_mem_head? hx)).2.1.1)
    refine ⟨r1, r2, last_le (by decide) (fun x hx => by have := (h1 x hx).2.1; unfold Fits at this; omega), fun v p hp => ?_⟩
    obtain ⟨x, hx, a, c, rfl⟩ := get_mem hp
    obtain ⟨k1, k2, k3⟩ := h1 x hx
    unfold Fits at k3
    unfold val
    rw [if_neg (by omega)]
    omega
  · rintro ⟨r1, r2, r3, r4⟩
    have each : ∀ x ∈ l, One x := by
      intro x hx
      obtain ⟨k1, k2, k3, k4⟩ := get_of_mem r1 hx
      have a := r4 x.1 _ (k4 x.1 (by omega) (by omega))
      have b := r4 (x.1 + x.2.2 - 1) _ (k4 (x.1 + x.2.2 - 1) (by omega) (by omega))
      unfold val at a b
      unfold One Fits
      split at a
      · omega
      · rename_i hh
        rw [if_neg hh] at b
        omega
    exact ⟨each, sep_chain r1 r2 (fun x hx => by have := (each x hx).2.2.1; omega)⟩
theorem good_unique {l m : List Ext} (hl : Good l) (hm : Good m) (h : ∀ v, get l v = get m v) : l = m := unique hl.from_ hl.sep hm.from_ hm.sep h
def at_ (l : List Ext) (v : Int) : Int := (get l v).getD (-1)
theorem good_phys {l : List Ext} (h : Good l) {x : Ext} (hx : x ∈ l) : One x := ((good_iff l).2 h).1 x hx
theorem good_tidy {ps : List Ext} (h : Loose 0 ps) (hl : Ex.last 0 ps ≤ 65536) (hv : ∀ v p, get ps v = some p → 0 ≤ p ∧ p < 65536) : Good (addAll [] ps) ∧ ∀ v, get (addAll [] ps) v = get ps v := by
  obtain ⟨r1, r2, r3, r4⟩ := tidy h
  exact ⟨⟨r1, r2, by omega, fun v p hp => hv v p (by rw [← r4 v]; exact hp)⟩, r4⟩
theorem flat_last {f : Ext → List Ext} : ∀ {l : List Ext} {b : Int}, (∀ x ∈ l, ∀ c, c ≤ x.1 → Loose c (f x) ∧ Ex.last c (f x) ≤ x.1 + x.2.2) → From b l → Loose b (l.flatMap f) ∧ Ex.last b (l.flatMap f) ≤ Ex.last b l
  | [], b, _, _ => ⟨trivial, Int.le_refl _⟩
  | x :: l, b, hf, ⟨h1, h2, h3, h4⟩ => by
    obtain ⟨a1, a2⟩ := hf x (by simp) b h1
    obtain ⟨r1, r2⟩ := flat_last (l := l) (b := x.1 + x.2.2) (fun y hy => hf y (by simp [hy])) h4
    rw [List.flatMap_cons]
    have mono : ∀ {l : List Ext} {b c : Int}, b ≤ c → Ex.last b l ≤ Ex.last c l := by
      intro l b c hbc
      cases l with
      | nil => exact hbc
      | cons y l => exact Int.le_refl _
    refine ⟨Loose_append.2 ⟨a1, r1.weaken a2⟩, ?_⟩
    rw [last_append]
    exact Int.le_trans (mono a2) r2
theorem flat_get {f : Ext → List Ext} {g : Int → Option Int → Option Int} (hg : ∀ v, g v none = none) : ∀ {l : List Ext} {b : Int}, From b l → (∀ x ∈ l, ∀ v, get (f x) v = g v (get [x] v)) → ∀ v, get (l.flatMap f) v = g v (get l v)
  | [], _, _, _, v => by simp [get, hg]
  | x :: l, b, ⟨h1, h2, h3, h4⟩, hf, v => by
    rw [List.flatMap_cons, get_append, hf x (by simp) v, flat_get hg h4 (fun y hy => hf y (by simp [hy])) v]
    by_cases hv : x.1 ≤ v ∧ v < x.1 + x.2.2
    · have e : get l v = none := get_low h4.loose (by omega)
      rw [e, hg]
      simp only [get]
      rw [if_pos hv, if_pos hv, Option.or_none]
    · simp only [get]
      rw [if_neg hv, if_neg hv, hg, Option.none_or]
def cutOne (v n : Int) (e : Ext) : List Ext :=
  if max e.1 (min (e.1 + e.2.2) (v + n)) ≤ min (e.1 + e.2.2) (max e.1 v) then [e] else
  [(e.1, e.2.1, min (e.1 + e.2.2) (max e.1 v) - e.1), (max e.1 (min (e.1 + e.2.2) (v + n)), e.2.1 + max e.1 (min (e.1 + e.2.2) (v + n)) - e.1, e.1 + e.2.2 - max e.1 (min (e.1 + e.2.2) (v + n)))]
def without (l : List Ext) (v n : Int) : List Ext := addAll [] (l.flatMap (cutOne v n))
theorem cutOne_loose {v n : Int} {e : Ext} (h : One e) (c : Int) (hc : c ≤ e.1) : Loose c (cutOne v n e) ∧ Ex.last c (cutOne v n e) ≤ e.1 + e.2.2 := by
  obtain ⟨h1, h2, h3⟩ := h
  unfold Fits at h2 h3
  unfold cutOne
  split
  · exact ⟨⟨hc, by omega, by omega, trivial⟩, by simp [Ex.last]⟩
  · refine ⟨⟨hc, ?_, ?_, ?_, ?_, ?_, trivial⟩, ?_⟩ <;> simp only [Ex.last] <;> omega
theorem cutOne_get {v n : Int} {e : Ext} (h : One e) (u : Int) : get (cutOne v n e) u = if v ≤ u ∧ u < v + n then none else get [e] u := by
  obtain ⟨h1, h2, h3⟩ := h
  unfold Fits at h2 h3
  unfold cutOne
  by_cases hu : v ≤ u ∧ u < v + n
  · rw [if_pos hu]
    split
    · simp only [get]
      rw [if_neg (by omega)]
    · simp only [get]
      rw [if_neg (by omega), if_neg (by omega)]
  · rw [if_neg hu]
    split
    · rfl
    · simp only [get, val]
      by_cases c1 : e.1 ≤ u ∧ u < e.1 + e.2.2
      · rw [if_pos c1, if_neg (show ¬ e.2.1 = -1 by omega)]
        by_cases c2 : u < v
        · rw [if_pos (by omega)]
        · rw [if_neg (by omega), if_pos (by omega), if_neg (by omega)]
          congr 1
          omega
      · rw [if_neg c1, if_neg (by omega), if_neg (by omega)]
theorem without_ok {l : List Ext} (h : Good l) (v n : Int) : Good (without l v n) ∧ ∀ u, get (without l v n) u = if v ≤ u ∧ u < v + n then none else get l u := by
  have hf := flat_last (f := cutOne v n) (fun x hx c hc => cutOne_loose (good_phys h hx) c hc) h.from_
  have hg := flat_get (f := cutOne v n) (g := fun u o => if v ≤ u ∧ u < v + n then none else o) (fun u => by split <;> rfl) h.from_ (fun x hx u => cutOne_get (good_phys h hx) u)
  have hlast := h.last
  obtain ⟨r1, r2⟩ := good_tidy hf.1 (by omega) (fun u p hp => by
    rw [hg u] at hp
    split at hp
    · cases hp
    · exact h.vals u p hp)
  exact ⟨r1, fun u => by unfold without; rw [r2 u, hg u]⟩
def ins (x : Ext) : List Ext → List Ext
  | [] => [x]
  | e :: l => if e.1 < x.1 then e :: ins x l else x :: e :: l
def put (l : List Ext) (x : Ext) : List Ext := addAll [] (ins x (without l x.1 x.2.2))
theorem ins_ok {x : Ext} (hx : One x) : ∀ {l : List Ext} {b : Int}, From b l → b ≤ x.1 → (∀ u, x.1 ≤ u → u < x.1 + x.2.2 → get l u = none) →
    From b (ins x l) ∧ (∀ c, x.1 + x.2.2 ≤ c → Ex.last b l ≤ c → Ex.last b (ins x l) ≤ c) ∧ ∀ u, get (ins x l) u = if x.1 ≤ u ∧ u < x.1 + x.2.2 then some (val x u) else get l u
  | [], b, _, hb, _ => by
    obtain ⟨h1, h2, h3⟩ := hx
    unfold Fits at h3
    exact ⟨⟨hb, h1, by omega, trivial⟩, fun c hc _ => hc, fun u => rfl⟩
  | e :: l, b, ⟨g1, g2, g3, g4⟩, hb, hh => by
    have hx' := hx
    obtain ⟨h1, h2, h3⟩ := hx
    unfold Fits at h3
    unfold ins
    by_cases hlt : e.1 < x.1
    · rw [if_pos hlt]
      have he : e.1 + e.2.2 ≤ x.1 := by
        by_cases hc : e.1 + e.2.2 ≤ x.1
        · exact hc
        · have := hh x.1 (by omega) (by omega)
          simp only [get] at this
          rw [if_pos (by omega)] at this
          cases this
      obtain ⟨r1, r2, r3⟩ := ins_ok hx' (l := l) (b := e.1 + e.2.2) g4 he (fun u a c => by
        have := hh u a c
        simp only [get] at this
        rw [if_neg (by omega)] at this
        exact this)
      refine ⟨⟨g1, g2, g3, r1⟩, fun c a d => r2 c a d, fun u => ?_⟩
      simp only [get]
      rw [r3 u]
      by_cases c1 : e.1 ≤ u ∧ u < e.1 + e.2.2
      · rw [if_pos c1, if_neg (by omega), if_pos c1]
      · rw [if_neg c1, if_neg c1]
    · rw [if_neg hlt]
      have he : x.1 + x.2.2 ≤ e.1 := by
        by_cases hc : x.1 + x.2.2 ≤ e.1
        · exact hc
        · have := hh e.1 (by omega) (by omega)
          simp only [get] at this
          rw [if_pos (by omega)] at this
          cases this
      exact ⟨⟨hb, h1, by omega, he, g2, g3, g4⟩, fun c a d => d, fun u => rfl⟩
theorem put_ok {l : List Ext} (h : Good l) {x : Ext} (hx : One x) : Good (put l x) ∧ ∀ u, get (put l x) u = if x.1 ≤ u ∧ u < x.1 + x.2.2 then some (x.2.1 + u - x.1) else get l u := by
  obtain ⟨w1, w2⟩ := without_ok h x.1 x.2.2
  have hx' := hx
  obtain ⟨h1, h2, h3⟩ := hx'
  unfold Fits at h2 h3
  obtain ⟨r1, r2, r3⟩ := ins_ok hx w1.from_ h2.1 (fun u a c => by rw [w2 u, if_pos ⟨a, c⟩])
  have hval : ∀ u, val x u = x.2.1 + u - x.1 := fun u => by unfold val; rw [if_neg (by omega)]
  have r3' : ∀ u, get (ins x (without l x.1 x.2.2)) u = if x.1 ≤ u ∧ u < x.1 + x.2.2 then some (x.2.1 + u - x.1) else get l u := by
    intro u
    rw [r3 u, hval]
    by_cases c1 : x.1 ≤ u ∧ u < x.1 + x.2.2
    · rw [if_pos c1, if_pos c1]
    · rw [if_neg c1, if_neg c1, w2 u, if_neg c1]
  obtain ⟨t1, t2⟩ := good_tidy r1.loose (r2 65536 (by omega) w1.last) (fun u p hp => by
    rw [r3' u] at hp
    split at hp
    · simp only [Option.some.injEq] at hp
      omega
    · exact h.vals u p hp)
  exact ⟨t1, fun u => by unfold put; rw [t2 u, r3' u]⟩
def lookPs (en : Int) : Int → List Ext → List Ext
  | a, [] => [(a, -1, en - a)]
  | a, e :: l => if min (e.1 + e.2.2) en ≤ max e.1 a then lookPs en a l else (a, -1, max e.1 a - a) :: (max e.1 a, e.2.1 + max e.1 a - e.1, min (e.1 + e.2.2) en - max e.1 a) :: lookPs en (min (e.1 + e.2.2) en) l
def look (l : List Ext) (v n : Int) : List Ext := addAll [] (lookPs (v + n) v l)
theorem lookPs_ok {en : Int} : ∀ {l : List Ext} {a b : Int}, From b l → (∀ x ∈ l, One x) → a ≤ en →
    Loose a (lookPs en a l) ∧ Ex.last a (lookPs en a l) = en ∧ ∀ u, get (lookPs en a l) u = if a ≤ u ∧ u < en then some ((get l u).getD (-1)) else none
  | [], a, b, _, _, ha => by
    refine ⟨⟨Int.le_refl _, by show 0 ≤ en - a; omega, Int.le_refl _, trivial⟩, by simp only [lookPs, Ex.last]; omega, fun u => ?_⟩
    simp only [lookPs, get, val]
    by_cases c : a ≤ u ∧ u < en
    · rw [if_pos (by omega), if_pos c]; rfl
    · rw [if_neg (by omega), if_neg c]
  | e :: l, a, b, ⟨g1, g2, g3, g4⟩, hx, ha => by
    obtain ⟨h1, h2, h3⟩ := hx e (by simp)
    unfold Fits at h2 h3
    have hx' : ∀ x ∈ l, One x := fun x hy => hx x (by simp [hy])
    unfold lookPs
    split
    · rename_i hle
      obtain ⟨r1, r2, r3⟩ := lookPs_ok (l := l) (a := a) g4 hx' ha
      refine ⟨r1, r2, fun u => ?_⟩
      rw [r3 u]
      by_cases c : a ≤ u ∧ u < en
      · rw [if_pos c, if_pos c]
        simp only [get]
        rw [if_neg (by omega)]
      · rw [if_neg c, if_neg c]
    · rename_i hle
      obtain ⟨r1, r2, r3⟩ := lookPs_ok (l := l) (a := min (e.1 + e.2.2) en) g4 hx' (Int.min_le_right _ _)
      refine ⟨⟨Int.le_refl _, by show 0 ≤ max e.1 a - a; omega, Int.le_refl _, ?_, ?_, ?_, ?_⟩, ?_, fun u => ?_⟩
      · show a + (max e.1 a - a) ≤ max e.1 a; omega
      · show 0 ≤ min (e.1 + e.2.2) en - max e.1 a; omega
      · show -1 ≤ e.2.1 + max e.1 a - e.1; omega
      · show Loose (max e.1 a + (min (e.1 + e.2.2) en - max e.1 a)) _
        rw [show max e.1 a + (min (e.1 + e.2.2) en - max e.1 a) = min (e.1 + e.2.2) en by omega]
        exact r1
      · show Ex.last (max e.1 a + (min (e.1 + e.2.2) en - max e.1 a)) _ = en
        rw [show max e.1 a + (min (e.1 + e.2.2) en - max e.1 a) = min (e.1 + e.2.2) en by omega]
        exact r2
      · simp only [get]
        rw [r3 u]
        by_cases c1 : a ≤ u ∧ u < a + (max e.1 a - a)
        · rw [if_pos c1, if_pos (show a ≤ u ∧ u < en by omega), if_neg (show ¬ (e.1 ≤ u ∧ u < e.1 + e.2.2) by omega), get_low g4.loose (by omega)]
          rfl
        · rw [if_neg c1]
          by_cases c2 : max e.1 a ≤ u ∧ u < max e.1 a + (min (e.1 + e.2.2) en - max e.1 a)
          · rw [if_pos c2, if_pos (show a ≤ u ∧ u < en by omega), if_pos (show e.1 ≤ u ∧ u < e.1 + e.2.2 by omega), Option.getD_some]
            congr 1
            unfold val
            rw [if_neg (show ¬ (e.2.1 + max e.1 a - e.1 = -1) by omega), if_neg (show ¬ e.2.1 = -1 by omega)]
            show e.2.1 + max e.1 a - e.1 + u - max e.1 a = e.2.1 + u - e.1
            omega
          · rw [if_neg c2]
            by_cases c3 : min (e.1 + e.2.2) en ≤ u ∧ u < en
            · rw [if_pos c3, if_pos (show a ≤ u ∧ u < en by omega), if_neg (show ¬ (e.1 ≤ u ∧ u < e.1 + e.2.2) by omega)]
            · rw [if_neg c3, if_neg (show ¬ (a ≤ u ∧ u < en) by omega)]
theorem look_ok {l : List Ext} (h : Good l) {v n : Int} (hn : 0 ≤ n) : From v (look l v n) ∧ Sep (look l v n) ∧ Ex.last v (look l v n) ≤ v + n ∧ ∀ u, get (look l v n) u = if v ≤ u ∧ u < v + n then some (at_ l u) else none := by
  obtain ⟨p1, p2, p3⟩ := lookPs_ok (en := v + n) (a := v) h.from_ (fun x hx => good_phys h hx) (by omega)
  obtain ⟨r1, r2, r3, r4⟩ := tidy p1
  exact ⟨r1, r2, by unfold look; omega, fun u => by unfold look at_; rw [r4 u, p3 u]⟩
theorem chain_get : ∀ {l : List Ext}, Chain l → ∀ (k : Nat) (h : k + 1 < l.length), Behind l[k] l[k + 1]
  | x :: y :: l, h, 0, _ => h.1
  | x :: y :: l, h, k + 1, hk => by
    have := chain_get (l := y :: l) h.2 k (by simpa using hk)
    simpa using this
theorem chain_of : ∀ {l : List Ext}, (∀ (k : Nat) (h : k + 1 < l.length), Behind l[k] l[k + 1]) → Chain l
  | [], _ => trivial
  | [_], _ => trivial
  | x :: y :: l, h => ⟨h 0 (by simp), chain_of (l := y :: l) (fun k hk => h (k + 1) (by simpa using hk))⟩
def Step (l : List Ext) (k : Nat) (h : k < l.length) : Prop := One l[k] ∧ ∀ j (hj : j + 1 = k), Behind (l[j]'(by omega)) l[k]
theorem mays_steps {l : List Ext} : Mays l ↔ ∀ k (h : k < l.length), Step l k h := by
  constructor
  · rintro ⟨h1, h2⟩ k h
    refine ⟨h1 _ (List.getElem_mem h), fun j hj => ?_⟩
    subst hj
    exact chain_get h2 j h
  · intro h
    refine ⟨fun x hx => ?_, chain_of (fun k hk => (h (k + 1) hk).2 k rfl)⟩
    obtain ⟨j, hj, rfl⟩ := List.mem_iff_getElem.1 hx
    exact (h j hj).1
end Go.Proofs.Ytinlgoljaiolnaa.Ex
namespace Go.Proofs.Ytinlgoljaiolnaa.Ex
set_option linter.unusedVariables false
def inSpan (x : Spn) (p : Int) : Prop := x.1 ≤ p ∧ p < x.1 + x.2
def has (l : List Spn) (p : Int) : Prop := ∃ x ∈ l, inSpan x p
def Gaps : Int → List Spn → Prop
  | _, [] => True
  | b, x :: l => b ≤ x.1 ∧ 1 ≤ x.2 ∧ Gaps (x.1 + x.2 + 1) l
def gapLast : Int → List Spn → Int
  | b, [] => b
  | _, x :: l => gapLast (x.1 + x.2 + 1) l
theorem has_cons {x : Spn} {l : List Spn} {p : Int} : has (x :: l) p ↔ inSpan x p ∨ has l p := by
  unfold has
  constructor
  · rintro ⟨y, hy, h⟩
    rcases List.mem_cons.1 hy with rfl | hy
    · exact .inl h
    · exact .inr ⟨y, hy, h⟩
  · rintro (h | ⟨y, hy, h⟩)
    · exact ⟨x, by simp, h⟩
    · exact ⟨y, by simp [hy], h⟩
theorem has_append {l m : List Spn} {p : Int} : has (l ++ m) p ↔ has l p ∨ has m p := by
  induction l with
  | nil => simp [has]
  | cons x l ih => rw [List.cons_append, has_cons, has_cons, ih, or_assoc]
theorem has_one {x : Spn} {p : Int} : has [x] p ↔ inSpan x p := by rw [has_cons]; simp [has]
theorem Gaps.low : ∀ {l : List Spn} {b : Int}, Gaps b l → ∀ {p : Int}, p < b → ¬ has l p
  | [], _, _, _, _, h => by obtain ⟨y, hy, _⟩ := h; cases hy
  | x :: l, b, ⟨h1, h2, h3⟩, p, hp, h => by
    rcases has_cons.1 h with h | h
    · unfold inSpan at h; omega
    · exact h3.low (by omega) h
def insSpan (x : Spn) : List Spn → List Spn
  | [] => [x]
  | y :: l => if y.1 ≤ x.1 then y :: insSpan x l else x :: y :: l
def Sorted : List Spn → Prop
  | x :: y :: l => x.1 ≤ y.1 ∧ Sorted (y :: l)
  | _ => True
theorem insSpan_has (x : Spn) (p : Int) : ∀ l : List Spn, has (insSpan x l) p ↔ inSpan x p ∨ has l p
  | [] => by rw [insSpan, has_cons]
  | y :: l => by
    unfold insSpan
    split
    · rw [has_cons, insSpan_has x p l, has_cons]
      constructor
      · rintro (h | h | h)
        · exact .inr (.inl h)
        · exact .inl h
        · exact .inr (.inr h)
      · rintro (h | h | h)
        · exact .inr (.inl h)
        · exact .inl h
        · exact .inr (.inr h)
    · rw [has_cons]
theorem insSpan_mem (x : Spn) : ∀ (l : List Spn) (z : Spn), z ∈ insSpan x l ↔ z = x ∨ z ∈ l
  | [], z => by simp [insSpan]
  | y :: l, z => by
    unfold insSpan
    split
    · rw [List.mem_cons, insSpan_mem x l z, List.mem_cons]
      constructor
      · rintro (h | h | h)
        · exact .inr (.inl h)
        · exact .inl h
        · exact .inr (.inr h)
      · rintro (h | h | h)
        · exact .inr (.inl h)
        · exact .inl h
        · exact .inr (.inr h)
    · rw [List.mem_cons]
theorem insSpan_sorted (x : Spn) : ∀ l : List Spn, Sorted l → Sorted (insSpan x l)
  | [], _ => trivial
  | [y], _ => by
    unfold insSpan
    split
    · exact ⟨by assumption, trivial⟩
    · exact ⟨by omega, trivial⟩
  | y :: z :: l, ⟨h1, h2⟩ => by
    have ih := insSpan_sorted x (z :: l) h2
    unfold insSpan
    split
    · rename_i hy
      unfold insSpan at ih ⊢
      split at ih
      · rename_i hz
        rw [if_pos hz]
        exact ⟨h1, ih⟩
      · rename_i hz
        rw [if_neg hz]
        exact ⟨hy, ih⟩
    · exact ⟨by omega, h1, h2⟩
def sortSpans (l : List Spn) : List Spn := l.foldl (fun s x => insSpan x s) []
theorem sort_has : ∀ (l s : List Spn) (p : Int), has (l.foldl (fun s x => insSpan x s) s) p ↔ has l p ∨ has s p
  | [], s, p => by simp [has]
  | x :: l, s, p => by
    rw [List.foldl_cons, sort_has l _ p, insSpan_has, has_cons]
    constructor
    · rintro (h | h | h)
      · exact .inl (.inr h)
      · exact .inl (.inl h)
      · exact .inr h
    · rintro ((h | h) | h)
      · exact .inr (.inl h)
      · exact .inl h
      · exact .inr (.inr h)
theorem sort_sorted : ∀ (l s : List Spn), Sorted s → Sorted (l.foldl (fun s x => insSpan x s) s)
  | [], s, h => h
  | x :: l, s, h => sort_sorted l _ (insSpan_sorted x s h)
theorem sort_mem : ∀ (l s : List Spn) (z : Spn), z ∈ l.foldl (fun s x => insSpan x s) s ↔ z ∈ l ∨ z ∈ s
  | [], s, z => by simp
  | x :: l, s, z => by
    rw [List.foldl_cons, sort_mem l _ z, insSpan_mem, List.mem_cons]
    constructor
    · rintro (h | h | h)
      · exact .inl (.inr h)
      · exact .inl (.inl h)
      · exact .inr h
    · rintro ((h | h) | h)
      · exact .inr (.inl h)
      · exact .inl h
      · exact .inr (.inr h)
def glue (out : List Spn) (x : Spn) : List Spn :=
  match out.getLast? with
  | none => [x]
  | some y => if x.1 ≤ y.1 + y.2 then out.dropLast ++ [(y.1, max y.2 (x.1 + x.2 - y.1))] else out ++ [x]
theorem Gaps_append : ∀ {l m : List Spn} {b : Int}, Gaps b (l ++ m) ↔ Gaps b l ∧ Gaps (gapLast b l) m
  | [], m, b => by simp [Gaps, gapLast]
  | x :: l, m, b => by
    simp only [List.cons_append, Gaps, gapLast]
    rw [Gaps_append]
    constructor
    · rintro ⟨h1, h2, h3, h4⟩; exact ⟨⟨h1, h2, h3⟩, h4⟩
    · rintro ⟨⟨h1, h2, h3⟩, h4⟩; exact ⟨h1, h2, h3, h4⟩
theorem gapLast_append : ∀ (l m : List Spn) (b : Int), gapLast b (l ++ m) = gapLast (gapLast b l) m
  | [], _, _ => rfl
  | x :: l, m, b => gapLast_append l m _
theorem glue_ok {out : List Spn} {x : Spn} {b : Int} (h : Gaps b out) (hb : b ≤ x.1) (hx : 1 ≤ x.2) (hl : ∀ y, out.getLast? = some y → y.1 ≤ x.1) :
    Gaps b (glue out x) ∧ (∀ p, has (glue out x) p ↔ has out p ∨ inSpan x p) ∧ ∀ y, (glue out x).getLast? = some y → y.1 ≤ x.1 := by
  unfold glue
  rcases List.eq_nil_or_concat out with rfl | ⟨m, y, rfl⟩
  · simp only [List.getLast?_nil]
    exact ⟨⟨hb, hx, trivial⟩, fun p => by rw [has_one]; simp [has], fun y hy => by simp at hy; subst hy; exact Int.le_refl _⟩
  · rw [List.concat_eq_append] at h hl ⊢
    have hy := hl y (by simp)
    simp only [List.getLast?_append, List.getLast?_singleton, Option.some_or]
    obtain ⟨g1, g2, g3, -⟩ := Gaps_append.1 h
    split
    · rename_i hj
      have hd : (m ++ [y]).dropLast = m := by simp
      rw [hd]
      refine ⟨Gaps_append.2 ⟨g1, g2, by show 1 ≤ max y.2 _; omega, trivial⟩, fun p => ?_, fun z hz => ?_⟩
      · rw [has_append, has_append, has_one, has_one, or_assoc]
        constructor
        · rintro (k | k)
          · exact .inl k
          · refine .inr ?_
            unfold inSpan at k ⊢
            simp only at k
            omega
        · rintro (k | k)
          · exact .inl k
          · refine .inr ?_
            unfold inSpan at k ⊢
            simp only
            omega
      · simp only [List.getLast?_append, List.getLast?_singleton, Option.some_or, Option.some.injEq] at hz
        subst hz
        exact hy
    · rename_i hj
      refine ⟨Gaps_append.2 ⟨h, ?_, hx, trivial⟩, fun p => ?_, fun z hz => ?_⟩
      · rw [gapLast_append]; simp only [gapLast]; omega
      · rw [has_append, has_one]
      · simp only [List.getLast?_append, List.getLast?_singleton, Option.some_or, Option.some.injEq] at hz
        subst hz
        exact Int.le_refl _
theorem glue_all : ∀ {l out : List Spn} {b : Int}, Gaps b out → Sorted l → (∀ x ∈ l, b ≤ x.1 ∧ 1 ≤ x.2) → (∀ x y, l.head? = some x → out.getLast? = some y → y.1 ≤ x.1) →
    Gaps b (l.foldl glue out) ∧ ∀ p, has (l.foldl glue out) p ↔ has out p ∨ has l p
  | [], out, b, h, _, _, _ => ⟨h, fun p => by simp [has]⟩
  | x :: l, out, b, h, hs, hx, hl => by
    obtain ⟨x1, x2⟩ := hx x (by simp)
    obtain ⟨g1, g2, g3⟩ := glue_ok h x1 x2 (fun y hy => hl x y rfl hy)
    have hs' : Sorted l := by
      cases l with
      | nil => trivial
      | cons z l => exact hs.2
    obtain ⟨r1, r2⟩ := glue_all (l := l) (out := glue out x) g1 hs' (fun z hz => hx z (by simp [hz])) (fun z y hz hy => by
      have k := g3 y hy
      cases l with
      | nil => cases hz
      | cons t l =>
        simp only [List.head?_cons, Option.some.injEq] at hz
        subst hz
        have := hs.1
        omega)
    refine ⟨r1, fun p => ?_⟩
    rw [List.foldl_cons, r2 p, g2 p, has_cons, or_assoc]
def join (l : List Spn) : List Spn := (sortSpans l).foldl glue []
theorem join_ok {l : List Spn} {b : Int} (h : ∀ x ∈ l, b ≤ x.1 ∧ 1 ≤ x.2) : Gaps b (join l) ∧ ∀ p, has (join l) p ↔ has l p := by
  obtain ⟨r1, r2⟩ := glue_all (l := sortSpans l) (out := []) (b := b) trivial (sort_sorted l [] trivial) (fun x hx => h x (by
    rcases (sort_mem l [] x).1 hx with k | k
    · exact k
    · cases k)) (fun x y _ hy => by cases hy)
  refine ⟨r1, fun p => ?_⟩
  unfold join
  rw [r2 p]
  unfold sortSpans
  rw [sort_has]
  simp [has]
end Go.Proofs.Ytinlgoljaiolnaa.Ex
namespace Go.Proofs.Ytinlgoljaiolnaa
set_option linter.unusedVariables false
abbrev Rfr := Int × Int × Int × Int
abbrev Cnr := Int × Int × Int
namespace Rf
abbrev Lt (a b : Rfr) : Prop := a.1 < b.1 ∨ a.1 = b.1 ∧ (a.2.2.1 < b.2.2.1 ∨ a.2.2.1 = b.2.2.1 ∧ a.2.2.2 < b.2.2.2)
def Up (l : List Rfr) : Prop := l.Pairwise fun a b => ¬ Lt b a
def Apart (l : List Rfr) : Prop := l.Pairwise fun a b => Lt a b ∨ Lt b a
theorem Lt.irrefl (a : Rfr) : ¬ Lt a a := by unfold Lt; omega
theorem Lt.trans {a b c : Rfr} (h : Lt a b) (k : Lt b c) : Lt a c := by unfold Lt at *; omega
theorem Apart.perm {l m : List Rfr} (h : Apart l) (p : l.Perm m) : Apart m := (p.pairwise_iff (fun {a b} h => Or.symm h)).1 h
theorem up_unique : ∀ {l m : List Rfr}, l.Perm m → Up l → Up m → Apart l → l = m
  | [], m, p, _, _, _ => (List.nil_perm.1 p).symm
  | a :: l, [], p, _, _, _ => absurd (List.perm_nil.1 p) (by simp)
  | a :: l, b :: m, p, hl, hm, hk => by
    have h1 := List.pairwise_cons.1 hl
    have h2 := List.pairwise_cons.1 hm
    have h3 := List.pairwise_cons.1 hk
    have e : a = b := by
      have ha : a ∈ b :: m := p.mem_iff.1 (by simp)
      have hb : b ∈ a :: l := p.mem_iff.2 (by simp)
      rcases List.mem_cons.1 ha with e | ha
      · exact e
      · rcases List.mem_cons.1 hb with e | hb
        · exact e.symm
        · rcases h3.1 b hb with k | k
          · exact absurd k (h2.1 a ha)
          · exact absurd k (h1.1 b hb)
    subst e
    congr 1
    exact up_unique ((List.perm_cons a).1 p) h1.2 h2.2 h3.2
def ins (x : Rfr) : List Rfr → List Rfr
  | [] => [x]
  | y :: l => if Lt x y then x :: y :: l else y :: ins x l
def sort (l : List Rfr) : List Rfr := l.foldl (fun s x => ins x s) []
theorem ins_perm (x : Rfr) : ∀ l : List Rfr, (ins x l).Perm (x :: l)
  | [] => List.Perm.refl _
  | y :: l => by
    unfold ins
    split
    · exact List.Perm.refl _
    · exact ((ins_perm x l).cons y).trans (List.Perm.swap x y l)
theorem ins_up {x : Rfr} : ∀ {l : List Rfr}, Up l → Up (ins x l)
  | [], _ => by unfold ins Up; simp
  | y :: l, h => by
    have h1 := List.pairwise_cons.1 h
    unfold ins
    split
    · rename_i hx
      refine List.pairwise_cons.2 ⟨fun z hz => ?_, h⟩
      rcases List.mem_cons.1 hz with rfl | hz
      · exact fun k => Lt.irrefl _ (hx.trans k)
      · exact fun k => h1.1 z hz (k.trans hx)
    · rename_i hx
      refine List.pairwise_cons.2 ⟨fun z hz => ?_, ins_up h1.2⟩
      rcases List.mem_cons.1 ((ins_perm x l).mem_iff.1 hz) with rfl | hz
      · exact hx
      · exact h1.1 z hz
theorem sort_all : ∀ (l s : List Rfr), Up s → Up (l.foldl (fun s x => ins x s) s) ∧ (l.foldl (fun s x => ins x s) s).Perm (s ++ l)
  | [], s, h => ⟨h, by rw [List.foldl_nil, List.append_nil]⟩
  | x :: l, s, h => by
    obtain ⟨h1, h2⟩ := sort_all l (ins x s) (ins_up h)
    refine ⟨h1, h2.trans ?_⟩
    exact ((ins_perm x s).append_right l).trans List.perm_middle.symm
theorem sort_up (l : List Rfr) : Up (sort l) := (sort_all l [] List.Pairwise.nil).1
theorem sort_perm (l : List Rfr) : (sort l).Perm l := by have h := (sort_all l [] List.Pairwise.nil).2; rw [List.nil_append] at h; exact h
theorem sort_any {l D : List Rfr} (hk : Apart l) (hp : D.Perm l) (hu : Up D) : D = sort l :=
  up_unique (hp.trans (sort_perm l).symm) hu (sort_up l) (hk.perm hp.symm)
def often (l : List Rfr) (p : Int) : Nat := (l.filter fun x => decide (x.1 ≤ p ∧ p < x.1 + x.2.1)).length
theorem often_cons (x : Rfr) (l : List Rfr) (p : Int) : often (x :: l) p = (if x.1 ≤ p ∧ p < x.1 + x.2.1 then 1 else 0) + often l p := by
  unfold often
  rw [List.filter_cons]
  by_cases h : x.1 ≤ p ∧ p < x.1 + x.2.1
  · rw [if_pos (decide_eq_true h), if_pos h, List.length_cons]; omega
  · rw [if_neg (by rw [decide_eq_false h]; decide), if_neg h]; omega
def says : List Cnr → Int → Int
  | [], _ => 0
  | x :: l, p => if x.1 ≤ p ∧ p < x.1 + x.2.1 then x.2.2 else says l p
def Steps : Int → Int → List Cnr → Prop
  | _, _, [] => True
  | b, n, x :: l => b ≤ x.1 ∧ 1 ≤ x.2.1 ∧ 1 ≤ x.2.2 ∧ (x.1 = b → x.2.2 ≠ n) ∧ Steps (x.1 + x.2.1) x.2.2 l
theorem Steps.low : ∀ {l : List Cnr} {b n : Int}, Steps b n l → ∀ {p : Int}, p < b → says l p = 0
  | [], _, _, _, _, _ => rfl
  | x :: l, b, n, ⟨h1, h2, h3, h4, h5⟩, p, hp => by
    unfold says
    rw [if_neg (by omega)]
    exact h5.low (by omega)
theorem Steps.edge : ∀ {l : List Cnr} {b n : Int}, Steps b n l → 1 ≤ n → says l b ≠ n
  | [], _, _, _, hn => by unfold says; omega
  | x :: l, b, n, ⟨h1, h2, h3, h4, h5⟩, hn => by
    unfold says
    by_cases e : x.1 = b
    · rw [if_pos (by omega)]; exact h4 e
    · rw [if_neg (by omega), h5.low (by omega)]; omega
theorem steps_unique : ∀ {l m : List Cnr} {b n : Int}, Steps b n l → Steps b n m → (∀ p, says l p = says m p) → l = m
  | [], [], _, _, _, _, _ => rfl
  | [], y :: m, b, n, _, ⟨h1, h2, h3, h4, h5⟩, h => by
    have k := h y.1
    unfold says at k
    rw [if_pos (by omega)] at k
    omega
  | x :: l, [], b, n, ⟨h1, h2, h3, h4, h5⟩, _, h => by
    have k := h x.1
    unfold says at k
    rw [if_pos (by omega)] at k
    omega
  | x :: l, y :: m, b, n, ⟨a1, a2, a3, a4, a5⟩, ⟨b1, b2, b3, b4, b5⟩, h => by
    have first : ∀ {x y : Cnr} {l m : List Cnr} {n' : Int}, 1 ≤ x.2.1 → 1 ≤ x.2.2 → 1 ≤ y.2.1 → Steps (y.1 + y.2.1) n' m → (∀ p, says (x :: l) p = says (y :: m) p) → y.1 ≤ x.1 := by
      intro x y l m n' g1 g2 g3 g4 gh
      have k := gh x.1
      unfold says at k
      rw [if_pos (by omega)] at k
      by_cases c : y.1 ≤ x.1
      · exact c
      · rw [if_neg (by omega), g4.low (by omega)] at k; omega
    have e1 : x.1 = y.1 := by
      have h1 := first a2 a3 b2 b5 h
      have h2 := first b2 b3 a2 a5 (fun p => (h p).symm)
      omega
    have e3 : x.2.2 = y.2.2 := by
      have k := h x.1
      unfold says at k
      rw [if_pos (by omega), if_pos (by omega)] at k
      exact k
    have longer : ∀ {x y : Cnr} {l m : List Cnr}, x.1 = y.1 → x.2.2 = y.2.2 → 1 ≤ x.2.1 → 1 ≤ x.2.2 → Steps (x.1 + x.2.1) x.2.2 l → (∀ p, says (x :: l) p = says (y :: m) p) → ¬ x.2.1 < y.2.1 := by
      intro x y l m f1 f3 g1 g2 g3 gh hlt
      have k := gh (x.1 + x.2.1)
      unfold says at k
      rw [if_neg (by omega), if_pos (by omega), ← f3] at k
      exact g3.edge g2 k
    have l1 := longer e1 e3 a2 a3 a5 h
    have l2 := longer e1.symm e3.symm b2 b3 b5 (fun p => (h p).symm)
    have e : x = y := Prod.ext e1 (Prod.ext (by omega) e3)
    subst e
    congr 1
    refine steps_unique a5 b5 (fun p => ?_)
    have hp := h p
    unfold says at hp
    by_cases c : x.1 ≤ p ∧ p < x.1 + x.2.1
    · rw [a5.low (by omega), b5.low (by omega)]
    · rw [if_neg c, if_neg c] at hp
      exact hp
end Rf
end Go.Proofs.Ytinlgoljaiolnaa
namespace Go.Proofs.Ytinlgoljaiolnaa
set_option linter.unusedVariables false
abbrev Edg := Int × Int
namespace Rf
def edges (l : List Rfr) : List Edg := l.flatMap fun x => [(x.1, 1), (x.1 + x.2.1, -1)]
def net : List Edg → Int → Int
  | [], _ => 0
  | e :: l, p => (if e.1 ≤ p then e.2 else 0) + net l p
def total (l : List Edg) : Int := (l.map (·.2)).sum
theorem net_append (a b : List Edg) (p : Int) : net (a ++ b) p = net a p + net b p := by
  induction a with
  | nil => simp [net]
  | cons e a ih =>
    show (if e.1 ≤ p then e.2 else 0) + net (a ++ b) p = (if e.1 ≤ p then e.2 else 0) + net a p + net b p
    rw [ih, Int.add_assoc]
theorem net_perm {a b : List Edg} (h : a.Perm b) (p : Int) : net a p = net b p := by
  induction h with
  | nil => rfl
  | cons x _ ih => unfold net; rw [ih]
  | swap x y l => simp only [net]; omega
  | trans _ _ ih1 ih2 => exact ih1.trans ih2
theorem total_perm {a b : List Edg} (h : a.Perm b) : total a = total b := by
  induction h with
  | nil => rfl
  | cons x _ ih => unfold total at ih ⊢; simp only [List.map_cons, List.sum_cons, ih]
  | swap x y l => unfold total; simp only [List.map_cons, List.sum_cons]; omega
  | trans _ _ ih1 ih2 => exact ih1.trans ih2
theorem net_low {l : List Edg} {p : Int} (h : ∀ e ∈ l, p < e.1) : net l p = 0 := by
  induction l with
  | nil => rfl
  | cons e l ih =>
    unfold net
    have := h e (by simp)
    rw [if_neg (by omega), ih (fun x hx => h x (by simp [hx]))]
    rfl
theorem net_high {l : List Edg} {p : Int} (h : ∀ e ∈ l, e.1 ≤ p) : net l p = total l := by
  induction l with
  | nil => rfl
  | cons e l ih =>
    unfold net
    rw [if_pos (h e (by simp)), ih (fun x hx => h x (by simp [hx]))]
    simp [total]
theorem net_often : ∀ {l : List Rfr}, (∀ x ∈ l, 0 ≤ x.2.1) → ∀ p, net (edges l) p = (often l p : Int)
  | [], _, p => rfl
  | x :: l, h, p => by
    have h0 := h x (by simp)
    rw [often_cons, show edges (x :: l) = [(x.1, 1), (x.1 + x.2.1, -1)] ++ edges l from rfl, net_append, net_often (fun y hy => h y (by simp [hy])) p]
    simp only [net]
    by_cases c1 : x.1 ≤ p
    · by_cases c2 : x.1 + x.2.1 ≤ p
      · rw [if_pos c1, if_pos c2, if_neg (by omega)]; simp
      · rw [if_pos c1, if_neg c2, if_pos (by omega)]; simp
    · rw [if_neg c1, if_neg (by omega), if_neg (by omega)]; simp
def lay (out : List Cnr) (at_ n to : Int) : List Cnr :=
  if n = 0 ∨ at_ = to then out
  else match out.getLast? with
    | none => out ++ [(at_, to - at_, n)]
    | some y => if y.1 + y.2.1 = at_ ∧ y.2.2 = n then out.dropLast ++ [(y.1, y.2.1 + (to - at_), y.2.2)] else out ++ [(at_, to - at_, n)]
def sweep : List Edg → List Cnr → Int → Int → List Cnr
  | [], out, _, _ => out
  | e :: l, out, at_, n => sweep l (lay out at_ n e.1) e.1 (n + e.2)
def endOf (b : Int) : List Cnr → Int
  | [] => b
  | x :: l => endOf (x.1 + x.2.1) l
def numOf (n : Int) : List Cnr → Int
  | [] => n
  | x :: l => numOf x.2.2 l
theorem steps_append : ∀ {l m : List Cnr} {b n : Int}, Steps b n (l ++ m) ↔ Steps b n l ∧ Steps (endOf b l) (numOf n l) m
  | [], m, b, n => by simp [Steps, endOf, numOf]
  | x :: l, m, b, n => by
    simp only [List.cons_append, Steps, endOf, numOf]
    rw [steps_append]
    constructor
    · rintro ⟨h1, h2, h3, h4, h5, h6⟩; exact ⟨⟨h1, h2, h3, h4, h5⟩, h6⟩
    · rintro ⟨⟨h1, h2, h3, h4, h5⟩, h6⟩; exact ⟨h1, h2, h3, h4, h5, h6⟩
theorem endOf_append (l : List Cnr) (x : Cnr) : ∀ b : Int, endOf b (l ++ [x]) = x.1 + x.2.1 := by
  induction l with
  | nil => intro b; rfl
  | cons y l ih => intro b; exact ih _
theorem numOf_append (l : List Cnr) (x : Cnr) : ∀ n : Int, numOf n (l ++ [x]) = x.2.2 := by
  induction l with
  | nil => intro b; rfl
  | cons y l ih => intro b; exact ih _
theorem Steps.end_le : ∀ {l : List Cnr} {b n : Int}, Steps b n l → b ≤ endOf b l
  | [], b, _, _ => Int.le_refl _
  | x :: l, b, n, ⟨h1, h2, h3, h4, h5⟩ => by have := h5.end_le; simp only [endOf]; omega
theorem Steps.high : ∀ {l : List Cnr} {b n : Int}, Steps b n l → ∀ {p : Int}, endOf b l ≤ p → says l p = 0
  | [], _, _, _, _, _ => rfl
  | x :: l, b, n, ⟨h1, h2, h3, h4, h5⟩, p, hp => by
    have h6 := h5.end_le
    simp only [endOf] at hp
    unfold says
    rw [if_neg (by omega)]
    exact h5.high hp
theorem says_append : ∀ {l : List Cnr} {b n : Int}, Steps b n l → ∀ (x : Cnr), 1 ≤ x.2.1 → endOf b l ≤ x.1 → ∀ p : Int, says (l ++ [x]) p = if x.1 ≤ p ∧ p < x.1 + x.2.1 then x.2.2 else says l p
  | [], b, n, _, x, _, _, p => rfl
  | y :: l, b, n, ⟨h1, h2, h3, h4, h5⟩, x, hx, he, p => by
    have h6 := h5.end_le
    simp only [endOf] at he
    rw [List.cons_append]
    show (if y.1 ≤ p ∧ p < y.1 + y.2.1 then y.2.2 else says (l ++ [x]) p) = if x.1 ≤ p ∧ p < x.1 + x.2.1 then x.2.2 else (if y.1 ≤ p ∧ p < y.1 + y.2.1 then y.2.2 else says l p)
    by_cases c : y.1 ≤ p ∧ p < y.1 + y.2.1
    · rw [if_pos c, if_neg (by omega), if_pos c]
    · rw [if_neg c, if_neg c, says_append h5 x hx he p]
theorem lay_ok {out : List Cnr} {at_ n to : Int} (h : Steps (-1) 0 out) (he : endOf (-1) out ≤ at_) (hn : at_ ≠ to → 0 ≤ n) (ht : at_ ≤ to) (h0 : 0 ≤ at_) :
    Steps (-1) 0 (lay out at_ n to) ∧ endOf (-1) (lay out at_ n to) ≤ to ∧ ∀ p, says (lay out at_ n to) p = if at_ ≤ p ∧ p < to then n else says out p := by
  unfold lay
  by_cases c : n = 0 ∨ at_ = to
  · rw [if_pos c]
    refine ⟨h, by omega, fun p => ?_⟩
    by_cases cp : at_ ≤ p ∧ p < to
    · rw [if_pos cp, h.high (by omega)]; omega
    · rw [if_neg cp]
  · rw [if_neg c]
    have hne : at_ ≠ to := fun e => c (.inr e)
    have hn1 : 1 ≤ n := by have := hn hne; omega
    have fresh : (numOf 0 out = n → endOf (-1) out ≠ at_) → Steps (-1) 0 (out ++ [(at_, to - at_, n)]) ∧ endOf (-1) (out ++ [(at_, to - at_, n)]) ≤ to ∧ ∀ p, says (out ++ [(at_, to - at_, n)]) p = if at_ ≤ p ∧ p < to then n else says out p := fun hx => by
      refine ⟨steps_append.2 ⟨h, he, by show 1 ≤ to - at_; omega, hn1, fun e e2 => hx e2.symm e.symm, trivial⟩, by rw [endOf_append]; show at_ + (to - at_) ≤ to; omega, fun p => ?_⟩
      rw [says_append h _ (by show 1 ≤ to - at_; omega) he]
      have e1 : at_ + (to - at_) = to := by omega
      simp only [e1]
    cases hl : out.getLast? with
    | none =>
      simp only
      refine fresh (fun _ e => ?_)
      rw [List.getLast?_eq_none_iff.1 hl] at e
      simp only [endOf] at e
      omega
    | some y =>
      obtain ⟨m, rfl⟩ : ∃ m, out = m ++ [y] := by
        rcases List.eq_nil_or_concat out with e | ⟨m, z, e⟩
        · rw [e] at hl; cases hl
        · rw [e, List.concat_eq_append, List.getLast?_append] at hl
          refine ⟨m, ?_⟩
          rw [e, List.concat_eq_append]
          simp only [List.getLast?_singleton, Option.some_or, Option.some.injEq] at hl
          rw [hl]
      simp only
      by_cases cy : y.1 + y.2.1 = at_ ∧ y.2.2 = n
      · rw [if_pos cy, List.dropLast_concat]
        obtain ⟨g1, g2, g3, g4, g5, -⟩ := steps_append.1 h
        refine ⟨steps_append.2 ⟨g1, g2, by show 1 ≤ y.2.1 + (to - at_); omega, g4, g5, trivial⟩, by rw [endOf_append]; show y.1 + (y.2.1 + (to - at_)) ≤ to; omega, fun p => ?_⟩
        rw [says_append g1 (y.1, y.2.1 + (to - at_), y.2.2) (by show 1 ≤ y.2.1 + (to - at_); omega) g2 p, says_append g1 y g3 g2 p]
        simp only
        by_cases c1 : at_ ≤ p ∧ p < to
        · rw [if_pos c1, if_pos (by omega)]; exact cy.2
        · rw [if_neg c1]
          by_cases c2 : y.1 ≤ p ∧ p < y.1 + y.2.1
          · rw [if_pos c2, if_pos (by omega)]
          · rw [if_neg c2, if_neg (by omega)]
      · rw [if_neg cy]
        refine fresh (fun e1 e2 => cy ⟨?_, ?_⟩)
        · rw [endOf_append] at e2; exact e2
        · rw [numOf_append] at e1; exact e1
def UpE (l : List Edg) : Prop := l.Pairwise fun a b => a.1 ≤ b.1
theorem sweep_ok {E : List Edg} (hpos : ∀ p, 0 ≤ net E p) : ∀ (rest done : List Edg) (out : List Cnr) (at_ : Int), E = done ++ rest → UpE E → (∀ e ∈ E, 0 ≤ e.1) → 0 ≤ at_ → (∀ e ∈ done, e.1 ≤ at_) → (∀ e ∈ rest, at_ ≤ e.1) →
    Steps (-1) 0 out → endOf (-1) out ≤ at_ → (∀ p, p < at_ → says out p = net E p) → total E = 0 → Steps (-1) 0 (sweep rest out at_ (total done)) ∧ ∀ p, says (sweep rest out at_ (total done)) p = net E p
  | [], done, out, at_, hE, hU, hz, h0, hd, hr, hS, he, hs, ht => by
    rw [List.append_nil] at hE
    refine ⟨hS, fun p => ?_⟩
    show says out p = net E p
    by_cases c : p < at_
    · exact hs p c
    · rw [hS.high (by omega), hE, net_high (fun e h => by have := hd e h; omega), ← hE, ht]
  | e :: rest, done, out, at_, hE, hU, hz, h0, hd, hr, hS, he, hs, ht => by
    have hre := hr e (by simp)
    have hUr : ∀ x ∈ rest, e.1 ≤ x.1 := fun x hx => by
      rw [hE] at hU
      have h1 := (List.pairwise_append.1 hU).2.1
      exact (List.pairwise_cons.1 h1).1 x hx
    have hmid : ∀ p, at_ ≤ p → p < e.1 → net E p = total done := fun p h1 h2 => by
      rw [hE, net_append, net_high (fun x hx => by have := hd x hx; omega), net_low (fun x hx => by
        rcases List.mem_cons.1 hx with rfl | hx
        · exact h2
        · have := hUr x hx; omega)]
      omega
    obtain ⟨k1, k2, k3⟩ := lay_ok (n := total done) (to := e.1) hS he (fun hne => by rw [← hmid at_ (Int.le_refl _) (by omega)]; exact hpos at_) hre h0
    have hE2 : E = (done ++ [e]) ++ rest := by rw [hE]; simp
    have ht2 : total (done ++ [e]) = total done + e.2 := by unfold total; simp
    show Steps (-1) 0 (sweep rest (lay out at_ (total done) e.1) e.1 (total done + e.2)) ∧ ∀ p, says (sweep rest (lay out at_ (total done) e.1) e.1 (total done + e.2)) p = net E p
    rw [← ht2]
    refine sweep_ok hpos rest (done ++ [e]) _ e.1 hE2 hU hz (by omega) (fun x hx => ?_) hUr k1 k2 (fun p hp => ?_) ht
    · rcases List.mem_append.1 hx with hx | hx
      · have := hd x hx; omega
      · obtain rfl := List.mem_singleton.1 hx; exact Int.le_refl _
    · rw [k3]
      by_cases c : at_ ≤ p
      · rw [if_pos ⟨c, hp⟩, hmid p c hp]
      · rw [if_neg (by omega), hs p (by omega)]
theorem total_edges : ∀ l : List Rfr, total (edges l) = 0
  | [] => rfl
  | x :: l => by
    rw [show edges (x :: l) = [(x.1, 1), (x.1 + x.2.1, -1)] ++ edges l from rfl]
    have h := total_edges l
    unfold total at h ⊢
    rw [List.map_append, List.sum_append, h]
    rfl
theorem sweep_counts {l : List Rfr} {E : List Edg} (hl : ∀ x ∈ l, 0 ≤ x.1 ∧ 0 ≤ x.2.1) (hp : E.Perm (edges l)) (hU : UpE E) : Steps (-1) 0 (sweep E [] 0 0) ∧ ∀ p, says (sweep E [] 0 0) p = (often l p : Int) := by
  have hn : ∀ p, net E p = (often l p : Int) := fun p => by rw [net_perm hp, net_often (fun x hx => (hl x hx).2)]
  have hz : ∀ e ∈ E, 0 ≤ e.1 := fun e he => by
    have h1 := hp.mem_iff.1 he
    unfold edges at h1
    obtain ⟨x, hx, h2⟩ := List.mem_flatMap.1 h1
    have h3 := hl x hx
    simp only [List.mem_cons, List.not_mem_nil, or_false] at h2
    rcases h2 with rfl | rfl
    · exact h3.1
    · show 0 ≤ x.1 + x.2.1; omega
  have ht : total E = 0 := by
    rw [total_perm hp]
    exact total_edges l
  obtain ⟨h1, h2⟩ := sweep_ok (E := E) (fun p => by rw [hn]; omega) E [] [] 0 rfl hU hz (Int.le_refl _) (fun e h => by cases h) (fun e h => hz e h) trivial (by show (-1 : Int) ≤ 0; decide) (fun p hp' => by
    rw [net_low (fun e he => by have := hz e he; omega)]
    rfl) ht
  exact ⟨h1, fun p => by rw [← hn p]; exact h2 p⟩
end Rf
end Go.Proofs.Ytinlgoljaiolnaa
namespace Go.Proofs.Ytinlgoljaiolnaa
set_option linter.unusedVariables false
namespace Rf
def nextOne (at_ : Int) (nx : Int) (x : Rfr) : Int := if x.1 ≤ at_ ∧ at_ < x.1 + x.2.1 then min nx (x.1 + x.2.1) else if at_ < x.1 then min nx x.1 else nx
def nextOf (l : List Rfr) (at_ en : Int) : Int := l.foldl (nextOne at_) en
theorem nextOne_le (at_ nx : Int) (x : Rfr) : nextOne at_ nx x ≤ nx := by
  unfold nextOne
  split
  · omega
  · split <;> omega
theorem nextOne_gt {at_ nx : Int} (x : Rfr) (h : at_ < nx) : at_ < nextOne at_ nx x := by
  unfold nextOne
  split
  · omega
  · split <;> omega
theorem next_le : ∀ (l : List Rfr) (at_ en : Int), nextOf l at_ en ≤ en
  | [], _, _ => Int.le_refl _
  | x :: l, at_, en => Int.le_trans (next_le l at_ (nextOne at_ en x)) (nextOne_le at_ en x)
theorem next_gt : ∀ (l : List Rfr) {at_ en : Int}, at_ < en → at_ < nextOf l at_ en
  | [], _, _, h => h
  | x :: l, at_, en, h => next_gt l (nextOne_gt x h)
theorem next_mid : ∀ {l : List Rfr} {at_ en p : Int}, at_ ≤ p → p < nextOf l at_ en → ∀ x ∈ l, (x.1 ≤ p ∧ p < x.1 + x.2.1) ↔ (x.1 ≤ at_ ∧ at_ < x.1 + x.2.1)
  | y :: l, at_, en, p, h1, h2, x, hx => by
    rcases List.mem_cons.1 hx with rfl | hx
    · have h3 : p < nextOne at_ en x := Int.lt_of_lt_of_le h2 (next_le l at_ (nextOne at_ en x))
      unfold nextOne at h3
      split at h3
      · omega
      · split at h3 <;> omega
    · exact next_mid (l := l) (en := nextOne at_ en y) h1 h2 x hx
theorem often_mid {l : List Rfr} {at_ en p : Int} (h1 : at_ ≤ p) (h2 : p < nextOf l at_ en) : often l p = often l at_ := by
  unfold often
  congr 1
  refine List.filter_congr (fun x hx => ?_)
  exact decide_eq_decide.2 (next_mid h1 h2 x hx)
def spanSteps (l : List Rfr) : Nat → List Cnr → Int → Int → List Cnr
  | 0, out, _, _ => out
  | f + 1, out, at_, en => if at_ < en then spanSteps l f (lay out at_ (often l at_ : Int) (nextOf l at_ en)) (nextOf l at_ en) en else out
structure Upto (l : List Rfr) (out : List Cnr) (at_ : Int) : Prop where
  steps : Steps (-1) 0 out
  ends : endOf (-1) out ≤ at_
  says_ : ∀ p, p < at_ → says out p = (often l p : Int)
theorem spanSteps_ok {l : List Rfr} {en : Int} : ∀ (f : Nat) {out : List Cnr} {at_ : Int}, Upto l out at_ → 0 ≤ at_ → at_ ≤ en → en - at_ ≤ (f : Int) → Upto l (spanSteps l f out at_ en) en
  | 0, out, at_, h, h0, h1, h2 => by
    obtain rfl : at_ = en := by omega
    exact h
  | f + 1, out, at_, h, h0, h1, h2 => by
    unfold spanSteps
    by_cases c : at_ < en
    · rw [if_pos c]
      have g1 := next_gt l c
      have g2 := next_le l at_ en
      obtain ⟨k1, k2, k3⟩ := lay_ok (n := (often l at_ : Int)) (to := nextOf l at_ en) h.steps h.ends (fun _ => Int.natCast_nonneg _) (by omega) h0
      refine spanSteps_ok f ⟨k1, k2, fun p hp => ?_⟩ (by omega) g2 (by omega)
      rw [k3]
      by_cases cp : at_ ≤ p
      · rw [if_pos ⟨cp, hp⟩, often_mid cp hp]
      · rw [if_neg (by omega), h.says_ p (by omega)]
    · rw [if_neg c]
      obtain rfl : at_ = en := by omega
      exact h
def spanAll (l : List Rfr) (S : List Spn) (out : List Cnr) : List Cnr := S.foldl (fun out x => spanSteps l x.2.toNat out x.1 (x.1 + x.2)) out
theorem spanAll_ok {l : List Rfr} : ∀ {S : List Spn} {out : List Cnr} {b : Int}, Ex.Gaps b S → 0 ≤ b → Upto l out b → (∀ p, b ≤ p → (0 < often l p ↔ Ex.has S p)) → Steps (-1) 0 (spanAll l S out) ∧ ∀ p, says (spanAll l S out) p = (often l p : Int)
  | [], out, b, hg, h0, h, hs => by
    refine ⟨h.steps, fun p => ?_⟩
    show says out p = _
    by_cases c : p < b
    · exact h.says_ p c
    · have hn : ¬ 0 < often l p := fun k => by obtain ⟨x, hx, -⟩ := (hs p (by omega)).1 k; cases hx
      rw [h.steps.high (by have := h.ends; omega)]
      omega
  | x :: S, out, b, ⟨g1, g2, g3⟩, h0, h, hs => by
    have hup : Upto l out x.1 := ⟨h.steps, by have := h.ends; omega, fun p hp => by
      by_cases c : p < b
      · exact h.says_ p c
      · have hn : ¬ 0 < often l p := fun k => by
          rcases Ex.has_cons.1 ((hs p (by omega)).1 k) with k | k
          · unfold Ex.inSpan at k; omega
          · exact g3.low (by omega) k
        rw [h.steps.high (by have := h.ends; omega)]
        omega⟩
    have h2 := spanSteps_ok x.2.toNat (en := x.1 + x.2) hup (by omega) (by omega) (by omega)
    have hend : Upto l (spanSteps l x.2.toNat out x.1 (x.1 + x.2)) (x.1 + x.2 + 1) := ⟨h2.steps, by have := h2.ends; omega, fun p hp => by
      by_cases c : p < x.1 + x.2
      · exact h2.says_ p c
      · have hn : ¬ 0 < often l p := fun k => by
          rcases Ex.has_cons.1 ((hs p (by omega)).1 k) with k | k
          · unfold Ex.inSpan at k; omega
          · exact g3.low (by omega) k
        rw [h2.steps.high (by have := h2.ends; omega)]
        omega⟩
    refine spanAll_ok (S := S) g3 (by omega) hend (fun p hp => ?_)
    rw [hs p (by omega), Ex.has_cons]
    constructor
    · rintro (k | k)
      · unfold Ex.inSpan at k; omega
      · exact k
    · exact fun k => .inr k
def spansOf (l : List Rfr) : List Spn := l.map fun x => (x.1, x.2.1)
theorem often_has {l : List Rfr} {p : Int} : 0 < often l p ↔ Ex.has (spansOf l) p := by
  unfold often Ex.has spansOf
  rw [List.length_pos_iff_exists_mem]
  constructor
  · rintro ⟨x, hx⟩
    obtain ⟨h1, h2⟩ := List.mem_filter.1 hx
    exact ⟨(x.1, x.2.1), List.mem_map.2 ⟨x, h1, rfl⟩, by simpa [Ex.inSpan] using h2⟩
  · rintro ⟨y, hy, h⟩
    obtain ⟨x, hx, rfl⟩ := List.mem_map.1 hy
    exact ⟨x, List.mem_filter.2 ⟨hx, by simpa [Ex.inSpan] using h⟩⟩
def countsD (l : List Rfr) : List Cnr := spanAll l (Ex.join (spansOf l)) []
theorem countsD_ok {l : List Rfr} (hl : ∀ x ∈ l, 0 ≤ x.1 ∧ 1 ≤ x.2.1) : Steps (-1) 0 (countsD l) ∧ ∀ p, says (countsD l) p = (often l p : Int) := by
  obtain ⟨h1, h2⟩ := Ex.join_ok (l := spansOf l) (b := 0) (fun y hy => by obtain ⟨x, hx, rfl⟩ := List.mem_map.1 hy; exact hl x hx)
  refine spanAll_ok h1 (Int.le_refl _) ⟨trivial, by show (-1 : Int) ≤ 0; decide, fun p hp => ?_⟩ (fun p hp => by rw [often_has, h2])
  have hn : ¬ 0 < often l p := fun k => by
    obtain ⟨y, hy, h⟩ := often_has.1 k
    obtain ⟨x, hx, rfl⟩ := List.mem_map.1 hy
    have := hl x hx
    unfold Ex.inSpan at h
    simp only at h
    omega
  show (0 : Int) = _
  omega
theorem counts_one {l : List Rfr} {E : List Edg} (hl : ∀ x ∈ l, 0 ≤ x.1 ∧ 1 ≤ x.2.1) (hp : E.Perm (edges l)) (hU : UpE E) : sweep E [] 0 0 = countsD l := by
  obtain ⟨a1, a2⟩ := sweep_counts (fun x hx => ⟨(hl x hx).1, by have := (hl x hx).2; omega⟩) hp hU
  obtain ⟨b1, b2⟩ := countsD_ok hl
  exact steps_unique a1 b1 (fun p => by rw [a2, b2])
end Rf
end Go.Proofs.Ytinlgoljaiolnaa
namespace Go.Proofs.Ytinlgoljaiolnaa
set_option linter.unusedVariables false
abbrev Mpr := Int × List Ext
namespace Rf
def allR (m : List Mpr) : List Rfr := m.flatMap fun o => o.2.map fun e => (e.2.1, e.2.2, o.1, e.1)
def cutR (x : Spn) (r : Rfr) : Option Rfr := if max r.1 x.1 < min (r.1 + r.2.1) (x.1 + x.2) then some (max r.1 x.1, min (r.1 + r.2.1) (x.1 + x.2) - max r.1 x.1, r.2.2.1, r.2.2.2 + max r.1 x.1 - r.1) else none
def cutA (x : Spn) (l : List Rfr) : List Rfr := l.filterMap (cutR x)
def Dj (a b : Rfr) : Prop := a.2.2.1 ≠ b.2.2.1 ∨ a.2.2.2 + a.2.1 ≤ b.2.2.2 ∨ b.2.2.2 + b.2.1 ≤ a.2.2.2
theorem cut_in {x : Spn} {a a' : Rfr} (h : cutR x a = some a') : a'.2.2.1 = a.2.2.1 ∧ a.2.2.2 ≤ a'.2.2.2 ∧ a'.2.2.2 < a.2.2.2 + a.2.1 ∧ 1 ≤ a'.2.1 := by
  unfold cutR at h
  split at h
  · cases h
    refine ⟨rfl, ?_, ?_, ?_⟩ <;> simp only <;> omega
  · cases h
theorem Dj.cut {x : Spn} {a b a' b' : Rfr} (h : Dj a b) (ha : cutR x a = some a') (hb : cutR x b = some b') : Lt a' b' ∨ Lt b' a' := by
  obtain ⟨a1, a2, a3, a4⟩ := cut_in ha
  obtain ⟨b1, b2, b3, b4⟩ := cut_in hb
  unfold Dj at h
  unfold Lt
  omega
structure OkM (m : List Mpr) : Prop where
  rise : m.Pairwise fun a b => a.1 < b.1
  lists : ∀ o ∈ m, o.2.Pairwise fun a b => a.1 + a.2.2 ≤ b.1
theorem all_dj {m : List Mpr} (h : OkM m) : (allR m).Pairwise Dj := by
  unfold allR
  rw [List.pairwise_flatMap]
  refine ⟨fun o ho => List.pairwise_map.2 ((h.lists o ho).imp fun {a b} k => .inr (.inl k)), h.rise.imp fun {a b} k x hx y hy => ?_⟩
  obtain ⟨e, -, rfl⟩ := List.mem_map.1 hx
  obtain ⟨e', -, rfl⟩ := List.mem_map.1 hy
  exact .inl (by show a.1 ≠ b.1; omega)
theorem cut_apart {m : List Mpr} (h : OkM m) (x : Spn) : Apart (cutA x (allR m)) := by
  unfold Apart cutA
  rw [List.pairwise_filterMap]
  refine List.Pairwise.imp ?_ (all_dj h)
  intro a b k a' ha b' hb
  exact Dj.cut k ha hb
def whoR (x : Spn) (m : List Mpr) : List Rfr := sort (cutA x (allR m))
theorem who_landed {x : Spn} {m : List Mpr} {D : List Rfr} (h : OkM m) (hp : D.Perm (cutA x (allR m))) (hu : Up D) : D = whoR x m := sort_any (cut_apart h x) hp hu
end Rf
end Go.Proofs.Ytinlgoljaiolnaa
