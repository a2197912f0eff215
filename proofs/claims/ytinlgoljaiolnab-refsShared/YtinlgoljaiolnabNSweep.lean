/-
  Plain functions: counts made by a sweep over edges, as the landed counted makes them, are how often each sector is referred to. It imports no program. Conditions: those that each lemma names.
-/
import Derived.Test.YtinlgoljaiolnabNSpec
namespace Go.Proofs.Ytinlgoljaiolnab
set_option linter.unusedVariables false

abbrev Edg := Int × Int

namespace Rf

def edges (l : List Rfr) : List Edg := l.flatMap fun x => [(x.1, 1), (x.1 + x.2.1, -1)]
/-- What the edges up to a sector come to. -/
def net : List Edg → Int → Int
  | [], _ => 0
  | e :: l, p => (if e.1 ≤ p then e.2 else 0) + net l p
def total (l : List Edg) : Int := (l.map (·.2)).sum

theorem net_append (a b : List Edg) (p : Int) : net (a ++ b) p = net a p + net b p := by
  induction a with
  | nil => simp [net]
  | cons e a ih =>
    show (if e.1 ≤ p then e.2 else 0) + net (a ++ b) p = (if e.1 ≤ p then e.2 else 0) + net a p + net b p
    rw [ih, Int.add_assoc]
theorem net_perm {a b : List Edg} (h : a.Perm b) (p : Int) : net a p = net b p := by
  induction h with
  | nil => rfl
  | cons x _ ih => unfold net; rw [ih]
  | swap x y l => simp only [net]; omega
  | trans _ _ ih1 ih2 => exact ih1.trans ih2
theorem total_perm {a b : List Edg} (h : a.Perm b) : total a = total b := by
  induction h with
  | nil => rfl
  | cons x _ ih => unfold total at ih ⊢; simp only [List.map_cons, List.sum_cons, ih]
  | swap x y l => unfold total; simp only [List.map_cons, List.sum_cons]; omega
  | trans _ _ ih1 ih2 => exact ih1.trans ih2
theorem net_low {l : List Edg} {p : Int} (h : ∀ e ∈ l, p < e.1) : net l p = 0 := by
  induction l with
  | nil => rfl
  | cons e l ih =>
    unfold net
    have := h e (by simp)
    rw [if_neg (by omega), ih (fun x hx => h x (by simp [hx]))]
    rfl
theorem net_high {l : List Edg} {p : Int} (h : ∀ e ∈ l, e.1 ≤ p) : net l p = total l := by
  induction l with
  | nil => rfl
  | cons e l ih =>
    unfold net
    rw [if_pos (h e (by simp)), ih (fun x hx => h x (by simp [hx]))]
    simp [total]
/-- The edges say how often a sector is referred to. -/
theorem net_often : ∀ {l : List Rfr}, (∀ x ∈ l, 0 ≤ x.2.1) → ∀ p, net (edges l) p = (often l p : Int)
  | [], _, p => rfl
  | x :: l, h, p => by
    have h0 := h x (by simp)
    rw [often_cons, show edges (x :: l) = [(x.1, 1), (x.1 + x.2.1, -1)] ++ edges l from rfl, net_append, net_often (fun y hy => h y (by simp [hy])) p]
    simp only [net]
    by_cases c1 : x.1 ≤ p
    · by_cases c2 : x.1 + x.2.1 ≤ p
      · rw [if_pos c1, if_pos c2, if_neg (by omega)]; simp
      · rw [if_pos c1, if_neg c2, if_pos (by omega)]; simp
    · rw [if_neg c1, if_neg (by omega), if_neg (by omega)]; simp

/-- Sectors from one place to another, each referred to so often, laid behind what was laid. -/
def lay (out : List Cnr) (at_ n to : Int) : List Cnr :=
  if n = 0 ∨ at_ = to then out
  else match out.getLast? with
    | none => out ++ [(at_, to - at_, n)]
    | some y => if y.1 + y.2.1 = at_ ∧ y.2.2 = n then out.dropLast ++ [(y.1, y.2.1 + (to - at_), y.2.2)] else out ++ [(at_, to - at_, n)]
def sweep : List Edg → List Cnr → Int → Int → List Cnr
  | [], out, _, _ => out
  | e :: l, out, at_, n => sweep l (lay out at_ n e.1) e.1 (n + e.2)

/-- Where counts end, and with which number. -/
def endOf (b : Int) : List Cnr → Int
  | [] => b
  | x :: l => endOf (x.1 + x.2.1) l
def numOf (n : Int) : List Cnr → Int
  | [] => n
  | x :: l => numOf x.2.2 l

theorem steps_append : ∀ {l m : List Cnr} {b n : Int}, Steps b n (l ++ m) ↔ Steps b n l ∧ Steps (endOf b l) (numOf n l) m
  | [], m, b, n => by simp [Steps, endOf, numOf]
  | x :: l, m, b, n => by
    simp only [List.cons_append, Steps, endOf, numOf]
    rw [steps_append]
    constructor
    · rintro ⟨h1, h2, h3, h4, h5, h6⟩; exact ⟨⟨h1, h2, h3, h4, h5⟩, h6⟩
    · rintro ⟨⟨h1, h2, h3, h4, h5⟩, h6⟩; exact ⟨h1, h2, h3, h4, h5, h6⟩
theorem endOf_append (l : List Cnr) (x : Cnr) : ∀ b : Int, endOf b (l ++ [x]) = x.1 + x.2.1 := by
  induction l with
  | nil => intro b; rfl
  | cons y l ih => intro b; exact ih _
theorem numOf_append (l : List Cnr) (x : Cnr) : ∀ n : Int, numOf n (l ++ [x]) = x.2.2 := by
  induction l with
  | nil => intro b; rfl
  | cons y l ih => intro b; exact ih _
theorem Steps.end_le : ∀ {l : List Cnr} {b n : Int}, Steps b n l → b ≤ endOf b l
  | [], b, _, _ => Int.le_refl _
  | x :: l, b, n, ⟨h1, h2, h3, h4, h5⟩ => by have := h5.end_le; simp only [endOf]; omega
theorem Steps.high : ∀ {l : List Cnr} {b n : Int}, Steps b n l → ∀ {p : Int}, endOf b l ≤ p → says l p = 0
  | [], _, _, _, _, _ => rfl
  | x :: l, b, n, ⟨h1, h2, h3, h4, h5⟩, p, hp => by
    have h6 := h5.end_le
    simp only [endOf] at hp
    unfold says
    rw [if_neg (by omega)]
    exact h5.high hp
theorem says_append : ∀ {l : List Cnr} {b n : Int}, Steps b n l → ∀ (x : Cnr), 1 ≤ x.2.1 → endOf b l ≤ x.1 → ∀ p : Int, says (l ++ [x]) p = if x.1 ≤ p ∧ p < x.1 + x.2.1 then x.2.2 else says l p
  | [], b, n, _, x, _, _, p => rfl
  | y :: l, b, n, ⟨h1, h2, h3, h4, h5⟩, x, hx, he, p => by
    have h6 := h5.end_le
    simp only [endOf] at he
    rw [List.cons_append]
    show (if y.1 ≤ p ∧ p < y.1 + y.2.1 then y.2.2 else says (l ++ [x]) p) = if x.1 ≤ p ∧ p < x.1 + x.2.1 then x.2.2 else (if y.1 ≤ p ∧ p < y.1 + y.2.1 then y.2.2 else says l p)
    by_cases c : y.1 ≤ p ∧ p < y.1 + y.2.1
    · rw [if_pos c, if_neg (by omega), if_pos c]
    · rw [if_neg c, if_neg c, says_append h5 x hx he p]

/-- One stretch laid: in order still, and saying so. -/
theorem lay_ok {out : List Cnr} {at_ n to : Int} (h : Steps (-1) 0 out) (he : endOf (-1) out ≤ at_) (hn : at_ ≠ to → 0 ≤ n) (ht : at_ ≤ to) (h0 : 0 ≤ at_) :
    Steps (-1) 0 (lay out at_ n to) ∧ endOf (-1) (lay out at_ n to) ≤ to ∧ ∀ p, says (lay out at_ n to) p = if at_ ≤ p ∧ p < to then n else says out p := by
  unfold lay
  by_cases c : n = 0 ∨ at_ = to
  · rw [if_pos c]
    refine ⟨h, by omega, fun p => ?_⟩
    by_cases cp : at_ ≤ p ∧ p < to
    · rw [if_pos cp, h.high (by omega)]; omega
    · rw [if_neg cp]
  · rw [if_neg c]
    have hne : at_ ≠ to := fun e => c (.inr e)
    have hn1 : 1 ≤ n := by have := hn hne; omega
    have fresh : (numOf 0 out = n → endOf (-1) out ≠ at_) → Steps (-1) 0 (out ++ [(at_, to - at_, n)]) ∧ endOf (-1) (out ++ [(at_, to - at_, n)]) ≤ to ∧ ∀ p, says (out ++ [(at_, to - at_, n)]) p = if at_ ≤ p ∧ p < to then n else says out p := fun hx => by
      refine ⟨steps_append.2 ⟨h, he, by show 1 ≤ to - at_; omega, hn1, fun e e2 => hx e2.symm e.symm, trivial⟩, by rw [endOf_append]; show at_ + (to - at_) ≤ to; omega, fun p => ?_⟩
      rw [says_append h _ (by show 1 ≤ to - at_; omega) he]
      have e1 : at_ + (to - at_) = to := by omega
      simp only [e1]
    cases hl : out.getLast? with
    | none =>
      simp only
      refine fresh (fun _ e => ?_)
      rw [List.getLast?_eq_none_iff.1 hl] at e
      simp only [endOf] at e
      omega
    | some y =>
      obtain ⟨m, rfl⟩ : ∃ m, out = m ++ [y] := by
        rcases List.eq_nil_or_concat out with e | ⟨m, z, e⟩
        · rw [e] at hl; cases hl
        · rw [e, List.concat_eq_append, List.getLast?_append] at hl
          refine ⟨m, ?_⟩
          rw [e, List.concat_eq_append]
          simp only [List.getLast?_singleton, Option.some_or, Option.some.injEq] at hl
          rw [hl]
      simp only
      by_cases cy : y.1 + y.2.1 = at_ ∧ y.2.2 = n
      · rw [if_pos cy, List.dropLast_concat]
        obtain ⟨g1, g2, g3, g4, g5, -⟩ := steps_append.1 h
        refine ⟨steps_append.2 ⟨g1, g2, by show 1 ≤ y.2.1 + (to - at_); omega, g4, g5, trivial⟩, by rw [endOf_append]; show y.1 + (y.2.1 + (to - at_)) ≤ to; omega, fun p => ?_⟩
        rw [says_append g1 (y.1, y.2.1 + (to - at_), y.2.2) (by show 1 ≤ y.2.1 + (to - at_); omega) g2 p, says_append g1 y g3 g2 p]
        simp only
        by_cases c1 : at_ ≤ p ∧ p < to
        · rw [if_pos c1, if_pos (by omega)]; exact cy.2
        · rw [if_neg c1]
          by_cases c2 : y.1 ≤ p ∧ p < y.1 + y.2.1
          · rw [if_pos c2, if_pos (by omega)]
          · rw [if_neg c2, if_neg (by omega)]
      · rw [if_neg cy]
        refine fresh (fun e1 e2 => cy ⟨?_, ?_⟩)
        · rw [endOf_append] at e2; exact e2
        · rw [numOf_append] at e1; exact e1

def UpE (l : List Edg) : Prop := l.Pairwise fun a b => a.1 ≤ b.1

/-- The sweep, from any place on. -/
theorem sweep_ok {E : List Edg} (hpos : ∀ p, 0 ≤ net E p) : ∀ (rest done : List Edg) (out : List Cnr) (at_ : Int), E = done ++ rest → UpE E → (∀ e ∈ E, 0 ≤ e.1) → 0 ≤ at_ → (∀ e ∈ done, e.1 ≤ at_) → (∀ e ∈ rest, at_ ≤ e.1) →
    Steps (-1) 0 out → endOf (-1) out ≤ at_ → (∀ p, p < at_ → says out p = net E p) → total E = 0 → Steps (-1) 0 (sweep rest out at_ (total done)) ∧ ∀ p, says (sweep rest out at_ (total done)) p = net E p
  | [], done, out, at_, hE, hU, hz, h0, hd, hr, hS, he, hs, ht => by
    rw [List.append_nil] at hE
    refine ⟨hS, fun p => ?_⟩
    show says out p = net E p
    by_cases c : p < at_
    · exact hs p c
    · rw [hS.high (by omega), hE, net_high (fun e h => by have := hd e h; omega), ← hE, ht]
  | e :: rest, done, out, at_, hE, hU, hz, h0, hd, hr, hS, he, hs, ht => by
    have hre := hr e (by simp)
    have hUr : ∀ x ∈ rest, e.1 ≤ x.1 := fun x hx => by
      rw [hE] at hU
      have h1 := (List.pairwise_append.1 hU).2.1
      exact (List.pairwise_cons.1 h1).1 x hx
    have hmid : ∀ p, at_ ≤ p → p < e.1 → net E p = total done := fun p h1 h2 => by
      rw [hE, net_append, net_high (fun x hx => by have := hd x hx; omega), net_low (fun x hx => by
        rcases List.mem_cons.1 hx with rfl | hx
        · exact h2
        · have := hUr x hx; omega)]
      omega
    obtain ⟨k1, k2, k3⟩ := lay_ok (n := total done) (to := e.1) hS he (fun hne => by rw [← hmid at_ (Int.le_refl _) (by omega)]; exact hpos at_) hre h0
    have hE2 : E = (done ++ [e]) ++ rest := by rw [hE]; simp
    have ht2 : total (done ++ [e]) = total done + e.2 := by unfold total; simp
    show Steps (-1) 0 (sweep rest (lay out at_ (total done) e.1) e.1 (total done + e.2)) ∧ ∀ p, says (sweep rest (lay out at_ (total done) e.1) e.1 (total done + e.2)) p = net E p
    rw [← ht2]
    refine sweep_ok hpos rest (done ++ [e]) _ e.1 hE2 hU hz (by omega) (fun x hx => ?_) hUr k1 k2 (fun p hp => ?_) ht
    · rcases List.mem_append.1 hx with hx | hx
      · have := hd x hx; omega
      · obtain rfl := List.mem_singleton.1 hx; exact Int.le_refl _
    · rw [k3]
      by_cases c : at_ ≤ p
      · rw [if_pos ⟨c, hp⟩, hmid p c hp]
      · rw [if_neg (by omega), hs p (by omega)]

theorem total_edges : ∀ l : List Rfr, total (edges l) = 0
  | [] => rfl
  | x :: l => by
    rw [show edges (x :: l) = [(x.1, 1), (x.1 + x.2.1, -1)] ++ edges l from rfl]
    have h := total_edges l
    unfold total at h ⊢
    rw [List.map_append, List.sum_append, h]
    rfl

/-- The counts of references, whatever order their edges were sorted into. -/
theorem sweep_counts {l : List Rfr} {E : List Edg} (hl : ∀ x ∈ l, 0 ≤ x.1 ∧ 0 ≤ x.2.1) (hp : E.Perm (edges l)) (hU : UpE E) : Steps (-1) 0 (sweep E [] 0 0) ∧ ∀ p, says (sweep E [] 0 0) p = (often l p : Int) := by
  have hn : ∀ p, net E p = (often l p : Int) := fun p => by rw [net_perm hp, net_often (fun x hx => (hl x hx).2)]
  have hz : ∀ e ∈ E, 0 ≤ e.1 := fun e he => by
    have h1 := hp.mem_iff.1 he
    unfold edges at h1
    obtain ⟨x, hx, h2⟩ := List.mem_flatMap.1 h1
    have h3 := hl x hx
    simp only [List.mem_cons, List.not_mem_nil, or_false] at h2
    rcases h2 with rfl | rfl
    · exact h3.1
    · show 0 ≤ x.1 + x.2.1; omega
  have ht : total E = 0 := by
    rw [total_perm hp]
    exact total_edges l
  obtain ⟨h1, h2⟩ := sweep_ok (E := E) (fun p => by rw [hn]; omega) E [] [] 0 rfl hU hz (Int.le_refl _) (fun e h => by cases h) (fun e h => hz e h) trivial (by show (-1 : Int) ≤ 0; decide) (fun p hp' => by
    rw [net_low (fun e he => by have := hz e he; omega)]
    rfl) ht
  exact ⟨h1, fun p => by rw [← hn p]; exact h2 p⟩

end Rf
end Go.Proofs.Ytinlgoljaiolnab
