/-
  Facts that the proof rests on, part 1. Conditions: those that each of them names.
-/
import Derived.Deep.MidRow
import Derived.Maps.AppendAt
import Derived.WalkKit
import Derived.WalkLawsBesides
import Derived.WalkSpells
namespace Go.Proofs.Ytinlgoljaiolnaa
open Go.RowKit
set_option linter.unusedVariables false
structure Rep (α : Type) where
  size : Nat
  bytes : Nat
  rd : World → (Nat → Prop) → List Value → α → Prop
  len : ∀ {w : World} {P : Nat → Prop} {cs : List Value} {x : α}, rd w P cs x → cs.length = size
  one : ∀ {w : World} {P : Nat → Prop} {cs : List Value} {x : α}, rd w P cs x → ∀ v ∈ cs, v.oneCell' = true
  keep : ∀ {w w' : World} {P : Nat → Prop} {cs : List Value} {x : α}, rd w P cs x → (∀ b, P b → b < w.heap.size → w'.heap[b]? = w.heap[b]?) → rd w' P cs x
  weaken : ∀ {w : World} {P P' : Nat → Prop} {cs : List Value} {x : α}, rd w P cs x → (∀ b, P b → b < w.heap.size → P' b) → rd w P' cs x
def rInt : Rep Int where
  size := 1
  bytes := 8
  rd _ _ cs x := cs = [.int .i64 x] ∧ -9223372036854775808 ≤ x ∧ x ≤ 9223372036854775807
  len h := by rw [h.1]; rfl
  one h v hv := by rw [h.1] at hv; simp at hv; subst hv; rfl
  keep h _ := h
  weaken h _ := h
def rPair {α β : Type} (A : Rep α) (B : Rep β) : Rep (α × β) where
  size := A.size + B.size
  bytes := A.bytes + B.bytes
  rd w P cs x := ∃ c d, cs = c ++ d ∧ A.rd w P c x.1 ∧ B.rd w P d x.2
  len := by rintro w P cs x ⟨c, d, rfl, h1, h2⟩; rw [List.length_append, A.len h1, B.len h2]
  one := by
    rintro w P cs x ⟨c, d, rfl, h1, h2⟩ v hv
    rcases List.mem_append.1 hv with hv | hv
    · exact A.one h1 v hv
    · exact B.one h2 v hv
  keep := by rintro w w' P cs x ⟨c, d, rfl, h1, h2⟩ hk; exact ⟨c, d, rfl, A.keep h1 hk, B.keep h2 hk⟩
  weaken := by rintro w P P' cs x ⟨c, d, rfl, h1, h2⟩ hk; exact ⟨c, d, rfl, A.weaken h1 hk, B.weaken h2 hk⟩
def Elems {α : Type} (A : Rep α) (w : World) (P : Nat → Prop) (x : Addr) (l : List α) : Prop :=
  ∀ (j : Nat) (h : j < l.length), P x.block ∧ ∃ cj, A.rd w P cj l[j] ∧ ∀ (k : Nat) (v : Value), cj[k]? = some v → w.cell? (x.add (j * A.size + k)) = some v
theorem add_block (x : Addr) (k : Nat) : (x.add k).block = x.block := by unfold Addr.add; split <;> rfl
theorem Elems.block {α : Type} {A : Rep α} {w : World} {P : Nat → Prop} {x : Addr} {l : List α} (hs : 0 < A.size) (h : Elems A w P x l) (j : Nat) (hj : j < l.length) : x.block < w.heap.size := by
  obtain ⟨_, cj, h1, h2⟩ := h j hj
  have hl := A.len h1
  have := h2 0 _ (List.getElem?_eq_getElem (by omega))
  have hb := World.block_lt_of_cell? w _ this
  rwa [add_block] at hb
def rList {α : Type} (A : Rep α) (hs : 0 < A.size) : Rep (List α) where
  size := 1
  bytes := 24
  rd w P cs l := ∃ a n c, cs = [.slice a n c] ∧ l.length = n ∧ n ≤ c ∧ (a = none → c = 0) ∧ n * A.bytes ≤ 140737488351232 ∧ ∀ x, a = some x → Elems A w P x l
  len := by rintro w P cs x ⟨a, n, c, rfl, _⟩; rfl
  one := by rintro w P cs x ⟨a, n, c, rfl, _⟩ v hv; simp at hv; subst hv; rfl
  keep := by
    rintro w w' P cs l ⟨a, n, c, rfl, h1, h2, h3, h4, h5⟩ hk
    refine ⟨a, n, c, rfl, h1, h2, h3, h4, fun x hx j hj => ?_⟩
    have hb := Elems.block hs (h5 x hx) j hj
    obtain ⟨hp, cj, g1, g2⟩ := h5 x hx j hj
    refine ⟨hp, cj, A.keep g1 hk, fun k v hv => ?_⟩
    have := World.cell?_of_block (w := w) (w' := w') (a := x.add (j * A.size + k)) (by rw [add_block]; exact hk _ hp hb)
    rw [this]
    exact g2 k v hv
  weaken := by
    rintro w P P' cs l ⟨a, n, c, rfl, h1, h2, h3, h4, h5⟩ hk
    refine ⟨a, n, c, rfl, h1, h2, h3, h4, fun x hx j hj => ?_⟩
    have hb := Elems.block hs (h5 x hx) j hj
    obtain ⟨hp, cj, g1, g2⟩ := h5 x hx j hj
    exact ⟨hk _ hp hb, cj, A.weaken g1 hk, g2⟩
def rdAll {α : Type} (A : Rep α) (w : World) (P : Nat → Prop) : List Value → List α → Prop
  | xs, [] => xs = []
  | xs, x :: l => ∃ c r, xs = c ++ r ∧ A.rd w P c x ∧ rdAll A w P r l
theorem rdAll_one {α : Type} {A : Rep α} {w : World} {P : Nat → Prop} : ∀ {l : List α} {xs : List Value}, rdAll A w P xs l → ∀ v ∈ xs, v.oneCell' = true
  | [], _, h, v, hv => by rw [show _ = [] from h] at hv; cases hv
  | _ :: _, _, ⟨c, r, e, h1, h2⟩, v, hv => by
    rw [e] at hv
    rcases List.mem_append.1 hv with hv | hv
    · exact A.one h1 v hv
    · exact rdAll_one h2 v hv
theorem rdAll_keep {α : Type} {A : Rep α} {w w' : World} {P : Nat → Prop} (hk : ∀ b, P b → b < w.heap.size → w'.heap[b]? = w.heap[b]?) : ∀ {l : List α} {xs : List Value}, rdAll A w P xs l → rdAll A w' P xs l
  | [], _, h => h
  | _ :: _, _, ⟨c, r, e, h1, h2⟩ => ⟨c, r, e, A.keep h1 hk, rdAll_keep hk h2⟩
theorem rdAll_weaken {α : Type} {A : Rep α} {w : World} {P P' : Nat → Prop} (hk : ∀ b, P b → b < w.heap.size → P' b) : ∀ {l : List α} {xs : List Value}, rdAll A w P xs l → rdAll A w P' xs l
  | [], _, h => h
  | _ :: _, _, ⟨c, r, e, h1, h2⟩ => ⟨c, r, e, A.weaken h1 hk, rdAll_weaken hk h2⟩
theorem rdAll_append {α : Type} {A : Rep α} {w : World} {P : Nat → Prop} : ∀ {l m : List α} {xs ys : List Value}, rdAll A w P xs l → rdAll A w P ys m → rdAll A w P (xs ++ ys) (l ++ m)
  | [], _, _, _, h, k => by rw [show _ = [] from h]; exact k
  | _ :: _, _, _, _, ⟨c, r, e, h1, h2⟩, k => ⟨c, r ++ _, by rw [e, List.append_assoc], h1, rdAll_append h2 k⟩
theorem rdAll_one_elem {α : Type} {A : Rep α} {w : World} {P : Nat → Prop} {c : List Value} {x : α} (h : A.rd w P c x) : rdAll A w P c [x] := ⟨c, [], by simp, h, rfl⟩
theorem rdAll_get {α : Type} {A : Rep α} {w : World} {P : Nat → Prop} : ∀ {l : List α} {xs : List Value}, rdAll A w P xs l → ∀ (j : Nat) (h : j < l.length),
    ∃ cj, A.rd w P cj l[j] ∧ ∀ (k : Nat) (v : Value), cj[k]? = some v → xs[j * A.size + k]? = some v
  | _ :: l, _, ⟨c, r, e, h1, h2⟩, 0, _ => ⟨c, h1, fun k v hv => by
      have hk := (List.getElem?_eq_some_iff.1 hv).1
      rw [e, Nat.zero_mul, Nat.zero_add, List.getElem?_append_left hk]; exact hv⟩
  | _ :: l, _, ⟨c, r, e, h1, h2⟩, j + 1, h => by
    obtain ⟨cj, g1, g2⟩ := rdAll_get h2 j (by simpa using h)
    have e1 := A.len h1
    refine ⟨cj, by simpa using g1, fun k v hv => ?_⟩
    have e2 : (j + 1) * A.size + k = c.length + (j * A.size + k) := by rw [e1, Nat.add_mul]; omega
    rw [e, e2, List.getElem?_append_right (by omega), Nat.add_sub_cancel_left]
    exact g2 k v hv
theorem rd_owned {α : Type} {A : Rep α} {hs : 0 < A.size} {w : World} {P : Nat → Prop} {base e n : Nat} {v : Value} {xs : List Value} {l : List α}
    (ho : w.ownsRow base e A.size v n xs) (hr : rdAll A w P xs l) (hn : n = l.length) (hb : n * A.bytes ≤ 140737488351232) (hP : ∀ b, v.ownBlock = some b → P b) :
    ∃ a c, v = .slice a n c ∧ (rList A hs).rd w P [.slice a n c] l := by
  subst hn
  rcases ho.2 with ⟨rfl, e0⟩ | ⟨g, cap, cur, rfl, h1, h2, h3, h4, h5, h6⟩
  · exact ⟨none, 0, by rw [e0], none, _, 0, rfl, rfl, by omega, fun _ => rfl, hb, fun x hx => by cases hx⟩
  · refine ⟨_, cap, rfl, _, _, cap, rfl, rfl, h3, (fun (h : some _ = none) => by cases h), hb, fun x hx j hj => ?_⟩
    simp only [Option.some.injEq] at hx
    subst hx
    refine ⟨hP g rfl, ?_⟩
    obtain ⟨cj, g1, g2⟩ := rdAll_get hr j hj
    exact ⟨cj, g1, fun k u hu => ho.cells (g := g) rfl _ u (g2 k u hu)⟩
theorem Rep.below {α : Type} {A : Rep α} {w w' : World} {P : Nat → Prop} {cs : List Value} {x : α} (h : A.rd w P cs x) (k : Below w.heap.size w w') : A.rd w' P cs x :=
  A.keep h fun b _ hl => k.block b hl
end Go.Proofs.Ytinlgoljaiolnaa
