/-
  Octets that may be written over, and hosts of them. It imports no program. Conditions: those that each lemma names.
-/
import Derived.Test.YtckcicomkapdeaaHSpec
import Derived.Test.YtckcicomkapdeaaROwn
namespace Go.Proofs.Ytckcicomkapdeaa
open Go.RowKit
set_option linter.unusedVariables false

/-- Octets of which no cell is frozen. -/
def rFree : Rep (List UInt8) where
  size := 1
  bytes := 24
  rd w P cs l := rBytes.rd w P cs l ∧ ∀ a n c, cs = [.slice a n c] → ∀ x, a = some x → ∀ j, j < n → w.frozen? (x.add j) = false
  len h := rBytes.len h.1
  one h := rBytes.one h.1
  keep := by
    rintro w w' P cs l ⟨h1, h2⟩ hk
    refine ⟨rBytes.keep h1 hk, fun a n c e x hx j hj => ?_⟩
    have h3 := h2 a n c e x hx j hj
    obtain ⟨a', n', c', e', g1, g2, g3, g4, g5⟩ := h1
    rw [e] at e'
    simp only [List.cons.injEq, Value.slice.injEq, and_true] at e'
    obtain ⟨rfl, rfl, rfl⟩ := e'
    have hb := Elems.block (by decide) (g5 x hx) j (by omega)
    obtain ⟨hp, _⟩ := g5 x hx j (by omega)
    rw [World.frozen?_of_block (w := w) (w' := w') (a := x.add j) (by rw [add_block]; exact hk _ hp hb)]
    exact h3
  weaken := by
    rintro w P P' cs l ⟨h1, h2⟩ hk
    exact ⟨rBytes.weaken h1 hk, h2⟩

theorem rFree.toBytes {w : World} {P : Nat → Prop} {cs : List Value} {l : List UInt8} (h : rFree.rd w P cs l) : rBytes.rd w P cs l := h.1

def rFrees : Rep (List (List UInt8)) := rList rFree (by decide)
def rActF : Rep Act := rPair rInt (rPair rInt rFree)
def rWaitsF : Rep (List Act) := rList rActF (by decide)
def rHostF : Rep Host := rPair rFrees (rPair rWaitsF rInt)

theorem rList_map {α : Type} {A B : Rep α} {hs : 0 < A.size} {hs' : 0 < B.size} (h1 : A.size = B.size) (h2 : A.bytes = B.bytes) (h : ∀ w P cs x, A.rd w P cs x → B.rd w P cs x) {w : World} {P : Nat → Prop} {cs : List Value} {l : List α} (hl : (rList A hs).rd w P cs l) : (rList B hs').rd w P cs l := by
  obtain ⟨a, n, c, rfl, g1, g2, g3, g4, g5⟩ := hl
  refine ⟨a, n, c, rfl, g1, g2, g3, by rw [← h2]; exact g4, fun x hx j hj => ?_⟩
  obtain ⟨hp, cj, k1, k2⟩ := g5 x hx j hj
  exact ⟨hp, cj, h _ _ _ _ k1, by rw [← h1]; exact k2⟩

theorem frees_sectors {w : World} {P : Nat → Prop} {cs : List Value} {l : List (List UInt8)} (h : rFrees.rd w P cs l) : rSectors.rd w P cs l := rList_map (A := rFree) (B := rBytes) rfl rfl (fun _ _ _ _ h => And.left h) h
theorem actF_act {w : World} {P : Nat → Prop} {cs : List Value} {a : Act} (h : rActF.rd w P cs a) : rAct.rd w P cs a := by
  obtain ⟨c, d, e, h1, c', d', e', h2, h3⟩ := h
  exact ⟨c, d, e, h1, c', d', e', h2, h3.1⟩
theorem waitsF_waits {w : World} {P : Nat → Prop} {cs : List Value} {l : List Act} (h : rWaitsF.rd w P cs l) : rWaits.rd w P cs l :=
  rList_map (A := rActF) (B := rAct) rfl rfl (fun _ _ _ _ h => actF_act h) h
theorem hostF_host {w : World} {P : Nat → Prop} {cs : List Value} {s : Host} (h : rHostF.rd w P cs s) : rHost.rd w P cs s := by
  obtain ⟨c, d, e, h1, c', d', e', h2, h3⟩ := h
  exact ⟨c, d, e, frees_sectors h1, c', d', e', waitsF_waits h2, h3⟩

end Go.Proofs.Ytckcicomkapdeaa
