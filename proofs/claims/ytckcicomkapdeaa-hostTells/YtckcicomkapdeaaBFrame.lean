/-
  What a law's walk is told of its arguments, and how it is read as octets, as widths and as numbers. Conditions: none but those that each lemma names.
-/
import Derived.Test.YtckcicomkapdeaaRows
import Derived.Test.YtckcicomkapdeaaBytes
import Derived.ProofKit
import Derived.OpenShut
import Derived.ShutString
import Derived.ChangeOld
import Derived.SizedLaws
namespace Go.Proofs.Ytckcicomkapdeaa
open Go.ChangeShapes Go.WideShapes Go.ChangeAt Go.RowKit
set_option linter.unusedVariables false

theorem own : ownKnob Try.prog.godebug = none := by kernel_rfl
theorem laidOut : laidOutB Try.prog = true := by kernel_rfl

/-- A slice of integers that came in: nil, or a row of 'cap' cells, the numbers 'zs'; so many octets at most. -/
def IsRow (k : IntKind) (bytes : Nat) (w : World) (a : Option Addr) (len cap : Nat) (zs : List Int) : Prop :=
  cap * bytes ≤ 140737488351232 ∧
  ((a = none ∧ len = 0 ∧ cap = 0 ∧ zs = []) ∨
  ∃ x, a = some x ∧ len ≤ cap ∧ cap ≤ maxLen ∧ zs.length = cap ∧ (∀ i, i < zs.length → w.cell? (x.add i) = some (.int k (zs.getD i 0))) ∧ ∀ n ∈ zs, (Lit.int k n).wf = true)

theorem wf_u64 {n : Int} (h : (Lit.int .u64 n).wf = true) : ∃ m : Nat, n = (m : Int) ∧ m < 18446744073709551616 := by
  have := bounds_u64 h
  exact ⟨n.toNat, by omega, by omega⟩

theorem wf_u32 {n : Int} (h : (Lit.int .u32 n).wf = true) : ∃ m : Nat, n = (m : Int) ∧ m < 4294967296 := by
  have := bounds_u32 h
  exact ⟨n.toNat, by omega, by omega⟩

/-- A slice of integers reads as l. -/
def IsN (k : IntKind) (w : World) (a : Option Addr) (n : Nat) (l : List Int) : Prop :=
  l.length = n ∧ (a = none → n = 0) ∧ ∀ x, a = some x → ∀ j (h : j < l.length), w.cell? (x.add j) = some (.int k l[j])

theorem IsRow.ints {k : IntKind} {bytes : Nat} {w : World} {a : Option Addr} {len cap : Nat} {zs : List Int} (h : IsRow k bytes w a len cap zs) :
    ∃ l, IsN k w a len l ∧ len ≤ cap ∧ (a = none → cap = 0) ∧ (∀ n ∈ l, (Lit.int k n).wf = true) := by
  obtain ⟨_, ⟨rfl, rfl, rfl, rfl⟩ | ⟨x, rfl, h1, h2, h3, h4, h5⟩⟩ := h
  · exact ⟨[], ⟨rfl, fun _ => rfl, fun _ e => by cases e⟩, Nat.le_refl _, fun _ => rfl, fun n hn => by cases hn⟩
  · refine ⟨zs.take len, ⟨by simp; omega, fun (e : some x = none) => (by cases e), fun y hy j hj => ?_⟩, h1, fun (e : some x = none) => (by cases e), fun n hn => h5 n (List.mem_of_mem_take hn)⟩
    simp only [Option.some.injEq] at hy
    subst hy
    have hj' : j < zs.length := by simp at hj; omega
    rw [h4 j hj']
    simp [List.getD, List.getElem?_eq_getElem hj']

theorem IsRow.octets {w : World} {a : Option Addr} {len cap : Nat} {zs : List Int} (h : IsRow .u8 1 w a len cap zs) :
    ∃ l, IsB w a len l ∧ len ≤ cap ∧ (a = none → cap = 0) ∧ len ≤ 140737488351232 := by
  obtain ⟨l, ⟨h1, h2, h3⟩, h4, h5, h6⟩ := h.ints
  refine ⟨l.map fun z => UInt8.ofNat z.toNat, ⟨by simpa using h1, h2, fun x hx j hj => ?_⟩, h4, h5, by have := h.1; omega⟩
  have hj' : j < l.length := by simpa using hj
  rw [h3 x hx j hj']
  have hb := bounds_u8 (h6 l[j] (List.getElem_mem hj'))
  simp
  omega

/-- Numbers that fit are natural ones. -/
theorem nats_of (l : List Int) (h : ∀ n ∈ l, (Lit.int .u64 n).wf = true) : ∃ V : List Nat, l = V.map (fun (v : Nat) => (v : Int)) ∧ ∀ v ∈ V, v < 18446744073709551616 := by
  refine ⟨l.map Int.toNat, ?_, ?_⟩
  · rw [List.map_map]
    conv => lhs; rw [← List.map_id l]
    apply List.map_congr_left
    intro n hn
    have := bounds_u64 (h n hn)
    simp
    omega
  · intro v hv
    simp only [List.mem_map] at hv
    obtain ⟨n, hn, rfl⟩ := hv
    have := bounds_u64 (h n hn)
    omega

theorem IsN.place {k : IntKind} {w : World} {a : Option Addr} {n : Nat} {l : List Int} (h : IsN k w a n l) (hn : 0 < n) :
    ∃ b off, a = some ⟨b, off, none⟩ ∧ b < w.heap.size ∧ ∀ j (hj : j < l.length), w.cell? ⟨b, off + j, none⟩ = some (.int k l[j]) := by
  obtain ⟨h1, h2, h3⟩ := h
  cases a with
  | none => have := h2 rfl; omega
  | some x =>
    obtain ⟨b, off, spot⟩ := x
    have hc := h3 _ rfl 0 (by omega)
    have hspot : spot = none := by simpa [Addr.add] using World.cell?_spot hc
    subst hspot
    refine ⟨b, off, rfl, ?_, fun j hj => by rw [← Addr.add_lit]; exact h3 _ rfl j hj⟩
    have := World.block_lt_of_cell? _ _ hc
    simpa [Addr.add] using this

theorem IsN.below {k : IntKind} {w w1 : World} {a : Option Addr} {n : Nat} {l : List Int} (h : IsN k w a n l) (hb : Below w.heap.size w w1) : IsN k w1 a n l := by
  refine ⟨h.1, h.2.1, fun x hx j hj => ?_⟩
  have hc := h.2.2 x hx j hj
  rw [hb.cell (World.block_lt_of_cell? _ _ hc)]
  exact hc

end Go.Proofs.Ytckcicomkapdeaa
