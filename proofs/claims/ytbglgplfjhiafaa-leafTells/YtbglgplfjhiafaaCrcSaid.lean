/-
  What the laws of the checksum lean on: what Sum, More, Seal and Open answer, each as a statement that a law takes as a premise of its walk; and that the page's example comes out. Conditions: those premises.
-/
import Derived.Test.YtbglgplfjhiafaaBytes
import Derived.Test.YtbglgplfjhiafaaSpec2c
import Derived.Test.YtbglgplfjhiafaaBNum
import Derived.Test.YtbglgplfjhiafaaCBits
namespace Go.Proofs.Ytbglgplfjhiafaa
open Go.RowKit
set_option linter.unusedVariables false

def SumSaid : Prop := ∀ (w : World) (a : Option Addr) (n cap : Nat) (l : List UInt8), n ≤ 140737488355328 → n ≤ cap → IsB w a n l →
  Calls Try.prog 41 #[.slice a n cap] w fun e w' => e = .returned (.int .u32 (Crc.sum l : Nat)) ∧ Below w.heap.size w w'

def SealSaid : Prop := ∀ (w : World) (a : Option Addr) (n cap : Nat) (l : List UInt8), n ≤ 140737488351232 → n ≤ cap → (a = none → cap = 0) → IsB w a n l →
  Calls Try.prog 28 #[.slice a n cap] w fun e w' => ∃ b d, e = .returned (.slice b (n + 4) d) ∧
    w'.ownsRow w.heap.size 5 1 (.slice b (n + 4) d) (n + 4) (cellsOf (Crc.sealed l)) ∧ Below w.heap.size w w'

def OpenSaid : Prop := ∀ (w : World) (a : Option Addr) (n cap : Nat) (l : List UInt8), n ≤ 140737488351236 → n ≤ cap → (a = none → cap = 0) → IsB w a n l →
  Calls Try.prog 31 #[.slice a n cap] w fun e w' => ∃ b len d, e = .returned (.tuple #[.slice b len d, .int .i64 (Crc.openE l)]) ∧
    w'.ownsRow w.heap.size 5 1 (.slice b len d) len (cellsOf (Crc.openL l)) ∧ Below w.heap.size w w'

/-- A text's octets as a slice of its own: the run-time's mark lies behind the last of them. -/
theorem conv_lit (w : World) (C : Array Value) (n : Nat) : (convert 26 26 (.slice (some ⟨w.heap.size, 0, none⟩) n n)).run Try.prog (w.alloc (.cells C 5)) =
    .ok (.slice (some ⟨w.heap.size, 0, none⟩) n n) (w.alloc (.cells C 5 (C.size, C.size + 1))) := by
  have hsh : (w.alloc (.cells C 5)).shape? w.heap.size = some (5, C.size) := by
    have : (w.alloc (.cells C 5)).heap[w.heap.size]? = some (.cells C 5) := by
      show (w.heap.push (.cells C 5))[w.heap.size]? = _
      simp
    unfold World.shape?
    rw [this]
  have hfr : (w.alloc (.cells C 5)).freeze ⟨w.heap.size, C.size, none⟩ 1 = w.alloc (.cells C 5 (C.size, C.size + 1)) := by
    have hm : ∀ (a : Array Obj) (x : Obj) (f : Obj → Obj), (a.push x).modify a.size f = a.push (f x) := by
      intro a x f
      apply Array.ext
      · simp
      · intro i h1 h2
        simp only [Array.getElem_modify, Array.getElem_push]
        by_cases h : a.size = i
        · subst h
          simp
        · have hi : i < a.size := by simp at h1; omega
          simp [h, hi]
    unfold World.freeze
    rw [if_neg (by decide)]
    show ({ w.alloc (.cells C 5) with heap := (w.heap.push (.cells C 5)).modify w.heap.size _ } : World) = _
    rw [hm]
    rfl
  simp [convert, run_underlying Try.underlying26, run_underlying Try.underlying5, markStringish, hsh]
  exact hfr

theorem isB_lit (w : World) (l : List UInt8) (fr : Nat × Nat) : IsB (w.alloc (.cells (cellsOf l).toArray 5 fr)) (some ⟨w.heap.size, 0, none⟩) l.length l := by
  refine ⟨rfl, fun (e : some _ = none) => (by cases e), fun x hx j hj => ?_⟩
  simp only [Option.some.injEq] at hx
  subst hx
  rw [Addr.add_lit, Nat.zero_add, World.cell?_alloc_mark]
  simp [cellsOf, List.getElem?_eq_getElem hj]

theorem isB_lit1 (w : World) : IsB (w.alloc (.cells #[.int .u8 97] 5 (1, 2))) (some ⟨w.heap.size, 0, none⟩) 1 [97] := isB_lit w [97] (1, 2)

theorem isB_lit9 (w : World) : IsB (w.alloc (.cells #[.int .u8 49, .int .u8 50, .int .u8 51, .int .u8 52, .int .u8 53, .int .u8 54, .int .u8 55, .int .u8 56, .int .u8 57] 5 (9, 10))) (some ⟨w.heap.size, 0, none⟩) 9 [49, 50, 51, 52, 53, 54, 55, 56, 57] := isB_lit w _ (9, 10)

theorem sum_nine : Crc.sum [49, 50, 51, 52, 53, 54, 55, 56, 57] = 3808858755 := by decide +kernel

end Go.Proofs.Ytbglgplfjhiafaa
