/-
  What the laws of the checksum lean on: what Sum, More, Seal and Open answer, each as a statement that a law takes as a premise of its walk; and that the page's example comes out. Conditions: those premises.
-/
import Derived.Test.YtbnhiagliikgmabBytes
import Derived.Test.YtbnhiagliikgmabSpec2c
import Derived.Test.YtbnhiagliikgmabBNum
import Derived.Test.YtbnhiagliikgmabCBits
namespace Go.Proofs.Ytbnhiagliikgmab
open Go.RowKit
set_option linter.unusedVariables false

def SumSaid : Prop := ∀ (w : World) (a : Option Addr) (n cap : Nat) (l : List UInt8), n ≤ 140737488355328 → n ≤ cap → IsB w a n l →
  Calls Try.prog 6 #[.slice a n cap] w fun e w' => e = .returned (.int .u32 (Crc.sum l : Nat)) ∧ Below w.heap.size w w'

def SealSaid : Prop := ∀ (w : World) (a : Option Addr) (n cap : Nat) (l : List UInt8), n ≤ 140737488351232 → n ≤ cap → (a = none → cap = 0) → IsB w a n l →
  Calls Try.prog 8 #[.slice a n cap] w fun e w' => ∃ b d, e = .returned (.slice b (n + 4) d) ∧
    w'.ownsRow w.heap.size 5 1 (.slice b (n + 4) d) (n + 4) (cellsOf (Crc.sealed l)) ∧ Below w.heap.size w w'

def OpenSaid : Prop := ∀ (w : World) (a : Option Addr) (n cap : Nat) (l : List UInt8), n ≤ 140737488351236 → n ≤ cap → (a = none → cap = 0) → IsB w a n l →
  Calls Try.prog 7 #[.slice a n cap] w fun e w' => ∃ b len d, e = .returned (.tuple #[.slice b len d, .int .i64 (Crc.openE l)]) ∧
    w'.ownsRow w.heap.size 5 1 (.slice b len d) len (cellsOf (Crc.openL l)) ∧ Below w.heap.size w w'

/-- A text's octets as a slice of its own: the run-time's mark lies behind the last of them. -/
theorem conv_lit (w : World) (C : Array Value) (n : Nat) : (convert 22 22 (.slice (some ⟨w.heap.size, 0, none⟩) n n)).run Try.prog (w.alloc (.cells C 5)) =
    .ok (.slice (some ⟨w.heap.size, 0, none⟩) n n) (w.alloc (.cells C 5 (C.size, C.size + 1))) := by
  have hsh : (w.alloc (.cells C 5)).shape? w.heap.size = some (5, C.size) := by
    have : (w.alloc (.cells C 5)).heap[w.heap.size]? = some (.cells C 5) := by
      show (w.heap.push (.cells C 5))[w.heap.size]? = _
      simp
    unfold World.shape?
    rw [this]
  have hfr : (w.alloc (.cells C 5)).freeze ⟨w.heap.size, C.size, none⟩ 1 = w.alloc (.cells C 5 (C.size, C.size + 1)) := by
    have hm : ∀ (a : Array Obj) (x : Obj) (f : Obj → Obj), (a.push x).modify a.size f = a.push (f x) := by
      intro a x f
      apply Array.ext
      · simp
      · intro i h1 h2
        simp only [Array.getElem_modify, Array.getElem_push]
        by_cases h : a.size = i
        · subst h
          simp
        · have hi : i < a.size := by simp at h1; omega
          simp [h, hi]
    unfold World.freeze
    rw [if_neg (by decide)]
    show ({ w.alloc (.cells C 5) with heap := (w.heap.push (.cells C 5)).modify w.heap.size _ } : World) = _
    rw [hm]
    rfl
  simp [convert, run_underlying Try.underlying22, run_underlying Try.underlying5, markStringish, hsh]
  exact hfr

theorem isB_lit (w : World) (l : List UInt8) (fr : Nat × Nat) : IsB (w.alloc (.cells (cellsOf l).toArray 5 fr)) (some ⟨w.heap.size, 0, none⟩) l.length l := by
  refine ⟨rfl, fun (e : some _ = none) => (by cases e), fun x hx j hj => ?_⟩
  simp only [Option.some.injEq] at hx
  subst hx
  rw [Addr.add_lit, Nat.zero_add, World.cell?_alloc_mark]
  simp [cellsOf, List.getElem?_eq_getElem hj]

theorem isB_lit1 (w : World) : IsB (w.alloc (.cells #[.int .u8 97] 5 (1, 2))) (some ⟨w.heap.size, 0, none⟩) 1 [97] := isB_lit w [97] (1, 2)

theorem isB_lit9 (w : World) : IsB (w.alloc (.cells #[.int .u8 49, .int .u8 50, .int .u8 51, .int .u8 52, .int .u8 53, .int .u8 54, .int .u8 55, .int .u8 56, .int .u8 57] 5 (9, 10))) (some ⟨w.heap.size, 0, none⟩) 9 [49, 50, 51, 52, 53, 54, 55, 56, 57] := isB_lit w _ (9, 10)

theorem sum_nine : Crc.sum [49, 50, 51, 52, 53, 54, 55, 56, 57] = 3808858755 := by decide +kernel

set_option maxHeartbeats 800000 in
theorem alive2 (sSum : SumSaid) (sSeal : SealSaid) (sOpen : OpenSaid) (w : World) : Calls Try.prog 4 #[] w fun e w' => e = .returned (.bool true) ∧ Below w.heap.size w w' := by
  have o1 := Crc.open_sealed [97]
  have O1 : Hid _ := o1
  clear o1
  have cv := conv_lit
  go_enter Try.func4, Try.ntmps4
  go_wp2_with fail
  refine (sSeal _ _ 1 1 [97] (by omega) (by omega) (fun e => by cases e) (isB_lit1 w)).mono ?_
  rintro e w1 ⟨b1, d1, rfl, ho1, b1'⟩
  have c1 : Below w.heap.size w w1 := on ((Below.refl _ _).alloc (Nat.le_refl _) _) b1'
  obtain ⟨hB1, hc1, hn1⟩ := owns_isB ho1
  have HN1 : Hid _ := hn1
  clear ho1 b1' hn1
  go_wp2_with fail
  refine (sOpen w1 b1 5 d1 _ (by omega) hc1 HN1.out hB1).mono ?_
  rintro e w2 ⟨b2, l2, d2, rfl, ho2, b2'⟩
  rw [O1.out.1]
  have c2 := on c1 b2'
  have hz2 := c2.size
  clear c1 b2' ho2 hB1
  go_wp2_with fail
  refine (sSum _ _ 9 9 _ (by omega) (by omega) (isB_lit9 w2)).mono ?_
  rintro e w3 ⟨rfl, b3'⟩
  rw [sum_nine]
  have c3 : Below w.heap.size w w3 := on (c2.alloc hz2 _) b3'
  clear c2 b3'
  go_wp2_with (go_at_call 9; refine (num_any _ _).mono ?_; rintro e w9 ⟨rfl, rfl⟩)
  go_ret
  exact ⟨rfl, c3⟩

end Go.Proofs.Ytbnhiagliikgmab
