/-
  What the landed leaf makes, in its own order: the checks one by one, the octets put one behind the other, the node that octets tell with as many items as they say. Plain: it imports no program.
-/
import Derived.Test.YtbglgplfjhiafaaLfChk
import Derived.Test.YtbglgplfjhiafaaSpec
namespace Go.Proofs.Ytbglgplfjhiafaa
set_option linter.unusedVariables false
namespace Lf
open Oct Crc

def itemsB (l : List Itm) : Bool := decide (1 ≤ l.length) && decide (l.length ≤ 3) && rise l
def kidsB (n : Nod) : Bool := decide (n.2.length = n.1.length + 1) && n.1.all (fun x => decide (x.2 = 0)) && (n.2.all (fun k => decide (1 ≤ k) && decide (k ≤ 2048)) && apart n.2)

theorem ok_parts (n : Nod) : ok n = (itemsB n.1 && (isLeaf n || kidsB n)) := by
  unfold ok itemsB kidsB
  cases h : isLeaf n
  · simp only [Bool.false_or]
    cases decide (1 ≤ n.1.length) <;> cases decide (n.1.length ≤ 3) <;> cases decide (n.2.length = n.1.length + 1) <;> cases rise n.1 <;> cases (n.1.all fun x => decide (x.2 = 0)) <;> cases (n.2.all fun k => decide (1 ≤ k) && decide (k ≤ 2048)) <;> cases apart n.2 <;> rfl
  · have e : n.2 = [] := List.isEmpty_iff.1 h
    rw [e]
    simp [apart]

/-- The octets that the landed Encode puts, one behind the other. -/
def heads (n : Nod) : List UInt8 := octs (kind n).toNat 1 ++ octs n.1.length 1 ++ octs 0 2

theorem heads_eq {n : Nod} (h : n.1.length ≤ 3) : heads n = head n := by
  unfold heads head
  have hk : kind n = 1 ∨ kind n = 2 := by unfold kind; split <;> simp
  have hl : n.1.length = 0 ∨ n.1.length = 1 ∨ n.1.length = 2 ∨ n.1.length = 3 := by omega
  rcases hk with e | e <;> rw [e] <;> rcases hl with e2 | e2 | e2 | e2 <;> rw [e2] <;> decide

theorem front_put {n : Nod} (h : n.1.length ≤ 3) : front n = heads n ++ n.1.flatMap key8 ++ (if isLeaf n then n.1.flatMap val8 else []) ++ n.2.flatMap kid4 := by
  unfold front rest
  rw [heads_eq h]
  cases hl : isLeaf n
  · simp
  · have e : n.2 = [] := List.isEmpty_iff.1 hl
    simp [e]

theorem flat_next {α : Type} (f : α → List UInt8) {l : List α} {k : Nat} (h : k < l.length) : (l.take (k + 1)).flatMap f = (l.take k).flatMap f ++ f l[k] := by
  rw [List.take_succ_eq_append_getElem h, List.flatMap_append, List.flatMap_cons, List.flatMap_nil, List.append_nil]

def getN (b : List UInt8) (p s : Nat) : Nat := getV b (p : Int) (s : Int)
def cnt (b : List UInt8) : Nat := (b.getD 1 0).toNat
def keyR (b : List UInt8) (i : Nat) : UInt64 := UInt64.ofNat (getN b (4 + 8 * i) 8)
def valR (b : List UInt8) (i : Nat) : UInt64 := UInt64.ofNat (getN b (4 + 8 * cnt b + 8 * i) 8)
def kidR (b : List UInt8) (i : Nat) : Int := (getN b (4 + 8 * cnt b + 4 * i) 4 : Nat)
def readI (b : List UInt8) : List Itm := (List.range (cnt b)).map (fun i => (keyR b i, if b.getD 0 0 = 1 then valR b i else 0))
def readK (b : List UInt8) : List Int := if b.getD 0 0 = 2 then (List.range (cnt b + 1)).map (kidR b) else []
def readN (b : List UInt8) : Nod := (readI b, readK b)

theorem getN_in {b : List UInt8} {p s : Nat} (h1 : 1 ≤ s) (h2 : s ≤ 8) (h : p + s ≤ b.length) : getN b p s = num (cut b p s) := by
  unfold getN
  rcases getE_cases b (p : Int) (s : Int) with ⟨h', -, e⟩ | ⟨-, h', -, e⟩ | ⟨p', s', e1, e2, -, -, h', -, e⟩ | ⟨p', s', e1, e2, -, -, h', -, e⟩
  · omega
  · omega
  · omega
  · rw [e]
    obtain rfl : p' = p := by omega
    obtain rfl : s' = s := by omega
    rfl

theorem getN_lt (b : List UInt8) (p s : Nat) (h1 : 1 ≤ s) (h2 : s ≤ 8) : getN b p s < 256 ^ s := by
  by_cases h : p + s ≤ b.length
  · rw [getN_in h1 h2 h]
    exact num_cut_lt b p s h
  · unfold getN
    rcases getE_cases b (p : Int) (s : Int) with ⟨h', -, e⟩ | ⟨-, h', -, e⟩ | ⟨p', s', e1, e2, -, -, h', -, e⟩ | ⟨p', s', e1, e2, -, -, h', -, e⟩
    · omega
    · omega
    · rw [e]; exact Nat.pow_pos (by decide)
    · omega

theorem read_told {b : List UInt8} (h : cnt b ≤ 3) (hb : b.length = 60) (hk : b.getD 0 0 = 1 ∨ b.getD 0 0 = 2) : readN b = told b := by
  have hm : many b = cnt b := by unfold many; unfold cnt at h ⊢; omega
  have e1 : ∀ i, i < cnt b → keyR b i = keyAt b i := fun i hi => by
    unfold keyR keyAt
    rw [getN_in (by decide) (by decide) (by omega)]
  refine Prod.ext ?_ ?_
  · show readI b = (List.range (many b)).map _
    unfold readI
    rw [hm]
    refine List.map_congr_left fun i hi => ?_
    have hi := List.mem_range.1 hi
    refine Prod.ext (e1 i hi) ?_
    show (if b.getD 0 0 = 1 then valR b i else 0) = valAt b i
    unfold valAt valR
    rw [hm, getN_in (by decide) (by decide) (by omega)]
  · show readK b = if b.getD 0 0 = 2 then (List.range (many b + 1)).map (kidAt b) else []
    unfold readK
    rw [hm]
    split
    · refine List.map_congr_left fun i hi => ?_
      have hi := List.mem_range.1 hi
      unfold kidR kidAt
      rw [hm, getN_in (by decide) (by decide) (by omega)]
    · rfl

theorem decode_kind {b : List UInt8} (h64 : b.length = 64) (hE : openE b = 0) (hk : ¬ ((openL b).getD 0 0 = 1 ∨ (openL b).getD 0 0 = 2)) : decodeE b = 22 ∧ decodeN b = ([], []) := by
  have e : decodeE b = 22 := by unfold decodeE; rw [if_pos h64, if_pos hE, if_neg hk]
  exact ⟨e, by unfold decodeN; rw [e]; rfl⟩

theorem decode_told {b : List UInt8} (h64 : b.length = 64) (hE : openE b = 0) (hk : (openL b).getD 0 0 = 1 ∨ (openL b).getD 0 0 = 2) :
    (ok (told (openL b)) = true ∧ enc (told (openL b)) = b → decodeE b = 0 ∧ decodeN b = told (openL b)) ∧ (¬ (ok (told (openL b)) = true ∧ enc (told (openL b)) = b) → decodeE b = 21 ∧ decodeN b = ([], [])) := by
  constructor
  · intro h
    have e : decodeE b = 0 := by unfold decodeE; rw [if_pos h64, if_pos hE, if_pos hk, if_pos h]
    exact ⟨e, by unfold decodeN; rw [e]; rfl⟩
  · intro h
    have e : decodeE b = 21 := by unfold decodeE; rw [if_pos h64, if_pos hE, if_pos hk, if_neg h]
    exact ⟨e, by unfold decodeN; rw [e]; rfl⟩

theorem decode_read {b : List UInt8} (h64 : b.length = 64) (hE : openE b = 0) (h60 : (openL b).length = 60) (hk : (openL b).getD 0 0 = 1 ∨ (openL b).getD 0 0 = 2) :
    (ok (readN (openL b)) = true ∧ enc (readN (openL b)) = b → decodeE b = 0 ∧ decodeN b = readN (openL b)) ∧ (¬ (ok (readN (openL b)) = true ∧ enc (readN (openL b)) = b) → decodeE b = 21 ∧ decodeN b = ([], [])) := by
  by_cases hc : cnt (openL b) ≤ 3
  · rw [read_told hc h60 hk]
    exact decode_told h64 hE hk
  · have hno : ¬ (ok (readN (openL b)) = true ∧ enc (readN (openL b)) = b) := fun h => by
      have := (ok_iff.1 h.1).few
      simp only [readN, readI, List.length_map, List.length_range] at this
      exact hc this
    refine ⟨fun h => absurd h hno, fun _ => (decode_told h64 hE hk).2 fun h => hc ?_⟩
    have o2 := (open_sealed (body (told (openL b)))).2
    rw [show sealed (body (told (openL b))) = b from h.2] at o2
    have e : (openL b).getD 1 0 = UInt8.ofNat (told (openL b)).1.length := by
      conv => lhs; rw [o2]
      exact (body_head _).2
    have hl := (ok_iff.1 h.1).few
    unfold cnt
    rw [e, UInt8.toNat_ofNat']
    omega

theorem readI_len (b : List UInt8) : (readI b).length = cnt b := by simp [readI]
theorem cnt_lt (b : List UInt8) : cnt b < 256 := by unfold cnt; have := (b.getD 1 0).toNat_lt; simpa using this

end Lf
end Go.Proofs.Ytbglgplfjhiafaa
