/-
  Plain functions: a host, what its calls answer. It imports no program. Conditions: none.
-/
import Derived.Test.YtinlgoljaiolnabRep
namespace Go.Proofs.Ytinlgoljaiolnab

abbrev Act := Int × Int × List UInt8
abbrev Host := List (List UInt8) × List Act × Int

def rBytes : Rep (List UInt8) := rList rByte (by decide)
def rSectors : Rep (List (List UInt8)) := rList rBytes (by decide)
def rAct : Rep Act := rPair rInt (rPair rInt rBytes)
def rWaits : Rep (List Act) := rList rAct (by decide)
def rHost : Rep Host := rPair rSectors (rPair rWaits rInt)
def rBools : Rep (List Bool) := rList rBool (by decide)

namespace Hst

def isWrite (cap : Int) (a : Act) : Bool := decide (a.1 = 1) && decide (0 ≤ a.2.1) && decide (a.2.1 < cap) && decide (a.2.2.length = 64)
def isLen (cap : Int) (a : Act) : Bool := decide (a.1 = 2) && decide (0 ≤ a.2.1) && decide (a.2.1 ≤ cap) && decide (a.2.2.length = 0)
def actOk (cap : Int) (a : Act) : Bool := isWrite cap a || isLen cap a
def headOk (s : Host) : Bool := decide (1 ≤ s.2.2) && decide (s.2.2 ≤ 65536) && decide ((s.1.length : Int) ≤ s.2.2) && decide (s.2.1.length ≤ 4096)
def ok (s : Host) : Bool := headOk s && s.1.all (fun b => decide (b.length = 64)) && s.2.1.all (actOk s.2.2)
def checkE (s : Host) : Int := if ok s then 0 else 9

def zeros : List UInt8 := List.replicate 64 0

/-- Sectors behind an act. -/
def done (l : List (List UInt8)) (a : Act) : List (List UInt8) :=
  if a.1 = 1 then (if a.2.1 < (l.length : Int) then l.set a.2.1.toNat a.2.2 else l) else l.take a.2.1.toNat ++ List.replicate (a.2.1.toNat - l.length) zeros

/-- Behind those acts that are kept (the i-th by its place from k on). -/
def doneAll (keep : Nat → Bool) : Nat → List (List UInt8) → List Act → List (List UInt8)
  | _, l, [] => l
  | k, l, a :: r => doneAll keep (k + 1) (if keep k then done l a else l) r

def settled (s : Host) (keep : Nat → Bool) : Host := (doneAll keep 0 s.1 s.2.1, [], s.2.2)

def all : Nat → Bool := fun _ => true
def those (keep : List Bool) : Nat → Bool := fun i => keep.getD i false

def none : Host := ([], [], 0)

def newE (cap : Int) : Int := if 1 ≤ cap ∧ cap ≤ 65536 then 0 else 4
def newS (cap : Int) : Host := if newE cap = 0 then ([], [], cap) else none
def lengthN (s : Host) : Nat := if ok s then (settled s all).1.length else 0
def writeE (s : Host) (p : Int) (d : List UInt8) : Int :=
  if ok s then (if 0 ≤ p ∧ p < (lengthN s : Int) then (if d.length = 64 then (if s.2.1.length < 4096 then 0 else 51) else 1) else 4) else 9
def writeS (s : Host) (p : Int) (d : List UInt8) : Host := if writeE s p d = 0 then (s.1, s.2.1 ++ [(1, p, d)], s.2.2) else none
def resizeE (s : Host) (n : Int) : Int := if ok s then (if 0 ≤ n then (if n ≤ s.2.2 ∧ s.2.1.length < 4096 then 0 else 51) else 4) else 9
def resizeS (s : Host) (n : Int) : Host := if resizeE s n = 0 then (s.1, s.2.1 ++ [(2, n, [])], s.2.2) else none
def flushS (s : Host) : Host := if ok s then settled s all else none
def readE (s : Host) (p : Int) : Int := if ok s then (if 0 ≤ p ∧ p < ((flushS s).1.length : Int) then 0 else 4) else 9
def readL (s : Host) (p : Int) : List UInt8 := if readE s p = 0 then (flushS s).1.getD p.toNat [] else []
def crashS (s : Host) (keep : List Bool) : Host := if ok s then settled s (those keep) else none

end Hst

/-- A host that lies somewhere: its cells. -/
theorem rHost_cells {w : World} {P : Nat → Prop} {cs : List Value} {s : Host} (h : rHost.rd w P cs s) :
    ∃ a n c b m d, cs = [.slice a n c, .slice b m d, .int .i64 s.2.2] ∧ rSectors.rd w P [.slice a n c] s.1 ∧ rWaits.rd w P [.slice b m d] s.2.1 ∧ s.1.length = n ∧ s.2.1.length = m ∧ -9223372036854775808 ≤ s.2.2 ∧ s.2.2 ≤ 9223372036854775807 ∧ n ≤ 5864062014634 ∧ m ≤ 3518437208780 := by
  obtain ⟨c0, c1, rfl, h0, d0, d1, rfl, h1, h2⟩ := h
  have k0 := h0
  have k1 := h1
  obtain ⟨a, n, c, rfl, e1, _, _, e4, _⟩ := h0
  obtain ⟨b, m, d, rfl, f1, _, _, f4, _⟩ := h1
  obtain ⟨rfl, g1, g2⟩ := h2
  have e5 : n * 24 ≤ 140737488351232 := e4
  have f5 : m * 40 ≤ 140737488351232 := f4
  exact ⟨a, n, c, b, m, d, rfl, k0, k1, e1, f1, g1, g2, by omega, by omega⟩

/-- A list that lies somewhere: each element's cells. -/
theorem rList_at {α : Type} {A : Rep α} {hs : 0 < A.size} {w : World} {P : Nat → Prop} {a : Option Addr} {n c : Nat} {l : List α} (h : (rList A hs).rd w P [.slice a n c] l) (hn : 0 < n) :
    ∃ b off, a = some ⟨b, off, none⟩ ∧ P b ∧ b < w.heap.size ∧ ∀ (j : Nat) (hj : j < l.length), ∃ cj, A.rd w P cj l[j] ∧ ∀ (k : Nat) (v : Value), cj[k]? = some v → w.cell? ⟨b, off + (j * A.size + k), none⟩ = some v := by
  obtain ⟨a', n', c', e, h1, h2, h3, h4, h5⟩ := h
  simp only [List.cons.injEq, Value.slice.injEq, and_true] at e
  obtain ⟨rfl, rfl, rfl⟩ := e
  cases a with
  | none => have := h3 rfl; omega
  | some x =>
    have hE := h5 x rfl
    have hb := Elems.block hs hE 0 (by omega)
    obtain ⟨hP, cj, g1, g2⟩ := hE 0 (by omega)
    obtain ⟨b, off, spot⟩ := x
    have h0 := g2 0 _ (List.getElem?_eq_getElem (by rw [A.len g1]; exact hs))
    rw [Nat.zero_mul, Nat.zero_add] at h0
    have hspot : spot = none := by simpa [Addr.add] using World.cell?_spot h0
    subst hspot
    refine ⟨b, off, rfl, hP, hb, fun j hj => ?_⟩
    obtain ⟨_, cj, g1, g2⟩ := hE j hj
    exact ⟨cj, g1, fun k v hv => by rw [← Addr.add_lit]; exact g2 k v hv⟩

/-- A list of lists: the element's slice. -/
theorem rLists_at {α : Type} {A : Rep α} {hs : 0 < A.size} {hs' : 0 < (rList A hs).size} {w : World} {P : Nat → Prop} {a : Option Addr} {n c : Nat} {l : List (List α)} (h : (rList (rList A hs) hs').rd w P [.slice a n c] l) (hn : 0 < n) :
    ∃ b off, a = some ⟨b, off, none⟩ ∧ P b ∧ b < w.heap.size ∧ ∀ (j : Nat) (hj : j < l.length), ∃ x m d, (rList A hs).rd w P [.slice x m d] l[j] ∧ l[j].length = m ∧ w.cell? ⟨b, off + j, none⟩ = some (.slice x m d) := by
  obtain ⟨b, off, e1, e2, e3, e4⟩ := rList_at h hn
  refine ⟨b, off, e1, e2, e3, fun j hj => ?_⟩
  obtain ⟨cj, g1, g2⟩ := e4 j hj
  have g1' := g1
  obtain ⟨x, m, d, rfl, hl, _⟩ := g1
  refine ⟨x, m, d, g1', hl, ?_⟩
  have := g2 0 (.slice x m d) rfl
  rwa [show j * (rList A hs).size + 0 = j from by show j * 1 + 0 = j; omega] at this

/-- A list of acts: the element's three cells. -/
theorem rWaits_at {w : World} {P : Nat → Prop} {a : Option Addr} {n c : Nat} {l : List Act} (h : rWaits.rd w P [.slice a n c] l) (hn : 0 < n) :
    ∃ b off, a = some ⟨b, off, none⟩ ∧ P b ∧ b < w.heap.size ∧ ∀ (j : Nat) (hj : j < l.length), ∃ x m d, rBytes.rd w P [.slice x m d] l[j].2.2 ∧ l[j].2.2.length = m ∧
      w.cell? ⟨b, off + j * 3, none⟩ = some (.int .i64 l[j].1) ∧ w.cell? ⟨b, off + j * 3 + 1, none⟩ = some (.int .i64 l[j].2.1) ∧ w.cell? ⟨b, off + j * 3 + 2, none⟩ = some (.slice x m d) ∧
      (-9223372036854775808 ≤ l[j].1 ∧ l[j].1 ≤ 9223372036854775807) ∧ (-9223372036854775808 ≤ l[j].2.1 ∧ l[j].2.1 ≤ 9223372036854775807) := by
  obtain ⟨b, off, e1, e2, e3, e4⟩ := rList_at h hn
  refine ⟨b, off, e1, e2, e3, fun j hj => ?_⟩
  obtain ⟨cj, ⟨c0, c1, rfl, ⟨rfl, k1⟩, d0, d1, rfl, ⟨rfl, k2⟩, k3⟩, g2⟩ := e4 j hj
  have k3' := k3
  obtain ⟨x, m, d, rfl, hl, _⟩ := k3
  have g0 := g2 0 _ rfl
  have g1 := g2 1 _ rfl
  have g3 := g2 2 _ rfl
  rw [show rAct.size = 3 from rfl] at g0 g1 g3
  rw [Nat.add_zero] at g0
  rw [← Nat.add_assoc] at g1 g3
  exact ⟨x, m, d, k3', hl, g0, g1, g3, k1, k2⟩

end Go.Proofs.Ytinlgoljaiolnab
