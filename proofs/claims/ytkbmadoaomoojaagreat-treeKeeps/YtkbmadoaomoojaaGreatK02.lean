/-
  Facts that the proof rests on, part 3. Conditions: those that each of them names.
-/
import Derived.Deep.OwnRows
import Derived.Laws.CopyOwn
import Derived.OwnWalk
import Derived.Test.YtkbmadoaomoojaaGreatK00
import Derived.Test.YtkbmadoaomoojaaGreatK01
namespace Go.Proofs.YtkbmadoaomoojaaGreat
set_option maxRecDepth 20000
open Go.RowKit
set_option linter.unusedVariables false
structure Row (w : World) (g : Nat) (t : TypeId) (xs : List Value) : Prop where
 eq : w.heap[g]? = some (.cells xs.toArray t (0, 0))
theorem Row.cell {w : World} {g : Nat} {t : TypeId} {xs : List Value} (h : Row w g t xs) {j : Nat} {v : Value} (hj : xs[j]? = some v) : w.cell? ⟨g, j, none⟩ = some v := by
 simp [World.cell?, h.eq, hj]
theorem Row.frozen {w : World} {g : Nat} {t : TypeId} {xs : List Value} (h : Row w g t xs) (j : Nat) : w.frozen? ⟨g, j, none⟩ = false := by
 simp [World.frozen?, h.eq]
theorem Row.keep {w w' : World} {g : Nat} {t : TypeId} {xs : List Value} (h : Row w g t xs) (hb : w'.heap[g]? = w.heap[g]?) : Row w' g t xs := ⟨hb.trans h.eq⟩
theorem Row.lt {w : World} {g : Nat} {t : TypeId} {xs : List Value} (h : Row w g t xs) : g < w.heap.size := (Array.getElem?_eq_some_iff.1 h.eq).1
theorem Row.below {w w' : World} {g : Nat} {t : TypeId} {xs : List Value} (h : Row w g t xs) (k : Below w.heap.size w w') : Row w' g t xs := h.keep (k.block g h.lt)
theorem Row.set {w : World} {g : Nat} {t : TypeId} {xs : List Value} (h : Row w g t xs) (j : Nat) (v : Value) : Row (w.setCell ⟨g, j, none⟩ v) g t (xs.set j v) := by
 refine ⟨?_⟩
 rw [setCell_eq_setRow w g j xs.toArray t (0, 0) v h.eq, setRow_heap w g _ _ t _ h.eq]
 simp
theorem row_new (w : World) (t : TypeId) (xs : List Value) : Row (w.alloc (.cells xs.toArray t)) w.heap.size t xs := by
 refine ⟨?_⟩
 unfold World.alloc
 simp
theorem make_row {Pr : Program} (w : World) {ops : Array Oper} {rest : List Oper} {o : Oper} {a : Go.Act} {Q : Exit → Go.Act → World → Prop}
 (hg : o.guard = none) (l c : Operand) (t : TypeId) (hop : o.op = Op.makeSlice t l c)
 (e : TypeId) (z : Value) (bytes : Nat) (ht : Pr.underlying t = some (.slice e)) (hinfo : (Pr.info? e).map (fun i => (i.zero, i.size, i.bytes)) = some (some z, 1, bytes)) (hz1 : z.cells = #[z])
 (n : Nat) (C : Int) (hC : C = (n : Int)) (hl : a.eval l = .int .i64 C) (hc : a.eval c = .int .i64 C) (hbytes : bytes * n ≤ 281474976710656) (h63 : n ≤ 9223372036854775807)
 (hK : ∀ w', Hid (Row w' w.heap.size e (List.replicate n z)) → Below w.heap.size w w' → w'.heap.size = w.heap.size + 1 → wpList Pr ops Q rest (a.put o.dst (.slice (some ⟨w.heap.size, 0, none⟩) n n)) w') :
 wpList Pr ops Q (o :: rest) a w := by
 subst hC
 obtain ⟨i, hi, hz0, hz1', hz2⟩ := info_parts hinfo
 refine wpList_make_row w hg l c t hop e i z ht hi hz0 hz1' hz1 .i64 .i64 n hl hc (by rw [hz2]; exact hbytes) h63 ?_
 refine hK _ ?_ ((Below.refl _ _).alloc (Nat.le_refl _) _) (by simp)
 have := row_new w e (List.replicate n z)
 rw [← toList_madeCells_one, Array.toArray_toList] at this
 rw [← toList_madeCells_one]
 exact this
theorem copy_run {Pr : Program} (w : World) (dT sT ty : TypeId) (e : TypeId) (hu : Pr.underlying dT = some (.slice e)) (hsz : (Pr.info? e).map (·.size) = some 1)
 (dp sp : Option Addr) (dLen dCap sLen sCap : Nat) (g off : Nat) (cur : List Value) (t : TypeId) (hg : Row w g t cur) (cs : List Value) (hn : cs.length = Nat.min sLen dLen)
 (hpos : 0 < cs.length → dp = some ⟨g, off, none⟩ ∧ ∃ ad, sp = some ad ∧ ∀ (j : Nat) (v : Value), cs[j]? = some v → w.cell? (ad.add j) = some v)
 (hfit : off + cs.length ≤ cur.length) (h1 : ∀ v ∈ cs, v.oneCell' = true) :
 ∃ w', (Builtin.copy_ #[dT, sT] ty #[.slice dp dLen dCap, .slice sp sLen sCap]).run Pr w = .ok (goInt cs.length) w' ∧ Row w' g t (splice cur off cs) ∧ Kept (· ≠ g) w w' ∧ w'.heap.size = w.heap.size := by
 by_cases h0 : cs.length = 0
 · obtain rfl : cs = [] := List.eq_nil_of_length_eq_zero h0
   refine ⟨w, run_copy_none (P := Pr) w dT sT ty e dp sp dLen dCap sLen sCap hu hsz (by simpa using hn.symm), ?_, Kept.refl _ _, rfl⟩
   rw [show splice cur off [] = cur from by simp [splice]]; exact hg
 · obtain ⟨rfl, ad, rfl, hsrc⟩ := hpos (by omega)
   refine ⟨_, run_copy_row (P := Pr) w dT sT ty e g off dLen dCap ad sLen sCap cur.toArray t cs hu hsz hg.eq hn hsrc (by simpa using hfit) h1, ?_, ⟨rfl, rfl, rfl, by simp, fun k hk => setRow_other w g k _ hk⟩, by simp⟩
   have := setRow_heap w g cur.toArray (splice cur off cs).toArray t _ hg.eq
   refine ⟨?_⟩
   simpa [splice] using this
theorem Kept.belowOf {g B : Nat} {w0 w w' : World} (h : Below B w0 w) (k : Kept (· ≠ g) w w') (hB : B ≤ g) : Below B w0 w' :=
 h.trans ⟨k.os, k.tape, k.output, k.size, fun b hb => k.block b (by omega)⟩
theorem boxedRow (w : World) (T : TypeId) (xs : List Value) : ∃ w0, w.alloc (.cells xs.toArray T) = w0 ∧ Row w0 w.heap.size T xs ∧ Below w.heap.size w w0 ∧ w0.heap.size = w.heap.size + 1 :=
 ⟨_, rfl, row_new _ _ _, (Below.refl _ _).alloc (Nat.le_refl _) _, by simp⟩
theorem Row.range {w : World} {g : Nat} {t : TypeId} {xs : List Value} (h : Row w g t xs) : w.rangeAt g 0 xs := by
 intro j v hv
 rw [Nat.zero_add]
 exact h.cell hv
theorem results_row {Pr : Program} {fn : Func} {p : Tmp} {ty t : TypeId} {tmps : Array Value} {w : World} {b : Nat} {xs : List Value} {d : TypeDesc} (h : fn.results = #[.cell p ty]) (hp : tmps.getD p undef = .pointer (some ⟨b, 0, none⟩))
 (V : Row w b t xs) (hu : Pr.underlying ty = some d) (hd : d.isRow = true) (hi : (Pr.info? ty).map (·.size) = some xs.length) : (results fn tmps).run Pr w = .ok (.agg xs.toArray) w := by
 have hp' : tmps[p]?.getD undef = .pointer (some ⟨b, 0, none⟩) := by simpa using hp
 simp [results, h, hp', asAddr, run_loadVar_mid w b 0 ty xs d V.range hu hd hi]
theorem results_rowt {Pr : Program} {fn : Func} {p q : Tmp} {ty t : TypeId} {tmps : Array Value} {w : World} {b : Nat} {xs : List Value} {d : TypeDesc} (h : fn.results = #[.cell p ty, .tmp q]) (hp : tmps.getD p undef = .pointer (some ⟨b, 0, none⟩))
 (V : Row w b t xs) (hu : Pr.underlying ty = some d) (hd : d.isRow = true) (hi : (Pr.info? ty).map (·.size) = some xs.length) : (results fn tmps).run Pr w = .ok (.tuple #[.agg xs.toArray, tmps.getD q undef]) w := by
 have hp' : tmps[p]?.getD undef = .pointer (some ⟨b, 0, none⟩) := by simpa using hp
 simp [results, h, hp', asAddr, run_loadVar_mid w b 0 ty xs d V.range hu hd hi]
theorem results_rowtt {Pr : Program} {fn : Func} {p q r : Tmp} {ty t : TypeId} {tmps : Array Value} {w : World} {b : Nat} {xs : List Value} {d : TypeDesc} (h : fn.results = #[.cell p ty, .tmp q, .tmp r]) (hp : tmps.getD p undef = .pointer (some ⟨b, 0, none⟩))
 (V : Row w b t xs) (hu : Pr.underlying ty = some d) (hd : d.isRow = true) (hi : (Pr.info? ty).map (·.size) = some xs.length) : (results fn tmps).run Pr w = .ok (.tuple #[.agg xs.toArray, tmps.getD q undef, tmps.getD r undef]) w := by
 have hp' : tmps[p]?.getD undef = .pointer (some ⟨b, 0, none⟩) := by simpa using hp
 simp [results, h, hp', asAddr, run_loadVar_mid w b 0 ty xs d V.range hu hd hi]
end Go.Proofs.YtkbmadoaomoojaaGreat
namespace Go.Proofs.YtkbmadoaomoojaaGreat
set_option maxRecDepth 20000
abbrev Act := Int × Int × List UInt8
abbrev Host := List (List UInt8) × List Act × Int
def rBytes : Rep (List UInt8) := rList rByte (by decide)
def rSectors : Rep (List (List UInt8)) := rList rBytes (by decide)
namespace Hst
def isWrite (cap : Int) (a : Act) : Bool := decide (a.1 = 1) && decide (0 ≤ a.2.1) && decide (a.2.1 < cap) && decide (a.2.2.length = 64)
def isLen (cap : Int) (a : Act) : Bool := decide (a.1 = 2) && decide (0 ≤ a.2.1) && decide (a.2.1 ≤ cap) && decide (a.2.2.length = 0)
def actOk (cap : Int) (a : Act) : Bool := isWrite cap a || isLen cap a
def headOk (s : Host) : Bool := decide (1 ≤ s.2.2) && decide (s.2.2 ≤ 65536) && decide ((s.1.length : Int) ≤ s.2.2) && decide (s.2.1.length ≤ 4096)
def ok (s : Host) : Bool := headOk s && s.1.all (fun b => decide (b.length = 64)) && s.2.1.all (actOk s.2.2)
def zeros : List UInt8 := List.replicate 64 0
def done (l : List (List UInt8)) (a : Act) : List (List UInt8) :=
 if a.1 = 1 then (if a.2.1 < (l.length : Int) then l.set a.2.1.toNat a.2.2 else l) else l.take a.2.1.toNat ++ List.replicate (a.2.1.toNat - l.length) zeros
def doneAll (keep : Nat → Bool) : Nat → List (List UInt8) → List Act → List (List UInt8)
 | _, l, [] => l
 | k, l, a :: r => doneAll keep (k + 1) (if keep k then done l a else l) r
def settled (s : Host) (keep : Nat → Bool) : Host := (doneAll keep 0 s.1 s.2.1, [], s.2.2)
def all : Nat → Bool := fun _ => true
def none : Host := ([], [], 0)
def flushS (s : Host) : Host := if ok s then settled s all else none
def readE (s : Host) (p : Int) : Int := if ok s then (if 0 ≤ p ∧ p < ((flushS s).1.length : Int) then 0 else 4) else 9
end Hst
theorem rList_at {α : Type} {A : Rep α} {hs : 0 < A.size} {w : World} {P : Nat → Prop} {a : Option Addr} {n c : Nat} {l : List α} (h : (rList A hs).rd w P [.slice a n c] l) (hn : 0 < n) :
 ∃ b off, a = some ⟨b, off, none⟩ ∧ P b ∧ b < w.heap.size ∧ ∀ (j : Nat) (hj : j < l.length), ∃ cj, A.rd w P cj l[j] ∧ ∀ (k : Nat) (v : Value), cj[k]? = some v → w.cell? ⟨b, off + (j * A.size + k), none⟩ = some v := by
 obtain ⟨a', n', c', e, h1, h2, h3, h4, h5⟩ := h
 simp only [List.cons.injEq, Value.slice.injEq, and_true] at e
 obtain ⟨rfl, rfl, rfl⟩ := e
 cases a with
 | none => have := h3 rfl; omega
 | some x =>
   have hE := h5 x rfl
   have hb := Elems.block hs hE 0 (by omega)
   obtain ⟨hP, cj, g1, g2⟩ := hE 0 (by omega)
   obtain ⟨b, off, spot⟩ := x
   have h0 := g2 0 _ (List.getElem?_eq_getElem (by rw [A.len g1]; exact hs))
   rw [Nat.zero_mul, Nat.zero_add] at h0
   have hspot : spot = none := by simpa [Addr.add] using World.cell?_spot h0
   subst hspot
   refine ⟨b, off, rfl, hP, hb, fun j hj => ?_⟩
   obtain ⟨_, cj, g1, g2⟩ := hE j hj
   exact ⟨cj, g1, fun k v hv => by rw [← Addr.add_lit]; exact g2 k v hv⟩
theorem rLists_at {α : Type} {A : Rep α} {hs : 0 < A.size} {hs' : 0 < (rList A hs).size} {w : World} {P : Nat → Prop} {a : Option Addr} {n c : Nat} {l : List (List α)} (h : (rList (rList A hs) hs').rd w P [.slice a n c] l) (hn : 0 < n) :
 ∃ b off, a = some ⟨b, off, none⟩ ∧ P b ∧ b < w.heap.size ∧ ∀ (j : Nat) (hj : j < l.length), ∃ x m d, (rList A hs).rd w P [.slice x m d] l[j] ∧ l[j].length = m ∧ w.cell? ⟨b, off + j, none⟩ = some (.slice x m d) := by
 obtain ⟨b, off, e1, e2, e3, e4⟩ := rList_at h hn
 refine ⟨b, off, e1, e2, e3, fun j hj => ?_⟩
 obtain ⟨cj, g1, g2⟩ := e4 j hj
 have g1' := g1
 obtain ⟨x, m, d, rfl, hl, _⟩ := g1
 refine ⟨x, m, d, g1', hl, ?_⟩
 have := g2 0 (.slice x m d) rfl
 rwa [show j * (rList A hs).size + 0 = j from by show j * 1 + 0 = j; omega] at this
end Go.Proofs.YtkbmadoaomoojaaGreat
