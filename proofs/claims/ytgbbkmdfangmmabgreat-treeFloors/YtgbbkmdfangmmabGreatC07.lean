/-
  Facts that the proof rests on, part 8. Conditions: those that each of them names.
-/
import Derived.Deep.RegionWith
import Derived.Laws.EntriesVeiled
import Derived.Maps.Own
import Derived.Test.YtgbbkmdfangmmabGreatC00
import Derived.Test.YtgbbkmdfangmmabGreatC02
import Derived.Test.YtgbbkmdfangmmabGreatC03
import Derived.Test.YtgbbkmdfangmmabGreatC04
import Derived.Test.YtgbbkmdfangmmabGreatC05
import Derived.Test.YtgbbkmdfangmmabGreatC06
namespace Go.Proofs.YtgbbkmdfangmmabGreat
set_option maxRecDepth 20000
open Go.RowKit
set_option linter.unusedVariables false
def Turn (S : List Nat) (w w' : World) : Prop := Kept (fun b => b < w.heap.size ∧ b ∉ S) w w'
theorem Turn.refl (S : List Nat) (w : World) : Turn S w w := Kept.refl _ _
theorem Turn.trans {S : List Nat} {a b c : World} (h : Turn S a b) (k : Turn S b c) : Turn S a c :=
  ⟨k.os.trans h.os, k.tape.trans h.tape, k.output.trans h.output, Nat.le_trans h.size k.size, fun i hi => (k.block i ⟨Nat.lt_of_lt_of_le hi.1 h.size, hi.2⟩).trans (h.block i hi)⟩
theorem Turn.of {S : List Nat} {w w' : World} (h : Below w.heap.size w w') : Turn S w w' := ⟨h.os, h.tape, h.output, h.size, fun i hi => h.block i hi.1⟩
theorem Turn.on {S : List Nat} {a b c : World} (h : Turn S a b) (k : Below b.heap.size b c) : Turn S a c := h.trans (Turn.of k)
theorem Turn.mono {S S' : List Nat} {w w' : World} (h : Turn S w w') (hS : ∀ b ∈ S, b < w.heap.size → b ∈ S') : Turn S' w w' :=
  ⟨h.os, h.tape, h.output, h.size, fun i hi => h.block i ⟨hi.1, fun e => hi.2 (hS i e hi.1)⟩⟩
theorem Turn.set {S : List Nat} {a w : World} (h : Turn S a w) {p : Addr} (hp : a.heap.size ≤ p.block ∨ p.block ∈ S) (u : Value) : Turn S a (w.setCell p u) :=
  Kept.setCell h (fun e => hp.elim (fun h1 => by have := e.1; omega) e.2) u
theorem Turn.drew {S : List Nat} {a w : World} (h : Turn S a w) : Turn S a w.drew := Kept.drew h
theorem Turn.alloc {S : List Nat} {a w : World} (h : Turn S a w) (o : Obj) : Turn S a (w.alloc o) := h.on ((Below.refl _ _).alloc (Nat.le_refl _) o)
theorem Turn.below {B : Nat} {S : List Nat} {w w' : World} (h : Turn S w w') (hB : B ≤ w.heap.size) (hS : ∀ b ∈ S, B ≤ b) : Below B w w' :=
  ⟨h.os, h.tape, h.output, h.size, fun i hi => h.block i ⟨Nat.lt_of_lt_of_le hi hB, fun e => by have := hS i e; omega⟩⟩
theorem Turn.rep {α : Type} {A : Rep α} {S : List Nat} {w w' : World} {P : Nat → Prop} {cs : List Value} {x : α} (h : Turn S w w') (hr : A.rd w P cs x) (hP : ∀ b, P b → b < w.heap.size → b ∉ S) : A.rd w' P cs x :=
  Rep.kept hr h (fun b hb hl => ⟨hl, hP b hb hl⟩)
theorem Turn.row {S : List Nat} {w w' : World} {g : Nat} {t : TypeId} {xs : List Value} (h : Turn S w w') (hr : Row w g t xs) (hg : g ∉ S) : Row w' g t xs := hr.keep (h.block g ⟨hr.lt, hg⟩)
def mapEs (n : Nat) : List (Int × Value) → List MapEntry
  | [] => []
  | z :: l => { key := .int .i64 z.1, val := z.2, born := n } :: mapEs (n + 1) l
theorem mapEs_append : ∀ (n : Nat) (l m : List (Int × Value)), mapEs n (l ++ m) = mapEs n l ++ mapEs (n + l.length) m
  | n, [], m => by simp [mapEs]
  | n, z :: l, m => by
    simp only [List.cons_append, mapEs, List.length_cons]
    rw [mapEs_append (n + 1) l m, show n + 1 + l.length = n + (l.length + 1) by omega]
theorem mapEs_length : ∀ (n : Nat) (l : List (Int × Value)), (mapEs n l).length = l.length
  | n, [] => rfl
  | n, z :: l => by simp [mapEs, mapEs_length (n + 1) l]
structure IsMet (w : World) (b : Nat) (l : List (Int × Value)) : Prop where
  eq : w.heap[b]? = some (.map (mapEs 0 l).toArray l.length)
theorem IsMet.lt {w : World} {b : Nat} {l : List (Int × Value)} (h : IsMet w b l) : b < w.heap.size := (Array.getElem?_eq_some_iff.1 h.eq).1
theorem IsMet.keep {w w' : World} {b : Nat} {l : List (Int × Value)} (h : IsMet w b l) (hk : w'.heap[b]? = w.heap[b]?) : IsMet w' b l := ⟨hk.trans h.eq⟩
theorem IsMet.turn {S : List Nat} {w w' : World} {b : Nat} {l : List (Int × Value)} (h : IsMet w b l) (k : Turn S w w') (hb : b ∉ S) : IsMet w' b l := h.keep (k.block b ⟨h.lt, hb⟩)
theorem IsMet.below {w w' : World} {b : Nat} {l : List (Int × Value)} (h : IsMet w b l) (k : Below w.heap.size w w') : IsMet w' b l := h.keep (k.block b h.lt)
theorem find_no (p : Int) : ∀ (l : List (Int × Value)) (n i : Nat), (∀ z ∈ l, z.1 ≠ p) → Instr.findNow (.int .i64) (.int .i64 p) (mapEs n l) i = some none
  | [], n, i, _ => rfl
  | z :: l, n, i, h => by
    have hz := h z (by simp)
    unfold mapEs Instr.findNow
    have : Instr.sameNow (.int .i64) (.int .i64 p) (.int .i64 z.1) = some false := by
      simp [Instr.sameNow, Ne.symm hz]
    rw [this]
    exact find_no p l (n + 1) (i + 1) (fun y hy => h y (by simp [hy]))
theorem find_yes (p : Int) : ∀ (l : List (Int × Value)) (n i j : Nat) (v : Value), l[j]? = some (p, v) → (∀ (k : Nat) (z : Int × Value), k < j → l[k]? = some z → z.1 ≠ p) → Instr.findNow (.int .i64) (.int .i64 p) (mapEs n l) i = some (some (i + j, v))
  | [], n, i, j, v, h, _ => by simp at h
  | z :: l, n, i, 0, v, h, _ => by
    simp only [List.getElem?_cons_zero, Option.some.injEq] at h
    subst h
    unfold mapEs Instr.findNow
    simp [Instr.sameNow]
  | z :: l, n, i, j + 1, v, h, hk => by
    have hz := hk 0 z (by omega) rfl
    unfold mapEs Instr.findNow
    have : Instr.sameNow (.int .i64) (.int .i64 p) (.int .i64 z.1) = some false := by
      simp [Instr.sameNow, Ne.symm hz]
    rw [this]
    have := find_yes p l (n + 1) (i + 1) j v (by simpa using h) (fun k y hkj hy => hk (k + 1) y (by omega) (by simpa using hy))
    rw [show i + 1 + j = i + (j + 1) by omega] at this
    exact this
abbrev noNode : Value := .agg #[.slice none 0 0, .slice none 0 0]
theorem look_no {w : World} {b : Nat} {l : List (Int × Value)} (h : IsMet w b l) {p : Int} (hp : ∀ z ∈ l, z.1 ≠ p) (c : Bool) :
    (Instr.lookup 76 (.map (some b)) (.int .i64 p) c).run Tryz.prog w = .ok (if c then .tuple #[noNode, .bool false] else noNode) w := by
  have hf := MapKept.run_findKey (P := Tryz.prog) (w := w) Tryz.underlying3 (find_no p l 0 0 hp)
  have hc : ∀ e : Bool, (Instr.checkKey e 10000 3 (.int .i64 p)).run Tryz.prog w = .ok () w := fun e => MapKept.run_checkKey Tryz.underlying3 (by simp [MapKept.IsKey]) e 9999
  simp [Instr.lookup, run_underlying Tryz.underlying76, MapKept.run_getObj_map h.eq, Result.andThen, hc, hf]
theorem look_yes {w : World} {b : Nat} {l : List (Int × Value)} (h : IsMet w b l) {p : Int} {v : Value} (hm : (p, v) ∈ l) (hn : (l.map Prod.fst).Nodup) (c : Bool) :
    (Instr.lookup 76 (.map (some b)) (.int .i64 p) c).run Tryz.prog w = .ok (if c then .tuple #[v, .bool true] else v) w := by
  obtain ⟨j, hj, e⟩ := List.getElem_of_mem hm
  have hf := MapKept.run_findKey (P := Tryz.prog) (w := w) Tryz.underlying3 (find_yes p l 0 0 j v (by rw [List.getElem?_eq_getElem hj, e]) (fun k z hkj hz ez => by
    obtain ⟨hk, ek⟩ := List.getElem?_eq_some_iff.1 hz
    have hp := List.pairwise_iff_getElem.1 hn k j (by simpa using hk) (by simpa using hj) hkj
    apply hp
    simp only [List.getElem_map]
    rw [ek, e, ez]))
  have hc : ∀ e : Bool, (Instr.checkKey e 10000 3 (.int .i64 p)).run Tryz.prog w = .ok () w := fun e => MapKept.run_checkKey Tryz.underlying3 (by simp [MapKept.IsKey]) e 9999
  simp [Instr.lookup, run_underlying Tryz.underlying76, MapKept.run_getObj_map h.eq, Result.andThen, hc, hf]
theorem store_new {w : World} {b : Nat} {l : List (Int × Value)} (h : IsMet w b l) {p : Int} (hp : ∀ z ∈ l, z.1 ≠ p) (v : Value) :
    ∃ w', (Instr.mapUpdate 76 (.map (some b)) (.int .i64 p) v).run Tryz.prog w = .ok () w' ∧ IsMet w' b (l ++ [(p, v)]) ∧ Kept (· ≠ b) w w' ∧ w'.heap.size = w.heap.size := by
  have hf := MapKept.run_findKey (P := Tryz.prog) (w := w) Tryz.underlying3 (find_no p l 0 0 hp)
  have hc : ∀ e : Bool, (Instr.checkKey e 10000 3 (.int .i64 p)).run Tryz.prog w = .ok () w := fun e => MapKept.run_checkKey Tryz.underlying3 (by simp [MapKept.IsKey]) e 9999
  refine ⟨{ w with heap := w.heap.setIfInBounds b (.map (mapEs 0 (l ++ [(p, v)])).toArray (l ++ [(p, v)]).length) }, ?_, ⟨?_⟩, ⟨rfl, rfl, rfl, by simp, fun k hk => ?_⟩, by simp⟩
  · simp [Instr.mapUpdate, run_underlying Tryz.underlying76, MapKept.run_getObj_map h.eq, Result.andThen, hc, hf, MapKept.run_setObj_map _ h.eq, mapEs_append, mapEs]
  · exact (MapKept.heap_set h.eq).1
  · exact (MapKept.heap_set h.eq).2 k hk
theorem met_new (w : World) : IsMet (w.alloc (.map #[] 0)) w.heap.size [] := ⟨(MapKept.heap_alloc w _).1⟩
abbrev faultV (e : Int) : Value := .iface 114 (.agg #[.int .i64 e])
abbrev broke (e : Int) : Ending := .panicked [{ v := faultV e, recovered := false }]
theorem must_yes (w : World) : Calls Tryz.prog 62 #[.bool true] w fun e w' => e = .returned (.tuple #[]) ∧ w' = w := by
  go_enter Tryz.func62, Tryz.ntmps62
  go_wp2
  go_end0
  exact ⟨rfl, rfl⟩
theorem must_no (w : World) : Calls Tryz.prog 62 #[.bool false] w fun e w' => e = broke 9 ∧ w' = w := by
  go_enter Tryz.func62, Tryz.ntmps62
  go_wp2
  exact ⟨rfl, rfl, rfl⟩
theorem isLeafT_u (w : World) (u : Value) (a' : Option Addr) (n' c' : Nat) :
    Calls Tryz.prog 50 #[.agg #[u, .slice a' n' c']] w fun e w' => e = .returned (.bool (decide ((n' : Int) = 0))) ∧ Below w.heap.size w w' := by
  obtain ⟨w0, hw0, V0, b0, z0⟩ := boxedRow w 78 [u, .slice a' n' c']
  obtain ⟨r0, r1⟩ := V0.two
  have B0 : Hid (Below w.heap.size w w0) := b0
  clear V0 b0 z0
  go_enter Tryz.func50, Tryz.ntmps50
  go_wp2
  go_ret
  exact ⟨rfl, B0.out⟩
end Go.Proofs.YtgbbkmdfangmmabGreat
namespace Go.Proofs.YtgbbkmdfangmmabGreat
set_option maxRecDepth 20000
open Go.RowKit
set_option linter.unusedVariables false
def boolCells (l : List Bool) : List Value := l.map Value.bool
def metN (l : List Bool) : Nat := (l.filter id).length
structure Walks (w : World) (g gm : Nat) (P : Nat → Prop) (pa : Option Addr) (pc : Nat) (oa : Option Addr) (on_ oc : Nat) (base : Nat) (s : Pgs) (k : Tr.Wk) : Prop where
  row : Row w g 100 [.slice pa s.length pc, .slice (some ⟨gm, 0, none⟩) s.length s.length, .slice oa on_ oc, .int .i64 (k.leaf : Int), .bool k.bad]
  pages : rSectors.rd w P [.slice pa s.length pc] s
  met : Row w gm 4 (boolCells k.met)
  len : k.met.length = s.length
  out : OwnI 27 w base (.slice oa on_ oc) k.out
  few : k.out.length ≤ 3 * metN k.met
structure Apart (P : Nat → Prop) (B g gm base : Nat) : Prop where
  pages : ∀ b, P b → b < B
  atG : B ≤ g
  atM : B ≤ gm
  atO : B ≤ base
  ne : g ≠ gm
  gb : g < base
  gmb : gm < base
theorem Walks.below {w w' : World} {g gm : Nat} {P : Nat → Prop} {pa oa : Option Addr} {pc on_ oc base : Nat} {s : Pgs} {k : Tr.Wk} (h : Walks w g gm P pa pc oa on_ oc base s k) (b : Below w.heap.size w w') : Walks w' g gm P pa pc oa on_ oc base s k :=
  ⟨h.row.below b, Rep.below h.pages b, h.met.below b, h.len, h.out.below b, h.few⟩
end Go.Proofs.YtgbbkmdfangmmabGreat
namespace Go.Proofs.YtgbbkmdfangmmabGreat.Oct
def sizeOk (S : Int) : Bool := decide (1 ≤ S ∧ S ≤ 8)
def putE (n : Nat) (S : Int) : Int := if sizeOk S = false then 1 else if 256 ^ S.toNat ≤ n then 4 else 0
def putL (n : Nat) (S : Int) : List UInt8 := if putE n S = 0 then octs n S.toNat else []
def getE (l : List UInt8) (P S : Int) : Int := if sizeOk S = false then 1 else if P < 0 then 4 else if l.length < P.toNat + S.toNat then 8 else 0
def getV (l : List UInt8) (P S : Int) : Nat := if getE l P S = 0 then num (cut l P.toNat S.toNat) else 0
def lenAt (l : List UInt8) (P : Int) : Nat := (l.getD P.toNat 0).toNat
def readE (l : List UInt8) (P : Int) : Int := if P < 0 then 4 else if l.length < P.toNat + 1 then 8 else if l.length < P.toNat + 1 + lenAt l P then 8 else 0
def readN (l : List UInt8) (P : Int) : Nat := if readE l P = 0 then P.toNat + 1 + lenAt l P else 0
theorem putE_arg {n : Nat} {S : Int} (h : ¬ (1 ≤ S ∧ S ≤ 8)) : putE n S = 1 := by
  have : sizeOk S = false := by simpa [sizeOk] using h
  simp [putE, this]
theorem putE_range {n s : Nat} (h1 : 1 ≤ s) (h2 : s ≤ 8) (h : 256 ^ s ≤ n) : putE n s = 4 := by
  have : sizeOk s = true := by simp [sizeOk]; omega
  simp [putE, this, h]
theorem putE_ok {n s : Nat} (h1 : 1 ≤ s) (h2 : s ≤ 8) (h : n < 256 ^ s) : putE n s = 0 := by
  have : sizeOk s = true := by simp [sizeOk]; omega
  simp [putE, this]; omega
theorem putL_ok {n s : Nat} (h1 : 1 ≤ s) (h2 : s ≤ 8) (h : n < 256 ^ s) : putL n s = octs n s := by
  simp [putL, putE_ok h1 h2 h]
theorem putE_cases (n : Nat) (S : Int) :
    (¬ (1 ≤ S ∧ S ≤ 8) ∧ putE n S = 1 ∧ putL n S = []) ∨ (∃ s : Nat, S = s ∧ 1 ≤ s ∧ s ≤ 8 ∧ 256 ^ s ≤ n ∧ putE n S = 4 ∧ putL n S = []) ∨
    (∃ s : Nat, S = s ∧ 1 ≤ s ∧ s ≤ 8 ∧ n < 256 ^ s ∧ putE n S = 0 ∧ putL n S = octs n s) := by
  by_cases h : 1 ≤ S ∧ S ≤ 8
  · obtain ⟨s, rfl⟩ := Int.eq_ofNat_of_zero_le (show 0 ≤ S by omega)
    have h1 : 1 ≤ s := by omega
    have h2 : s ≤ 8 := by omega
    by_cases h3 : n < 256 ^ s
    · exact .inr (.inr ⟨s, rfl, h1, h2, h3, putE_ok h1 h2 h3, putL_ok h1 h2 h3⟩)
    · exact .inr (.inl ⟨s, rfl, h1, h2, by omega, putE_range h1 h2 (by omega), by simp [putL, putE_range h1 h2 (show 256 ^ s ≤ n by omega)]⟩)
  · exact .inl ⟨h, putE_arg h, by simp [putL, putE_arg h]⟩
theorem getE_cases (l : List UInt8) (P S : Int) :
    (¬ (1 ≤ S ∧ S ≤ 8) ∧ getE l P S = 1 ∧ getV l P S = 0) ∨ ((1 ≤ S ∧ S ≤ 8) ∧ P < 0 ∧ getE l P S = 4 ∧ getV l P S = 0) ∨
    (∃ p s : Nat, P = p ∧ S = s ∧ 1 ≤ s ∧ s ≤ 8 ∧ l.length < p + s ∧ getE l P S = 8 ∧ getV l P S = 0) ∨
    (∃ p s : Nat, P = p ∧ S = s ∧ 1 ≤ s ∧ s ≤ 8 ∧ p + s ≤ l.length ∧ getE l P S = 0 ∧ getV l P S = num (cut l p s)) := by
  by_cases h : 1 ≤ S ∧ S ≤ 8
  · have hs : sizeOk S = true := by simpa [sizeOk] using h
    by_cases hp : P < 0
    · have : getE l P S = 4 := by simp [getE, hs, hp]
      exact .inr (.inl ⟨h, hp, this, by simp [getV, this]⟩)
    · obtain ⟨s, rfl⟩ := Int.eq_ofNat_of_zero_le (show 0 ≤ S by omega)
      obtain ⟨p, rfl⟩ := Int.eq_ofNat_of_zero_le (show 0 ≤ P by omega)
      by_cases h3 : l.length < p + s
      · have : getE l p s = 8 := by simp [getE, hs, h3]
        exact .inr (.inr (.inl ⟨p, s, rfl, rfl, by omega, by omega, h3, this, by simp [getV, this]⟩))
      · have : getE l p s = 0 := by simp [getE, hs]; omega
        exact .inr (.inr (.inr ⟨p, s, rfl, rfl, by omega, by omega, by omega, this, by simp [getV, this]⟩))
  · have hs : sizeOk S = false := by simpa [sizeOk] using h
    have : getE l P S = 1 := by simp [getE, hs]
    exact .inl ⟨h, this, by simp [getV, this]⟩
end Go.Proofs.YtgbbkmdfangmmabGreat.Oct
namespace Go.Proofs.YtgbbkmdfangmmabGreat
set_option maxRecDepth 20000
set_option linter.unusedVariables false
namespace Lf
open Oct Crc
def itemsB (l : List Itm) : Bool := decide (1 ≤ l.length) && decide (l.length ≤ 3) && rise l
def kidsB (n : Nod) : Bool := decide (n.2.length = n.1.length + 1) && n.1.all (fun x => decide (x.2 = 0)) && (n.2.all (fun k => decide (1 ≤ k) && decide (k ≤ 2048)) && apart n.2)
theorem ok_parts (n : Nod) : ok n = (itemsB n.1 && (isLeaf n || kidsB n)) := by
  unfold ok itemsB kidsB
  cases h : isLeaf n
  · simp only [Bool.false_or]
    cases decide (1 ≤ n.1.length) <;> cases decide (n.1.length ≤ 3) <;> cases decide (n.2.length = n.1.length + 1) <;> cases rise n.1 <;> cases (n.1.all fun x => decide (x.2 = 0)) <;> cases (n.2.all fun k => decide (1 ≤ k) && decide (k ≤ 2048)) <;> cases apart n.2 <;> rfl
  · have e : n.2 = [] := List.isEmpty_iff.1 h
    rw [e]
    simp [apart]
def heads (n : Nod) : List UInt8 := octs (kind n).toNat 1 ++ octs n.1.length 1 ++ octs 0 2
theorem heads_eq {n : Nod} (h : n.1.length ≤ 3) : heads n = head n := by
  unfold heads head
  have hk : kind n = 1 ∨ kind n = 2 := by unfold kind; split <;> simp
  have hl : n.1.length = 0 ∨ n.1.length = 1 ∨ n.1.length = 2 ∨ n.1.length = 3 := by omega
  rcases hk with e | e <;> rw [e] <;> rcases hl with e2 | e2 | e2 | e2 <;> rw [e2] <;> decide
theorem front_put {n : Nod} (h : n.1.length ≤ 3) : front n = heads n ++ n.1.flatMap key8 ++ (if isLeaf n then n.1.flatMap val8 else []) ++ n.2.flatMap kid4 := by
  unfold front rest
  rw [heads_eq h]
  cases hl : isLeaf n
  · simp
  · have e : n.2 = [] := List.isEmpty_iff.1 hl
    simp [e]
theorem flat_next {α : Type} (f : α → List UInt8) {l : List α} {k : Nat} (h : k < l.length) : (l.take (k + 1)).flatMap f = (l.take k).flatMap f ++ f l[k] := by
  rw [List.take_succ_eq_append_getElem h, List.flatMap_append, List.flatMap_cons, List.flatMap_nil, List.append_nil]
def getN (b : List UInt8) (p s : Nat) : Nat := getV b (p : Int) (s : Int)
def cnt (b : List UInt8) : Nat := (b.getD 1 0).toNat
def keyR (b : List UInt8) (i : Nat) : UInt64 := UInt64.ofNat (getN b (4 + 8 * i) 8)
def valR (b : List UInt8) (i : Nat) : UInt64 := UInt64.ofNat (getN b (4 + 8 * cnt b + 8 * i) 8)
def kidR (b : List UInt8) (i : Nat) : Int := (getN b (4 + 8 * cnt b + 4 * i) 4 : Nat)
def readI (b : List UInt8) : List Itm := (List.range (cnt b)).map (fun i => (keyR b i, if b.getD 0 0 = 1 then valR b i else 0))
def readK (b : List UInt8) : List Int := if b.getD 0 0 = 2 then (List.range (cnt b + 1)).map (kidR b) else []
def readN (b : List UInt8) : Nod := (readI b, readK b)
theorem getN_in {b : List UInt8} {p s : Nat} (h1 : 1 ≤ s) (h2 : s ≤ 8) (h : p + s ≤ b.length) : getN b p s = num (cut b p s) := by
  unfold getN
  rcases getE_cases b (p : Int) (s : Int) with ⟨h', -, e⟩ | ⟨-, h', -, e⟩ | ⟨p', s', e1, e2, -, -, h', -, e⟩ | ⟨p', s', e1, e2, -, -, h', -, e⟩
  · omega
  · omega
  · omega
  · rw [e]
    obtain rfl : p' = p := by omega
    obtain rfl : s' = s := by omega
    rfl
theorem getN_lt (b : List UInt8) (p s : Nat) (h1 : 1 ≤ s) (h2 : s ≤ 8) : getN b p s < 256 ^ s := by
  by_cases h : p + s ≤ b.length
  · rw [getN_in h1 h2 h]
    exact num_cut_lt b p s h
  · unfold getN
    rcases getE_cases b (p : Int) (s : Int) with ⟨h', -, e⟩ | ⟨-, h', -, e⟩ | ⟨p', s', e1, e2, -, -, h', -, e⟩ | ⟨p', s', e1, e2, -, -, h', -, e⟩
    · omega
    · omega
    · rw [e]; exact Nat.pow_pos (by decide)
    · omega
theorem read_told {b : List UInt8} (h : cnt b ≤ 3) (hb : b.length = 60) (hk : b.getD 0 0 = 1 ∨ b.getD 0 0 = 2) : readN b = told b := by
  have hm : many b = cnt b := by unfold many; unfold cnt at h ⊢; omega
  have e1 : ∀ i, i < cnt b → keyR b i = keyAt b i := fun i hi => by
    unfold keyR keyAt
    rw [getN_in (by decide) (by decide) (by omega)]
  refine Prod.ext ?_ ?_
  · show readI b = (List.range (many b)).map _
    unfold readI
    rw [hm]
    refine List.map_congr_left fun i hi => ?_
    have hi := List.mem_range.1 hi
    refine Prod.ext (e1 i hi) ?_
    show (if b.getD 0 0 = 1 then valR b i else 0) = valAt b i
    unfold valAt valR
    rw [hm, getN_in (by decide) (by decide) (by omega)]
  · show readK b = if b.getD 0 0 = 2 then (List.range (many b + 1)).map (kidAt b) else []
    unfold readK
    rw [hm]
    split
    · refine List.map_congr_left fun i hi => ?_
      have hi := List.mem_range.1 hi
      unfold kidR kidAt
      rw [hm, getN_in (by decide) (by decide) (by omega)]
    · rfl
theorem decode_kind {b : List UInt8} (h64 : b.length = 64) (hE : openE b = 0) (hk : ¬ ((openL b).getD 0 0 = 1 ∨ (openL b).getD 0 0 = 2)) : decodeE b = 22 ∧ decodeN b = ([], []) := by
  have e : decodeE b = 22 := by unfold decodeE; rw [if_pos h64, if_pos hE, if_neg hk]
  exact ⟨e, by unfold decodeN; rw [e]; rfl⟩
theorem decode_told {b : List UInt8} (h64 : b.length = 64) (hE : openE b = 0) (hk : (openL b).getD 0 0 = 1 ∨ (openL b).getD 0 0 = 2) :
    (ok (told (openL b)) = true ∧ enc (told (openL b)) = b → decodeE b = 0 ∧ decodeN b = told (openL b)) ∧ (¬ (ok (told (openL b)) = true ∧ enc (told (openL b)) = b) → decodeE b = 21 ∧ decodeN b = ([], [])) := by
  constructor
  · intro h
    have e : decodeE b = 0 := by unfold decodeE; rw [if_pos h64, if_pos hE, if_pos hk, if_pos h]
    exact ⟨e, by unfold decodeN; rw [e]; rfl⟩
  · intro h
    have e : decodeE b = 21 := by unfold decodeE; rw [if_pos h64, if_pos hE, if_pos hk, if_neg h]
    exact ⟨e, by unfold decodeN; rw [e]; rfl⟩
theorem decode_read {b : List UInt8} (h64 : b.length = 64) (hE : openE b = 0) (h60 : (openL b).length = 60) (hk : (openL b).getD 0 0 = 1 ∨ (openL b).getD 0 0 = 2) :
    (ok (readN (openL b)) = true ∧ enc (readN (openL b)) = b → decodeE b = 0 ∧ decodeN b = readN (openL b)) ∧ (¬ (ok (readN (openL b)) = true ∧ enc (readN (openL b)) = b) → decodeE b = 21 ∧ decodeN b = ([], [])) := by
  by_cases hc : cnt (openL b) ≤ 3
  · rw [read_told hc h60 hk]
    exact decode_told h64 hE hk
  · have hno : ¬ (ok (readN (openL b)) = true ∧ enc (readN (openL b)) = b) := fun h => by
      have := (ok_iff.1 h.1).few
      simp only [readN, readI, List.length_map, List.length_range] at this
      exact hc this
    refine ⟨fun h => absurd h hno, fun _ => (decode_told h64 hE hk).2 fun h => hc ?_⟩
    have o2 := (open_sealed (body (told (openL b)))).2
    rw [show sealed (body (told (openL b))) = b from h.2] at o2
    have e : (openL b).getD 1 0 = UInt8.ofNat (told (openL b)).1.length := by
      conv => lhs; rw [o2]
      exact (body_head _).2
    have hl := (ok_iff.1 h.1).few
    unfold cnt
    rw [e, UInt8.toNat_ofNat']
    omega
theorem readI_len (b : List UInt8) : (readI b).length = cnt b := by simp [readI]
theorem cnt_lt (b : List UInt8) : cnt b < 256 := by unfold cnt; have := (b.getD 1 0).toNat_lt; simpa using this
end Lf
end Go.Proofs.YtgbbkmdfangmmabGreat
namespace Go.Proofs.YtgbbkmdfangmmabGreat
set_option maxRecDepth 20000
open Go.RowKit
set_option linter.unusedVariables false
theorem isSize_any (n : Int) (w : World) :
    Calls Tryz.prog 131 #[.int .i64 n] w fun e w' => e = .returned (.bool (decide (1 ≤ n ∧ n ≤ 8))) ∧ w = w' := by
  by_cases h1 : 1 ≤ n
  · by_cases h2 : n ≤ 8
    · go_enter Tryz.func131, Tryz.ntmps131
      go_wp2
      go_ret
      exact ⟨by simp [h1, h2], rfl⟩
    · go_enter Tryz.func131, Tryz.ntmps131
      go_wp2
      go_ret
      exact ⟨by simp [h2], rfl⟩
  · go_enter Tryz.func131, Tryz.ntmps131
    go_wp2
    go_ret
    exact ⟨by simp; omega, rfl⟩
set_option maxHeartbeats 400000 in
theorem put_arg (n s : Int) (w : World) (h : ¬ (1 ≤ s ∧ s ≤ 8)) :
    Calls Tryz.prog 117 #[.int .u64 n, .int .i64 s] w fun e w' => e = .returned (.tuple #[.slice none 0 0, .int .i64 1]) ∧ w = w' := by
  have hd : decide (1 ≤ s ∧ s ≤ 8) = false := by simpa using h
  go_enter Tryz.func117, Tryz.ntmps117
  go_wp2_with (go_at_call 131; refine (isSize_any _ _).mono ?_; rintro e w' ⟨rfl, rfl⟩)
  go_ret2
  exact ⟨rfl, rfl⟩
theorem byte_at (n s k : Nat) (hk : k < s) : Value.int .u8 ((n : Int) / 2 ^ (8 * k) % 256) = (cellsOf (Oct.octs n s))[k]'(by simp [cellsOf, Oct.octs_length, hk]) := by
  simp only [cellsOf, List.getElem_map]
  rw [Oct.octs_get_toNat, show (256 : Nat) = 2 ^ 8 from rfl, ← Nat.pow_mul]
  simp
theorem put_step {w wr : World} {n s k : Nat} (hk : k < s)
    (hown : wr.ownsRow w.heap.size 5 1 (.slice (some ⟨w.heap.size, 0, none⟩) s s) s ((cellsOf (Oct.octs n s)).take k ++ List.replicate (s - k) (.int .u8 0))) :
    (wr.setCell ⟨w.heap.size, k, none⟩ (.int .u8 ((n : Int) / 2 ^ (8 * k) % 256))).ownsRow w.heap.size 5 1 (.slice (some ⟨w.heap.size, 0, none⟩) s s) s ((cellsOf (Oct.octs n s)).take (k + 1) ++ List.replicate (s - (k + 1)) (.int .u8 0)) := by
  have h := (hown.stored k (.int .u8 ((n : Int) / 2 ^ (8 * k) % 256))).1
  rw [byte_at n s k hk] at h ⊢
  rw [Oct.set_step _ _ s k (by simp [cellsOf, Oct.octs_length]) hk] at h
  exact h
theorem shr_zero (n s : Nat) (h : n < 256 ^ s) : ((n : Int) / 2 ^ (8 * s) != 0) = false := by
  have : n / 2 ^ (8 * s) = 0 := by rw [Nat.pow_mul]; exact Nat.div_eq_of_lt h
  have e : (n : Int) / 2 ^ (8 * s) = ((n / 2 ^ (8 * s) : Nat) : Int) := by simp
  rw [e, this]; rfl
theorem shr_pos (n s : Nat) (h : 256 ^ s ≤ n) : ((n : Int) / 2 ^ (8 * s) != 0) = true := by
  have h0 : 0 < n / 2 ^ (8 * s) := by rw [Nat.pow_mul]; exact Nat.div_pos h (Nat.pow_pos (by decide))
  have e : (n : Int) / 2 ^ (8 * s) = ((n / 2 ^ (8 * s) : Nat) : Int) := by simp
  rw [e, bne_iff_ne]; omega
set_option maxHeartbeats 400000 in
theorem put_range (n : Nat) (s : Nat) (N S : Int) (hN : N = (n : Int)) (hS : S = (s : Int)) (w : World) (h1 : 1 ≤ s) (h2 : s ≤ 8) (h : 256 ^ s ≤ n) :
    Calls Tryz.prog 117 #[.int .u64 N, .int .i64 S] w fun e w' => e = .returned (.tuple #[.slice none 0 0, .int .i64 4]) ∧ w = w' := by
  subst hN
  subst hS
  have hd : decide (1 ≤ (s : Int) ∧ (s : Int) ≤ 8) = true := by simp; omega
  have hs := shr_pos n s h
  clear h
  go_enter Tryz.func117, Tryz.ntmps117
  go_wp2_with (go_at_call 131; refine (isSize_any _ _).mono ?_; rintro e w' ⟨rfl, rfl⟩)
  go_ret2
  exact ⟨rfl, rfl⟩
set_option maxHeartbeats 400000 in
theorem put_ok (n : Nat) (s : Nat) (N S : Int) (hN : N = (n : Int)) (hS : S = (s : Int)) (w : World) (h1 : 1 ≤ s) (h2 : s ≤ 8) (h : n < 256 ^ s) :
    Calls Tryz.prog 117 #[.int .u64 N, .int .i64 S] w fun e w' => e = .returned (.tuple #[.slice (some ⟨w.heap.size, 0, none⟩) s s, .int .i64 0]) ∧
      w'.ownsRow w.heap.size 5 1 (.slice (some ⟨w.heap.size, 0, none⟩) s s) s (cellsOf (Oct.octs n s)) ∧ Below w.heap.size w w' := by
  subst hN
  subst hS
  have hd : decide (1 ≤ (s : Int) ∧ (s : Int) ≤ 8) = true := by simp; omega
  have hs := shr_zero n s h
  have H : Hid (n < 256 ^ s) := h
  clear h
  obtain ⟨i0, hi, hz0, hz1, hz2⟩ := info_parts info_u8
  go_enter Tryz.func117, Tryz.ntmps117
  go_wp2_with (first | (go_at_call 131; refine (isSize_any _ _).mono ?_; rintro e w' ⟨rfl, rfl⟩) | (at_make; refine wpList_make_full _ rfl _ _ 94 rfl w.heap.size 5 i0 (.int .u8 0) 1 Tryz.underlying94 hi hz0 hz1 _ _ _ _ s rfl rfl rfl rfl ?b2 ?b3 (Nat.le_refl _) ?_))
  case b2 => rw [hz2]; omega
  case b3 => unfold maxLen; omega
  intro w0 hown0 hgrow0
  go_wp2
  go_loopw [7, 21] (fun j i wr => ∃ k : Nat, k ≤ s ∧ i = .int .i64 k ∧
      wr.ownsRow w.heap.size 5 1 (.slice (some ⟨w.heap.size, 0, none⟩) s s) s ((cellsOf (Oct.octs n s)).take k ++ List.replicate (s - k) (.int .u8 0)) ∧ Below w.heap.size w wr)
    (fun _ i _ => s - (intOf i).toNat)
  case atStart =>
    refine ⟨0, Nat.zero_le _, rfl, ?_, (Below.refl _ _).grown hgrow0 (Nat.le_refl _) (fun k h => by cases h)⟩
    simpa [Value.cells, toList_madeCells_one] using hown0
  case round =>
    obtain ⟨k, hk, rfl, hown, hbel⟩ := hrel
    by_cases hlt : k < s
    · have hst := put_step hlt hown
      have hc := hown.cellAt k (by omega)
      have hz : ∃ v, wr.cell? ⟨w.heap.size, k, none⟩ = some v := by
        rw [hc]; exact ⟨_, List.getElem?_eq_getElem (by simp [cellsOf, Oct.octs_length]; omega)⟩
      obtain ⟨v, hv⟩ := hz
      have hf := hown.frozenAt k
      clear hc hown hgrow0 hown0
      go_wp2
      go_roundw
      case rel => exact ⟨k + 1, by omega, by go_num, hst, hbel.setCell (Nat.le_refl _) _⟩
      case measure => simp [intOf]; omega
    · have e : k = s := by omega
      subst e
      go_wp2
      go_ret2
      refine ⟨rfl, ?_, hbel⟩
      rw [List.take_of_length_le (by simp [cellsOf, Oct.octs_length])] at hown
      simpa using hown
theorem or_step (N b : Nat) (hN : N < 72057594037927936) (hb : b < 256) :
    bits BinOp.or IntKind.u64 (IntKind.u64.wrap ((N : Int) * 256)) (IntKind.u64.wrap (b : Int)) = ((256 * N + b : Nat) : Int) := by
  have e1 : IntKind.u64.wrap ((N : Int) * 256) = ((N * 256 : Nat) : Int) := by simp [IntKind.wrap, IntKind.bits, IntKind.signed]; omega
  have e2 : IntKind.u64.wrap (b : Int) = (b : Int) := by simp [IntKind.wrap, IntKind.bits, IntKind.signed]; omega
  have e3 := Oct.or_add N b hb
  rw [e1, e2, u64_or_nat _ _ (by omega) (by omega), e3]
theorem round_num (l : List UInt8) (p s k : Nat) (hk : k ≤ s) (h1 : 1 ≤ k) (hs : s ≤ 8) (h : p + s ≤ l.length) :
    bits BinOp.or IntKind.u64 (IntKind.u64.wrap ((Oct.num (Oct.cut l (p + k) (s - k)) : Nat) * 256)) (IntKind.u64.wrap ((l[p + (k - 1)]'(by omega)).toNat : Int)) = ((Oct.num (Oct.cut l (p + (k - 1)) (s - (k - 1))) : Nat) : Int) := by
  have hb : (l[p + (k - 1)]'(by omega)).toNat < 256 := by have := (l[p + (k - 1)]'(by omega)).toNat_lt; simpa using this
  have hN := Oct.num_cut_lt l (p + k) (s - k) (by omega)
  have hp : 256 ^ (s - k) ≤ 256 ^ 7 := Nat.pow_le_pow_right (by decide) (by omega)
  rw [or_step _ _ (by omega) hb]
  have e := Oct.num_cut_step l (p + (k - 1)) (s - k) (by omega)
  rw [show s - (k - 1) = s - k + 1 from by omega, e, show p + (k - 1) + 1 = p + k from by omega]
set_option maxHeartbeats 400000 in
theorem next_no (w : World) (a : Option Addr) (n c : Nat) (p s : Nat) (S : Int) (hS : S = (s : Int)) (Ba Bb : Nat) (hs1 : 1 ≤ s) (hs : s ≤ 8) (hn : n ≤ maxLen) (hp : p ≤ maxLen)
    (hat : w.cell? ⟨Ba, 0, none⟩ = some (.int .i64 p)) (hb : w.cell? ⟨Bb, 0, none⟩ = some (.slice a n c)) (h : n < p + s) :
    Calls Tryz.prog 144 #[.int .i64 S, .pointer (some ⟨Ba, 0, none⟩), .pointer (some ⟨Bb, 0, none⟩)] w fun e w' =>
      e = .returned (.tuple #[.int .u64 0, .bool false]) ∧ w = w' := by
  subst hS
  unfold maxLen at hn hp
  go_enter Tryz.func144, Tryz.ntmps144
  go_wp2
  go_ret2
  exact ⟨rfl, rfl⟩
set_option maxHeartbeats 400000 in
theorem next_ok (w : World) (a : Option Addr) (n c : Nat) (l : List UInt8) (p s : Nat) (S : Int) (hS : S = (s : Int)) (Ba Bb : Nat) (hs1 : 1 ≤ s) (hs : s ≤ 8) (hn : n ≤ maxLen) (hB : IsB w a n l)
    (hat : w.cell? ⟨Ba, 0, none⟩ = some (.int .i64 p)) (hfr : w.frozen? ⟨Ba, 0, none⟩ = false) (hb : w.cell? ⟨Bb, 0, none⟩ = some (.slice a n c)) (h : p + s ≤ n) :
    Calls Tryz.prog 144 #[.int .i64 S, .pointer (some ⟨Ba, 0, none⟩), .pointer (some ⟨Bb, 0, none⟩)] w fun e w' =>
      e = .returned (.tuple #[.int .u64 (Oct.num (Oct.cut l p s) : Nat), .bool true]) ∧ w.setCell ⟨Ba, 0, none⟩ (.int .i64 ((p + s : Nat) : Int)) = w' := by
  subst hS
  unfold maxLen at hn
  obtain ⟨b, off, rfl, hcell⟩ := hB.place (by omega)
  have hlen : l.length = n := hB.1
  clear hB
  go_enter Tryz.func144, Tryz.ntmps144
  go_wp2
  go_loop [6, 7] (fun v i => ∃ k : Nat, k ≤ s ∧ i = .int .i64 ((k : Int) - 1) ∧ v = .int .u64 (Oct.num (Oct.cut l (p + k) (s - k)) : Nat))
    (fun _ i => (intOf i + 1).toNat)
  case atStart => exact ⟨s, Nat.le_refl _, rfl, by simp [Oct.cut, Oct.num]⟩
  case round =>
    obtain ⟨k, hk, rfl, rfl⟩ := hrel
    by_cases hlt : 1 ≤ k
    · have hc := hcell (p + (k - 1)) (by omega)
      clear hcell
      go_wp2
      go_round
      case rel => exact ⟨k - 1, by omega, by go_num, by rw [round_num l p s k hk hlt hs (by omega)]⟩
      case measure => simp [intOf]; omega
    · have e : k = 0 := by omega
      subst e
      clear hcell
      go_wp2
      go_ret2
      exact ⟨rfl, rfl⟩
theorem two_new (w w1 : World) (o1 o2 : Obj) (v : Value) (h : ((w.alloc o1).alloc o2).setCell ⟨w.heap.size + 1, 0, none⟩ v = w1) : Below w.heap.size w w1 := by
  subst h
  exact (((Below.refl _ _).alloc (Nat.le_refl _) _).alloc (by simp) _).setCell (by simp) _
theorem put_u (n : Nat) (N S : Int) (hN : N = (n : Int)) (w : World) :
    Calls Tryz.prog 117 #[.int .u64 N, .int .i64 S] w fun e w' => ∃ a len c, e = .returned (.tuple #[.slice a len c, .int .i64 (Oct.putE n S)]) ∧
      w'.ownsRow w.heap.size 5 1 (.slice a len c) len (cellsOf (Oct.putL n S)) ∧ Below w.heap.size w w' := by
  rcases Oct.putE_cases n S with ⟨h, e1, e2⟩ | ⟨s, rfl, h1, h2, h3, e1, e2⟩ | ⟨s, rfl, h1, h2, h3, e1, e2⟩
  · rw [e1, e2]
    refine (put_arg N S w h).mono ?_
    rintro e w' ⟨rfl, rfl⟩
    exact ⟨none, 0, 0, rfl, own_nil _ _, Below.refl _ _⟩
  · rw [e1, e2]
    refine (put_range n s N _ hN rfl w h1 h2 h3).mono ?_
    rintro e w' ⟨rfl, rfl⟩
    exact ⟨none, 0, 0, rfl, own_nil _ _, Below.refl _ _⟩
  · rw [e1, e2]
    refine (put_ok n s N _ hN rfl w h1 h2 h3).mono ?_
    rintro e w' ⟨rfl, ho, hb⟩
    exact ⟨_, s, s, rfl, ho, hb⟩
set_option maxHeartbeats 400000 in
theorem get_arg (w : World) (a : Option Addr) (n c : Nat) (P S : Int) (h : ¬ (1 ≤ S ∧ S ≤ 8)) :
    Calls Tryz.prog 133 #[.slice a n c, .int .i64 P, .int .i64 S] w fun e w' => e = .returned (.tuple #[.int .u64 0, .int .i64 1]) ∧ w = w' := by
  have hd : decide (1 ≤ S ∧ S ≤ 8) = false := by simpa using h
  go_enter Tryz.func133, Tryz.ntmps133
  go_wp2_with (go_at_call 131; refine (isSize_any _ _).mono ?_; rintro e w' ⟨rfl, rfl⟩)
  go_ret2
  exact ⟨rfl, rfl⟩
set_option maxHeartbeats 400000 in
theorem get_neg (w : World) (a : Option Addr) (n c : Nat) (P S : Int) (h : 1 ≤ S ∧ S ≤ 8) (hp : P < 0) :
    Calls Tryz.prog 133 #[.slice a n c, .int .i64 P, .int .i64 S] w fun e w' => e = .returned (.tuple #[.int .u64 0, .int .i64 4]) ∧ w = w' := by
  have hd : decide (1 ≤ S ∧ S ≤ 8) = true := by simpa using h
  go_enter Tryz.func133, Tryz.ntmps133
  go_wp2_with (go_at_call 131; refine (isSize_any _ _).mono ?_; rintro e w' ⟨rfl, rfl⟩)
  go_ret2
  exact ⟨rfl, rfl⟩
set_option maxHeartbeats 400000 in
theorem get_short (w : World) (a : Option Addr) (n c : Nat) (p s : Nat) (P S : Int) (hP : P = (p : Int)) (hS : S = (s : Int)) (h1 : 1 ≤ s) (h2 : s ≤ 8) (hn : n ≤ maxLen) (hp : p ≤ maxLen) (h : n < p + s) :
    Calls Tryz.prog 133 #[.slice a n c, .int .i64 P, .int .i64 S] w fun e w' => e = .returned (.tuple #[.int .u64 0, .int .i64 8]) ∧ Below w.heap.size w w' := by
  subst hP
  subst hS
  have hd : decide (1 ≤ (s : Int) ∧ (s : Int) ≤ 8) = true := by simp; omega
  have hn' := hn
  have hp' := hp
  unfold maxLen at hn' hp'
  go_enter Tryz.func133, Tryz.ntmps133
  go_wp2_with (first
    | (go_at_call 131; refine (isSize_any _ _).mono ?_; rintro e w' ⟨rfl, rfl⟩)
    | (go_at_call 144; refine (next_no _ a n c p s _ rfl _ _ h1 h2 hn hp (by simp) (by simp) h).mono ?_; rintro e w1 ⟨rfl, rfl⟩)
    | go_in)
  go_ret2
  exact ⟨rfl, ((Below.refl _ _).alloc (Nat.le_refl _) _).alloc (by simp) _⟩
set_option maxHeartbeats 400000 in
theorem get_ok (w : World) (a : Option Addr) (n c : Nat) (l : List UInt8) (p s : Nat) (P S : Int) (hP : P = (p : Int)) (hS : S = (s : Int)) (h1 : 1 ≤ s) (h2 : s ≤ 8) (hn : n ≤ maxLen) (hB : IsB w a n l) (h : p + s ≤ n) :
    Calls Tryz.prog 133 #[.slice a n c, .int .i64 P, .int .i64 S] w fun e w' => e = .returned (.tuple #[.int .u64 (Oct.num (Oct.cut l p s) : Nat), .int .i64 0]) ∧ Below w.heap.size w w' := by
  subst hP
  subst hS
  have hd : decide (1 ≤ (s : Int) ∧ (s : Int) ≤ 8) = true := by simp; omega
  have hn' := hn
  unfold maxLen at hn'
  go_enter Tryz.func133, Tryz.ntmps133
  go_wp2_with (first
    | (go_at_call 131; refine (isSize_any _ _).mono ?_; rintro e w' ⟨rfl, rfl⟩)
    | (go_at_call 144; refine (next_ok _ a n c l p s _ rfl _ _ h1 h2 hn (hB.below (((Below.refl _ _).alloc (Nat.le_refl _) _).alloc (by simp) _)) (by simp) (by simp) (by simp) h).mono ?_; rintro e w1 ⟨rfl, hw1⟩; have hb1 := two_new _ _ _ _ _ hw1; clear hw1)
    | go_in)
  go_ret2
  exact ⟨rfl, hb1⟩
theorem get_u (w : World) (a : Option Addr) (n c : Nat) (l : List UInt8) (P S : Int) (hP : P ≤ 9223372036854775807) (hn : n ≤ maxLen) (hB : IsB w a n l) :
    Calls Tryz.prog 133 #[.slice a n c, .int .i64 P, .int .i64 S] w fun e w' =>
      e = .returned (.tuple #[.int .u64 (Oct.getV l P S : Nat), .int .i64 (Oct.getE l P S)]) ∧ Below w.heap.size w w' := by
  have hl := hB.1
  rcases Oct.getE_cases l P S with ⟨h, e1, e2⟩ | ⟨h, hp, e1, e2⟩ | ⟨p, s, rfl, rfl, h1, h2, h, e1, e2⟩ | ⟨p, s, rfl, rfl, h1, h2, h, e1, e2⟩
  · rw [e1, e2]
    refine (get_arg w a n c P S h).mono ?_
    rintro e w' ⟨rfl, rfl⟩
    exact ⟨rfl, Below.refl _ _⟩
  · rw [e1, e2]
    refine (get_neg w a n c P S h hp).mono ?_
    rintro e w' ⟨rfl, rfl⟩
    exact ⟨rfl, Below.refl _ _⟩
  · rw [e1, e2]
    refine (get_short w a n c p s _ _ rfl rfl h1 h2 hn (by unfold maxLen; omega) (by omega)).mono ?_
    rintro e w' ⟨rfl, hb⟩
    exact ⟨rfl, hb⟩
  · rw [e1, e2]
    refine (get_ok w a n c l p s _ _ rfl rfl h1 h2 hn hB (by omega)).mono ?_
    rintro e w' ⟨rfl, hb⟩
    exact ⟨rfl, hb⟩
end Go.Proofs.YtgbbkmdfangmmabGreat
namespace Go.Proofs.YtgbbkmdfangmmabGreat
set_option maxRecDepth 20000
open Go.RowKit
set_option linter.unusedVariables false
theorem Lf.way_next {l : List Itm} {k : Nat} (hk : k < l.length) (key : UInt64) : ((l.take (k + 1)).filter fun x => decide (x.1.toNat ≤ key.toNat)).length = ((l.take k).filter fun x => decide (x.1.toNat ≤ key.toNat)).length + (if l[k].1.toNat ≤ key.toNat then 1 else 0) := by
  rw [List.take_succ_eq_append_getElem hk, List.filter_append, List.length_append]
  congr 1
  by_cases c : l[k].1.toNat ≤ key.toNat
  · rw [if_pos c]; simp [c]
  · rw [if_neg c]; simp [c]
end Go.Proofs.YtgbbkmdfangmmabGreat
namespace Go.Proofs.YtgbbkmdfangmmabGreat
set_option maxRecDepth 20000
open Go.RowKit
set_option linter.unusedVariables false
theorem and_one (y : Nat) (h : y < 4294967296) : bits BinOp.and IntKind.u32 (y : Int) 1 = ((y % 2 : Nat) : Int) := by
  have := u32_and_nat y 1 h (by decide)
  rw [Nat.and_one_is_mod] at this
  simpa using this
theorem odd_bit (y : Nat) (h : y < 4294967296) (ho : y % 2 = 1) : (bits BinOp.and IntKind.u32 (y : Int) 1 == 1) = true := by
  rw [and_one y h, ho]; rfl
theorem even_bit (y : Nat) (h : y < 4294967296) (ho : ¬ y % 2 = 1) : (bits BinOp.and IntKind.u32 (y : Int) 1 == 1) = false := by
  rw [and_one y h, show y % 2 = 0 from by omega]; rfl
theorem not_bits (r : Nat) (h : r < 4294967296) : bits BinOp.xor IntKind.u32 IntKind.u32.max (r : Int) = ((4294967295 - r : Nat) : Int) := by
  have h1 := u32_xor_nat 4294967295 r (by decide) h
  rw [Crc.flip_xor h, Nat.xor_comm, ← h1]
  rfl
end Go.Proofs.YtgbbkmdfangmmabGreat
namespace Go.Proofs.YtgbbkmdfangmmabGreat
set_option maxRecDepth 20000
open Go.RowKit
set_option linter.unusedVariables false
theorem openL60 {l : List UInt8} (h : l.length = 64) (hE : Crc.openE l = 0) : (Crc.openL l).length = 60 := by
  rcases Crc.openE_cases l with ⟨g, _, _⟩ | ⟨g1, g2, g3, g4⟩ | ⟨_, _, g, _⟩
  · omega
  · rw [g4, List.length_take]; omega
  · rw [hE] at g; cases g
theorem u8_no {x : UInt8} {q : Nat} (hq : q < 256) (h : x ≠ UInt8.ofNat q) : ((x.toNat : Int) != (q : Int)) = true := by
  rw [bne_iff_ne]
  intro e
  refine h (UInt8.toNat_inj.1 ?_)
  rw [UInt8.toNat_ofNat', Nat.mod_eq_of_lt hq]
  omega
end Go.Proofs.YtgbbkmdfangmmabGreat
namespace Go.Proofs.YtgbbkmdfangmmabGreat
set_option maxRecDepth 20000
open Go.RowKit
set_option linter.unusedVariables false
theorem Lf.decodeN_len (b : List UInt8) : (Lf.decodeN b).1.length ≤ 3 ∧ (Lf.decodeN b).2.length ≤ 4 := by
  by_cases h : Lf.decodeE b = 0
  · have h1 := Lf.ok_iff.1 (Lf.enc_decode h).1
    have h2 := h1.few
    have h3 := h1.kids
    refine ⟨h2, ?_⟩
    rcases h3 with h3 | h3
    · rw [Lf.leaf_iff] at h3; omega
    · omega
  · rw [show Lf.decodeN b = ([], []) from if_neg h]
    simp
end Go.Proofs.YtgbbkmdfangmmabGreat
namespace Go.Proofs.YtgbbkmdfangmmabGreat
set_option maxRecDepth 20000
open Go.RowKit
set_option linter.unusedVariables false
theorem itmCells_cons (x : Itm) (l : List Itm) : itmCells (x :: l) = .int .u64 (x.1.toNat : Int) :: .int .u64 (x.2.toNat : Int) :: itmCells l := rfl
theorem itmCells_zeros : ∀ n : Nat, itmCells (List.replicate n (0, 0)) = List.replicate (n * 2) (.int .u64 0)
  | 0 => rfl
  | n + 1 => by rw [List.replicate_succ, itmCells_cons, itmCells_zeros n, Nat.succ_mul, List.replicate_succ, List.replicate_succ]; rfl
theorem madeCells_itms (n : Nat) : (madeCells #[.int .u64 0, .int .u64 0] (n * 2)).toList = itmCells (List.replicate n (0, 0)) := by
  rw [itmCells_zeros]
  apply List.ext_getElem?
  intro j
  by_cases hj : j < n * 2
  · have h2 : j % 2 = 0 ∨ j % 2 = 1 := by omega
    rcases h2 with h | h <;> simp [madeCells, hj, h]
  · simp [madeCells, hj]
theorem itmCells_set1 : ∀ (l : List Itm) (k : Nat) (h : k < l.length) (x : UInt64), (itmCells l).set (k * 2) (.int .u64 (x.toNat : Int)) = itmCells (l.set k (x, l[k].2))
  | y :: l, 0, _, x => rfl
  | y :: l, k + 1, h, x => by
    have ih := itmCells_set1 l k (by simpa using h) x
    rw [itmCells_cons, show (k + 1) * 2 = k * 2 + 1 + 1 by omega, List.set_cons_succ, List.set_cons_succ, ih]
    rfl
theorem itmCells_set2 : ∀ (l : List Itm) (k : Nat) (h : k < l.length) (x : UInt64), (itmCells l).set (k * 2 + 1) (.int .u64 (x.toNat : Int)) = itmCells (l.set k (l[k].1, x))
  | y :: l, 0, _, x => rfl
  | y :: l, k + 1, h, x => by
    have ih := itmCells_set2 l k (by simpa using h) x
    rw [itmCells_cons, show (k + 1) * 2 + 1 = k * 2 + 1 + 1 + 1 by omega, List.set_cons_succ, List.set_cons_succ, ih]
    rfl
theorem itmCells_get {l : List Itm} {k : Nat} (h : k < l.length) : (itmCells l)[k * 2]? = some (.int .u64 (l[k].1.toNat : Int)) ∧ (itmCells l)[k * 2 + 1]? = some (.int .u64 (l[k].2.toNat : Int)) := by
  induction l generalizing k with
  | nil => simp at h
  | cons y l ih =>
    cases k with
    | zero => exact ⟨rfl, rfl⟩
    | succ k =>
      obtain ⟨h1, h2⟩ := ih (k := k) (by simpa using h)
      rw [itmCells_cons, show (k + 1) * 2 = k * 2 + 1 + 1 by omega]
      exact ⟨by rw [List.getElem?_cons_succ, List.getElem?_cons_succ]; exact h1, by rw [show k * 2 + 1 + 1 + 1 = (k * 2 + 1) + 1 + 1 by omega, List.getElem?_cons_succ, List.getElem?_cons_succ]; exact h2⟩
namespace Lf
def itemsK (b : List UInt8) (k : Nat) : List Itm := (List.range (cnt b)).map fun i => (if i < k then keyR b i else 0, 0)
def itemsV (b : List UInt8) (k : Nat) : List Itm := (List.range (cnt b)).map fun i => (keyR b i, if i < k then valR b i else 0)
def kidsR (b : List UInt8) (k : Nat) : List Int := (List.range k).map (kidR b)
theorem itemsK_len (b : List UInt8) (k : Nat) : (itemsK b k).length = cnt b := by simp [itemsK]
theorem itemsV_len (b : List UInt8) (k : Nat) : (itemsV b k).length = cnt b := by simp [itemsV]
theorem itemsK_zero (b : List UInt8) : itemsK b 0 = List.replicate (cnt b) (0, 0) := by
  refine List.ext_getElem (by simp [itemsK]) fun i h1 h2 => ?_
  simp [itemsK]
theorem itemsV_zero (b : List UInt8) : itemsV b 0 = itemsK b (cnt b) := by
  refine List.ext_getElem (by simp [itemsK, itemsV]) fun i h1 h2 => ?_
  have : i < cnt b := by simpa [itemsV] using h1
  simp [itemsK, itemsV, this]
theorem itemsK_next {b : List UInt8} {k : Nat} (h : k < cnt b) : (itemsK b k).set k (keyR b k, ((itemsK b k)[k]'(by rw [itemsK_len]; exact h)).2) = itemsK b (k + 1) := by
  refine List.ext_getElem (by simp [itemsK]) fun i h1 h2 => ?_
  rw [List.getElem_set]
  by_cases e : k = i
  · subst e; simp [itemsK]
  · rw [if_neg e]
    simp only [itemsK, List.getElem_map, List.getElem_range]
    by_cases e2 : i < k
    · rw [if_pos e2, if_pos (by omega)]
    · rw [if_neg e2, if_neg (by omega)]
theorem itemsV_next {b : List UInt8} {k : Nat} (h : k < cnt b) : (itemsV b k).set k (((itemsV b k)[k]'(by rw [itemsV_len]; exact h)).1, valR b k) = itemsV b (k + 1) := by
  refine List.ext_getElem (by simp [itemsV]) fun i h1 h2 => ?_
  rw [List.getElem_set]
  by_cases e : k = i
  · subst e; simp [itemsV]
  · rw [if_neg e]
    simp only [itemsV, List.getElem_map, List.getElem_range]
    by_cases e2 : i < k
    · rw [if_pos e2, if_pos (by omega)]
    · rw [if_neg e2, if_neg (by omega)]
theorem itemsV_all {b : List UInt8} (h : b.getD 0 0 = 1) : itemsV b (cnt b) = readI b := by
  unfold itemsV readI
  refine List.map_congr_left fun i hi => ?_
  rw [if_pos (List.mem_range.1 hi), if_pos h]
theorem itemsK_all {b : List UInt8} (h : b.getD 0 0 = 2) : itemsK b (cnt b) = readI b := by
  unfold itemsK readI
  refine List.map_congr_left fun i hi => ?_
  rw [if_pos (List.mem_range.1 hi), if_neg (by rw [h]; decide)]
theorem kidsR_next (b : List UInt8) (k : Nat) : kidsR b (k + 1) = kidsR b k ++ [kidR b k] := by simp [kidsR, List.range_succ]
theorem readK_leaf {b : List UInt8} (h : b.getD 0 0 = 1) : readK b = [] := by unfold readK; rw [if_neg (by rw [h]; decide)]
theorem readK_kids {b : List UInt8} (h : b.getD 0 0 = 2) : readK b = kidsR b (cnt b + 1) := by unfold readK kidsR; rw [if_pos h]
theorem num_one (x : UInt8) : Oct.num [x] = x.toNat := by simp [Oct.num]
theorem getN_one {b : List UInt8} {p : Nat} (h : p + 1 ≤ b.length) : getN b p 1 = (b.getD p 0).toNat := by
  rw [getN_in (by decide) (by decide) h]
  have e : Oct.cut b p 1 = [b.getD p 0] := by
    unfold Oct.cut
    rw [List.drop_eq_getElem_cons (show p < b.length by omega), show b.getD p 0 = b[p]'(by omega) by simp [List.getD, List.getElem?_eq_getElem (show p < b.length by omega)], List.take_succ_cons, List.take_zero]
  rw [e, num_one]
end Lf
set_option maxHeartbeats 400000 in
theorem make_itms (w : World) {ops : Array Oper} {rest : List Oper} {o : Oper} {a : Go.Act} {Q : Exit → Go.Act → World → Prop}
    (hg : o.guard = none) (l c : Operand) (hop : o.op = Op.makeSlice 37 l c)
    (n : Nat) (C : Int) (hC : C = (n : Int)) (hl : a.eval l = .int .i64 C) (hc : a.eval c = .int .i64 C) (hn : n ≤ 1000000)
    (hK : ∀ w', Hid (Row w' w.heap.size 27 (itmCells (List.replicate n (0, 0)))) → Below w.heap.size w w' → w'.heap.size = w.heap.size + 1 → wpList Tryz.prog ops Q rest (a.put o.dst (.slice (some ⟨w.heap.size, 0, none⟩) n n)) w') :
    wpList Tryz.prog ops Q (o :: rest) a w := by
  subst hC
  obtain ⟨i, hi, hz0, hz1, hz2⟩ := info_parts (show (Tryz.prog.info? 27).map (fun i => (i.zero, i.size, i.bytes)) = some (some (.agg #[.int .u64 0, .int .u64 0]), 2, 16) by kernel_rfl)
  refine wpList_plain hg fun K hK' => ?_
  have hr := run_make (P := Tryz.prog) w 37 27 i (.agg #[.int .u64 0, .int .u64 0]) Tryz.underlying37 hi hz0 .i64 .i64 n n (by omega) (Int.le_refl _) (by rw [hz2]; omega) (by omega)
  simp only [Int.toNat_natCast, hz1] at hr
  unfold Oper.wp
  simp only [execOp, hop, hl, hc, hr, Result.andThen, Sem.run_bind, Sem.run_pure]
  have e : (madeCells (Value.agg #[.int .u64 0, .int .u64 0]).cells (n * 2)) = (itmCells (List.replicate n (0, 0))).toArray := by
    rw [← madeCells_itms, Array.toArray_toList]; rfl
  rw [e]
  exact hK' _ _ (hK _ (row_new w _ _) ((Below.refl _ _).alloc (Nat.le_refl _) _) (by simp))
end Go.Proofs.YtgbbkmdfangmmabGreat
namespace Go.Proofs.YtgbbkmdfangmmabGreat
set_option maxRecDepth 20000
open Go.RowKit
set_option linter.unusedVariables false
structure Reads (gA gB xb xo cap : Nat) (b : List UInt8) (w : World) (p : Nat) : Prop where
  spot : Row w gA 3 [.int .i64 (p : Int)]
  box : Row w gB 94 [.slice (some ⟨xb, xo, none⟩) 60 cap]
  oct : IsB w (some ⟨xb, xo, none⟩) 60 b
theorem IsB.keepB {w w' : World} {xb xo n : Nat} {l : List UInt8} (h : IsB w (some ⟨xb, xo, none⟩) n l) (hb : w'.heap[xb]? = w.heap[xb]?) : IsB w' (some ⟨xb, xo, none⟩) n l := by
  refine ⟨h.1, h.2.1, fun x hx j hj => ?_⟩
  have hc := h.2.2 x hx j hj
  simp only [Option.some.injEq] at hx
  subst hx
  rw [Addr.add_lit] at hc ⊢
  rw [World.cell?_of_block (w := w) (a := ⟨xb, xo + j, none⟩) hb]
  exact hc
theorem IsB.lt {w : World} {xb xo : Nat} {l : List UInt8} (h : IsB w (some ⟨xb, xo, none⟩) 60 l) : xb < w.heap.size := by
  have hl := h.1
  have := h.2.2 _ rfl 0 (by omega)
  rw [Addr.add_lit] at this
  exact World.block_lt_of_cell? _ _ this
theorem Reads.keep {gA gB xb xo cap : Nat} {b : List UInt8} {w w' : World} {p : Nat} (h : Reads gA gB xb xo cap b w p) (k : ∀ x, x = gA ∨ x = gB ∨ x = xb → w'.heap[x]? = w.heap[x]?) : Reads gA gB xb xo cap b w' p :=
  ⟨h.spot.keep (k gA (.inl rfl)), h.box.keep (k gB (.inr (.inl rfl))), h.oct.keepB (k xb (.inr (.inr rfl)))⟩
theorem Reads.below {gA gB xb xo cap : Nat} {b : List UInt8} {w w' : World} {p : Nat} (h : Reads gA gB xb xo cap b w p) (k : Below w.heap.size w w') : Reads gA gB xb xo cap b w' p :=
  ⟨h.spot.below k, h.box.below k, h.oct.below k⟩
set_option maxHeartbeats 1000000 in
theorem next_c (gA gB xb xo cap : Nat) (b : List UInt8) (w : World) (p : Nat) (hab : gA ≠ gB) (hax : gA ≠ xb) (h : Reads gA gB xb xo cap b w p) (s : Nat) (S : Int) (hS : S = (s : Int)) (h2 : s ≤ 8) (hp : p ≤ 100000) :
    Calls Tryz.prog 134 #[.int .i64 S, .pointer (some ⟨gB, 0, none⟩), .pointer (some ⟨gA, 0, none⟩)] w fun e w' => e = .returned (.int .u64 (Lf.getN b p s : Nat)) ∧ Reads gA gB xb xo cap b w' (p + s) ∧ Kept (fun x => x < w.heap.size ∧ x ≠ gA) w w' := by
  subst hS
  have HR : Hid (Reads gA gB xb xo cap b w p) := h
  have q0 := h.spot.cell (j := 0) rfl
  have q1 := h.box.cell (j := 0) rfl
  clear h
  obtain ⟨G, hG⟩ : ∃ G, G = Lf.getN b p s := ⟨_, rfl⟩
  rw [← hG]
  have HG : Hid (Oct.getV b (p : Int) (s : Int) = G) := hG.symm
  clear hG
  go_enter Tryz.func134, Tryz.ntmps134
  go_wp2_with fail
  refine (get_u w _ 60 cap b (p : Int) (s : Int) (by omega) (by decide) HR.out.oct).mono ?_
  rintro e w1 ⟨rfl, b1⟩
  have HR1 : Hid (Reads gA gB xb xo cap b w1 p) := HR.out.below b1
  have HB : Hid (Below w.heap.size w w1) := b1
  have HL : Hid (gA < w.heap.size ∧ gB < w.heap.size ∧ xb < w.heap.size) := ⟨HR.out.spot.lt, HR.out.box.lt, HR.out.oct.lt⟩
  clear q0 q1 b1
  have q0 := HR1.out.spot.cell (j := 0) rfl
  have q2 := HR1.out.spot.frozen 0
  have q1 := HR1.out.box.cell (j := 0) rfl
  rw [HG.out]
  obtain ⟨E, hE⟩ : ∃ E, E = Oct.getE b (p : Int) (s : Int) := ⟨_, rfl⟩
  rw [← hE]
  clear hE
  go_wp2
  go_ret
  refine ⟨rfl, ⟨?_, ?_, ?_⟩, ?_⟩
  · have := HR1.out.spot.set 0 (.int .i64 ((p + s : Nat) : Int))
    simpa using this
  · exact HR1.out.box.setO (p := ⟨gA, 0, none⟩) hab _
  · exact HR1.out.oct.keepB (Below.heap_setCell _ _ _ _ (fun e => hax e.symm))
  · exact ⟨HB.out.os, HB.out.tape, HB.out.output, by have := HB.out.size; simpa [World.setCell] using this, fun x hx => (Below.heap_setCell _ _ _ _ (fun e => hx.2 e)).trans (HB.out.block x hx.1)⟩
theorem kept_below1 {B gA : Nat} {w0 w w' : World} (h : Below B w0 w) (k : Kept (fun b => b < w.heap.size ∧ b ≠ gA) w w') (hB : B ≤ w.heap.size) (ha : B ≤ gA) : Below B w0 w' :=
  h.trans ⟨k.os, k.tape, k.output, k.size, fun b hb => k.block b ⟨by omega, by omega⟩⟩
theorem Row.kept1 {w w' : World} {g gA : Nat} {t : TypeId} {xs : List Value} (h : Row w g t xs) (k : Kept (fun b => b < w.heap.size ∧ b ≠ gA) w w') (hne : g ≠ gA) : Row w' g t xs := h.keep (k.block g ⟨h.lt, hne⟩)
theorem st_retv {Pr : Program} {fn : Func} {p q : Tmp} {ty t : TypeId} {tmps : Array Value} {w w2 : World} {b : Nat} {d : TypeDesc} {x0 x1 : Value} (V : Row w2 b t [x0, x1]) (bel : Below w.heap.size w w2) (hb : w.heap.size ≤ b)
    (u0 u1 v : Value) (h : fn.results = #[.cell p ty, .tmp q]) (hp : tmps.getD p undef = .pointer (some ⟨b, 0, none⟩)) (hq : tmps.getD q undef = v)
    (hu : Pr.underlying ty = some d) (hd : d.isRow = true) (hi : (Pr.info? ty).map (·.size) = some 2) {R : Ending → World → Prop}
    (hR : ∀ w', Kept (· ≠ b) w2 w' → Below w.heap.size w w' → R (.returned (.tuple #[.agg #[u0, u1], v])) w') :
    bodyPost Pr fn R .ret { tmps := tmps, defers := [] } ((w2.setCell ⟨b, 0, none⟩ u0).setCell ⟨b, 1, none⟩ u1) := by
  obtain ⟨w', hw, V', K'⟩ := V.whole2 u0 u1
  rw [hw]
  have hr := results_rowt (Pr := Pr) (fn := fn) h hp V' hu hd hi
  rw [hq] at hr
  exact bodyPost_ret hr rfl (hR w' K' (Kept.belowOf bel K' hb))
theorem equal_u (w : World) (a a' : Option Addr) (n c n' c' : Nat) (l m : List UInt8) (hL : IsB w a n l) (hM : IsB w a' n' m) (r : Bool) (hr : (l == m) = r) :
    Calls Tryz.prog 123 #[.slice a n c, .slice a' n' c'] w fun e w' => e = .returned (.bool r) ∧ w = w' := by
  have h1 := conv_bytes w a n c l hL
  have h2 := conv_bytes w a' n' c' m hM
  clear hL hM
  go_enter Tryz.func123, Tryz.ntmps123
  go_wp2
  go_ret
  exact ⟨by rw [← hr]; rfl, rfl⟩
end Go.Proofs.YtgbbkmdfangmmabGreat
namespace Go.Proofs.YtgbbkmdfangmmabGreat
set_option maxRecDepth 20000
open Go.RowKit
set_option linter.unusedVariables false
theorem Lf.keyR_nat (b : List UInt8) (k : Nat) : (Lf.getN b (4 + 8 * k) 8 : Nat) = (Lf.keyR b k).toNat := by
  unfold Lf.keyR
  rw [UInt64.toNat_ofNat', Nat.mod_eq_of_lt (Lf.getN_lt b _ 8 (by decide) (by decide))]
theorem Lf.valR_nat (b : List UInt8) (k m : Nat) (hm : Lf.cnt b = m) : (Lf.getN b (4 + 8 * m + 8 * k) 8 : Nat) = (Lf.valR b k).toNat := by
  unfold Lf.valR
  rw [hm, UInt64.toNat_ofNat', Nat.mod_eq_of_lt (Lf.getN_lt b _ 8 (by decide) (by decide))]
theorem OwnI.ofRow {w : World} {g base m : Nat} {l : List Itm} (h : Row w g 27 (itmCells l)) (hl : l.length = m) (hb : base ≤ g) (hm : m ≤ 1000000) : OwnI 27 w base (.slice (some ⟨g, 0, none⟩) m m) l := by
  subst hl
  exact ⟨⟨itmCells_length l, .inr ⟨g, l.length, _, rfl, hb, h.eq, Nat.le_refl _, by unfold maxLen; omega, by simp [itmCells_length], by simp [← itmCells_length]⟩⟩⟩
set_option maxHeartbeats 2000000 in
theorem read_no (w : World) (xb xo cap : Nat) (b : List UInt8) (hB : IsB w (some ⟨xb, xo, none⟩) 60 b) (hk : ¬ (b.getD 0 0 = 1 ∨ b.getD 0 0 = 2)) :
    Calls Tryz.prog 122 #[.slice (some ⟨xb, xo, none⟩) 60 cap] w fun e w' => e = .returned (.tuple #[.agg #[.slice none 0 0, .slice none 0 0], .bool false]) ∧ Below w.heap.size w w' := by
  have HKd : Hid _ := hk
  clear hk
  have HL : Hid (b.length = 60) := hB.1
  have hxb : xb < w.heap.size := hB.lt
  obtain ⟨w0, hw0, V0, b0, z0⟩ := boxedRow w 94 [.slice (some ⟨xb, xo, none⟩) 60 cap]
  obtain ⟨w1, hw1, V1, b1, z1⟩ := boxedRow w0 78 [.slice none 0 0, .slice none 0 0]
  rw [z0] at V1 z1
  obtain ⟨w2, hw2, V2, b2, z2⟩ := boxedRow w1 3 [.int .i64 0]
  rw [z1] at V2 z2
  have f2 := V2.frozen 0
  have c2 := V2.cell (j := 0) rfl
  obtain ⟨w3, hw3⟩ : ∃ w3, w2.setCell ⟨w.heap.size + 1 + 1, 0, none⟩ (.int .i64 0) = w3 := ⟨_, rfl⟩
  have HRd : Hid (Reads (w.heap.size + 1 + 1) w.heap.size xb xo cap b w3 (0)) := by
    rw [← hw3]
    exact ⟨V2.set 0 (.int .i64 0), ((V0.below b1).below b2).setO (p := ⟨w.heap.size + 1 + 1, 0, none⟩) (by show w.heap.size + 1 + 1 ≠ _; omega) _, (((hB.below b0).below b1).below b2).keepB (Below.heap_setCell _ _ _ _ (by show xb ≠ w.heap.size + 1 + 1; omega))⟩
  have HRes : Hid (Row w3 (w.heap.size + 1) 78 [.slice none 0 0, .slice none 0 0]) := by
    rw [← hw3]
    exact (V1.below b2).setO (p := ⟨w.heap.size + 1 + 1, 0, none⟩) (by show w.heap.size + 1 + 1 ≠ _; omega) _
  have B3 : Hid (Below w.heap.size w w3) := by
    rw [← hw3]
    exact (on (on b0 b1) b2).setCell (p := ⟨w.heap.size + 1 + 1, 0, none⟩) (by show w.heap.size ≤ w.heap.size + 1 + 1; omega) _
  clear V0 V1 V2 b0 b1 b2 z2 hB
  go_enter Tryz.func122, Tryz.ntmps122
  go_wp2_with fail
  refine (next_c _ _ xb xo cap b _ 0 (by omega) (by omega) HRd.out 1 _ rfl (by decide) (by decide)).mono ?_
  rintro e w4 ⟨rfl, rd4, k4⟩
  rw [Lf.getN_one (p := 0) (by rw [HL.out]; decide)]
  have RD4 : Hid (Reads (w.heap.size + 1 + 1) w.heap.size xb xo cap b w4 (1)) := rd4
  have R4 : Hid (Row w4 (w.heap.size + 1) 78 [.slice none 0 0, .slice none 0 0]) := HRes.out.kept1 k4 (by omega)
  have B4 : Hid (Below w.heap.size w w4) := kept_below1 B3.out k4 B3.out.size (by omega)
  clear rd4 k4 f2 c2 hw0 hw1 hw2 hw3 z0 z1 HRd HRes B3
  obtain ⟨X, hX⟩ : ∃ X, X = b.getD 0 0 := ⟨_, rfl⟩
  rw [← hX] at HKd ⊢
  have k1 : ((X.toNat : Int) != 1) = true := u8_no (q := 1) (by decide) (fun e => HKd.out (.inl e))
  have k2 : ((X.toNat : Int) != 2) = true := u8_no (q := 2) (by decide) (fun e => HKd.out (.inr e))
  clear hX
  obtain ⟨z0, z1⟩ := R4.out.two
  have f0 := R4.out.frozen 0
  have f1 := R4.out.frozen 1
  go_wp2
  exact st_retv R4.out B4.out (by omega) _ _ _ rfl rfl rfl Tryz.underlying78 rfl (by kernel_rfl) (fun w' _ b' => ⟨rfl, b'⟩)
set_option maxRecDepth 20000 in
set_option maxHeartbeats 8000000 in
theorem read_leaf (w : World) (xb xo cap : Nat) (b : List UInt8) (hB : IsB w (some ⟨xb, xo, none⟩) 60 b) (hk : b.getD 0 0 = 1) :
    Calls Tryz.prog 122 #[.slice (some ⟨xb, xo, none⟩) 60 cap] w fun e w' => ∃ v v', e = .returned (.tuple #[.agg #[v, v'], .bool true]) ∧ OwnI 27 w' w.heap.size v (Lf.readN b).1 ∧ OwnK 3 w' w.heap.size v' (Lf.readN b).2 ∧ Below w.heap.size w w' := by
  have HKd : Hid (b.getD 0 0 = 1) := hk
  clear hk
  have HL : Hid (b.length = 60) := hB.1
  have hxb : xb < w.heap.size := hB.lt
  obtain ⟨w0, hw0, V0, b0, z0⟩ := boxedRow w 94 [.slice (some ⟨xb, xo, none⟩) 60 cap]
  obtain ⟨w1, hw1, V1, b1, z1⟩ := boxedRow w0 78 [.slice none 0 0, .slice none 0 0]
  rw [z0] at V1 z1
  obtain ⟨w2, hw2, V2, b2, z2⟩ := boxedRow w1 3 [.int .i64 0]
  rw [z1] at V2 z2
  have f2 := V2.frozen 0
  have c2 := V2.cell (j := 0) rfl
  obtain ⟨w3, hw3⟩ : ∃ w3, w2.setCell ⟨w.heap.size + 1 + 1, 0, none⟩ (.int .i64 0) = w3 := ⟨_, rfl⟩
  have HRd : Hid (Reads (w.heap.size + 1 + 1) w.heap.size xb xo cap b w3 (0)) := by
    rw [← hw3]
    exact ⟨V2.set 0 (.int .i64 0), ((V0.below b1).below b2).setO (p := ⟨w.heap.size + 1 + 1, 0, none⟩) (by show w.heap.size + 1 + 1 ≠ _; omega) _, (((hB.below b0).below b1).below b2).keepB (Below.heap_setCell _ _ _ _ (by show xb ≠ w.heap.size + 1 + 1; omega))⟩
  have HRes : Hid (Row w3 (w.heap.size + 1) 78 [.slice none 0 0, .slice none 0 0]) := by
    rw [← hw3]
    exact (V1.below b2).setO (p := ⟨w.heap.size + 1 + 1, 0, none⟩) (by show w.heap.size + 1 + 1 ≠ _; omega) _
  have B3 : Hid (Below w.heap.size w w3) := by
    rw [← hw3]
    exact (on (on b0 b1) b2).setCell (p := ⟨w.heap.size + 1 + 1, 0, none⟩) (by show w.heap.size ≤ w.heap.size + 1 + 1; omega) _
  clear V0 V1 V2 b0 b1 b2 z2 hB
  go_enter Tryz.func122, Tryz.ntmps122
  go_wp2_with fail
  refine (next_c _ _ xb xo cap b _ 0 (by omega) (by omega) HRd.out 1 _ rfl (by decide) (by decide)).mono ?_
  rintro e w4 ⟨rfl, rd4, k4⟩
  rw [Lf.getN_one (p := 0) (by rw [HL.out]; decide)]
  have RD4 : Hid (Reads (w.heap.size + 1 + 1) w.heap.size xb xo cap b w4 (1)) := rd4
  have R4 : Hid (Row w4 (w.heap.size + 1) 78 [.slice none 0 0, .slice none 0 0]) := HRes.out.kept1 k4 (by omega)
  have B4 : Hid (Below w.heap.size w w4) := kept_below1 B3.out k4 B3.out.size (by omega)
  clear rd4 k4 f2 c2 hw0 hw1 hw2 hw3 z0 z1 HRd HRes B3
  rw [show ((b.getD 0 0).toNat : Int) = 1 by rw [HKd.out]; rfl]
  go_wp2_with fail
  refine (next_c _ _ xb xo cap b _ 1 (by omega) (by omega) RD4.out 1 _ rfl (by decide) (by decide)).mono ?_
  rintro e w5 ⟨rfl, rd5, k5⟩
  rw [Lf.getN_one (p := 1) (by rw [HL.out]; decide)]
  obtain ⟨m, hm⟩ : ∃ m, m = Lf.cnt b := ⟨_, rfl⟩
  rw [show (b.getD 1 0).toNat = m from hm.symm]
  have HM : Hid (Lf.cnt b = m) := hm.symm
  have hm1 : m ≤ 255 := by have := Lf.cnt_lt b; omega
  have RD5 : Hid (Reads (w.heap.size + 1 + 1) w.heap.size xb xo cap b w5 (2)) := rd5
  have R5 : Hid (Row w5 (w.heap.size + 1) 78 [.slice none 0 0, .slice none 0 0]) := R4.out.kept1 k5 (by omega)
  have B5 : Hid (Below w.heap.size w w5) := kept_below1 B4.out k5 B4.out.size (by omega)
  clear rd5 k5 hm RD4 R4 B4
  go_wp2_with fail
  refine (next_c _ _ xb xo cap b _ 2 (by omega) (by omega) RD5.out 2 _ rfl (by decide) (by decide)).mono ?_
  rintro e w6 ⟨rfl, rd6, k6⟩
  have RD6 : Hid (Reads (w.heap.size + 1 + 1) w.heap.size xb xo cap b w6 (4)) := rd6
  have R6 : Hid (Row w6 (w.heap.size + 1) 78 [.slice none 0 0, .slice none 0 0]) := R5.out.kept1 k6 (by omega)
  have B6 : Hid (Below w.heap.size w w6) := kept_below1 B5.out k6 B5.out.size (by omega)
  have hg6 : w.heap.size + 1 + 1 < w6.heap.size := RD6.out.spot.lt
  clear rd6 k6 RD5 R5 B5
  obtain ⟨GN2, hGN2⟩ : ∃ GN2, GN2 = Lf.getN b 2 2 := ⟨_, rfl⟩
  rw [← hGN2]
  clear hGN2
  go_wp2_with (at_make; refine make_itms _ rfl _ _ rfl m _ rfl rfl rfl (by omega) ?_
               intro w7 HI7 b7 z7
               obtain ⟨w8, hw8, V8, b8, z8⟩ := boxedRow w7 78 [.slice (some ⟨w6.heap.size, 0, none⟩) m m, .slice none 0 0]
               rw [z7] at V8 z8
               have f8 := V8.frozen 1
               have c8 := V8.cell (j := 1) rfl
               obtain ⟨w9, hw9⟩ : ∃ w9, w8.setCell ⟨w6.heap.size + 1, 1, none⟩ (.slice none 0 0) = w9 := ⟨_, rfl⟩
               have N9 : Hid (Row w9 (w6.heap.size + 1) 78 [.slice (some ⟨w6.heap.size, 0, none⟩) m m, .slice none 0 0]) := (by rw [← hw9]; exact V8.set 1 (.slice none 0 0))
               have I9 : Hid (Row w9 w6.heap.size 27 (itmCells (Lf.itemsK b 0))) := (by rw [← hw9, Lf.itemsK_zero, HM.out]; exact (HI7.out.below b8).setO (p := ⟨w6.heap.size + 1, 1, none⟩) (by show w6.heap.size + 1 ≠ _; omega) _)
               have R9 : Hid (Row w9 (w.heap.size + 1) 78 [.slice none 0 0, .slice none 0 0]) := (by rw [← hw9]; exact ((R6.out.below b7).below b8).setO (p := ⟨w6.heap.size + 1, 1, none⟩) (by show w6.heap.size + 1 ≠ _; omega) _)
               have RD9 : Hid (Reads (w.heap.size + 1 + 1) w.heap.size xb xo cap b w9 (4 + 8 * 0)) := (by rw [← hw9]; exact ((RD6.out.below b7).below b8).keep (fun x hx => Below.heap_setCell _ _ _ _ (by show x ≠ w6.heap.size + 1; omega)))
               have B9 : Hid (Below w.heap.size w w9) := (by rw [← hw9]; exact (on (on B6.out b7) b8).setCell (p := ⟨w6.heap.size + 1, 1, none⟩) (by show w.heap.size ≤ w6.heap.size + 1; omega) _)
               obtain ⟨t0, t1⟩ := N9.out.two
               clear HI7 b7 V8 b8 z8)
  clear t0 t1 f8 c8 hw8 hw9 z7
  go_loopw [32] (fun i wr => ∃ k : Nat, k ≤ m ∧ i = .int .i64 k ∧ Hid (Reads (w.heap.size + 1 + 1) w.heap.size xb xo cap b wr (4 + 8 * k)) ∧ Hid (Row wr w6.heap.size 27 (itmCells (Lf.itemsK b k))) ∧ Hid (Row wr (w6.heap.size + 1) 78 [.slice (some ⟨w6.heap.size, 0, none⟩) m m, .slice none 0 0]) ∧ Hid (Row wr (w.heap.size + 1) 78 [.slice none 0 0, .slice none 0 0]) ∧ Below w.heap.size w wr) (fun i _ => m - (intOf i).toNat)
  case atStart => exact ⟨0, Nat.zero_le _, rfl, RD9, I9, N9, R9, B9.out⟩
  case round =>
    obtain ⟨k, hk, rfl, HRd, HI, HN, HR, bel⟩ := hrel
    by_cases hlt : k < m
    · have HKl : Hid (k < Lf.cnt b) := by unfold Hid; rw [HM.out]; exact hlt
      have hkz : (k : Int) < (m : Int) := by omega
      have BR : Hid (Below w.heap.size w wr) := bel
      clear bel
      go_wp2_with fail
      refine wp_region_held_drew (S := (fun w' : World => w'.cell? ⟨w6.heap.size + 1, 0, none⟩ = some (.slice (some ⟨w6.heap.size, 0, none⟩) m m))) (by kernel_rfl) ((HN.out.keep rfl : Row wr.drew _ _ _).two.1) (fun hHeld => ?_)
      refine wpAnyH_takeL (i := 0) (v := ?_) rfl rfl (by kernel_rfl) (by kernel_rfl) (by kernel_rfl) (fun _ _ _ h => h) (Or.inl ⟨by rfl, ?_⟩) (by assumption) ?_
      rotate_left
      · intro w hSw
        try dsimp only at hSw
        go_simp
        all_goals with_reducible rfl
      simp only [List.set_cons_zero, List.set_cons_succ]
      refine wpAnyH_takeL (i := 1) (v := ?_) rfl rfl (by kernel_rfl) (by kernel_rfl) (by kernel_rfl) (fun _ _ _ h => h) (Or.inl ⟨by rfl, ?_⟩) (by assumption) ?_
      rotate_left
      · intro w hSw
        try dsimp only at hSw
        go_simp
        all_goals with_reducible rfl
      simp only [List.set_cons_zero, List.set_cons_succ]
      refine wpAnyH_takeL (i := 2) (v := ?_) rfl rfl (by kernel_rfl) (by kernel_rfl) (by kernel_rfl) (fun _ _ _ h => h) (Or.inl ⟨by rfl, ?_⟩) (by assumption) ?_
      rotate_left
      · intro w hSw
        try dsimp only at hSw
        go_simp
        all_goals with_reducible rfl
      simp only [List.set_cons_zero, List.set_cons_succ]
      refine wpAnyH_takeL (i := 3) (v := ?_) rfl rfl (by kernel_rfl) (by kernel_rfl) (by kernel_rfl) (fun _ _ _ h => h) (Or.inl ⟨by rfl, ?_⟩) (by assumption) ?_
      rotate_left
      · intro w hSw
        try dsimp only at hSw
        go_simp
        all_goals with_reducible rfl
      simp only [List.set_cons_zero, List.set_cons_succ]
      refine wpAnyH_ready (rs := [4]) (by kernel_rfl) (by simp) ?_
      refine AllReadyH.cons rfl (fun K hK => ?_) ?_
      · go_simp
        go_at_call 134
        refine Calls.mono (next_c _ _ xb xo cap b wr.drew (4 + 8 * k) (by omega) (by omega) (HRd.out.keep (fun _ _ => rfl)) 8 _ rfl (by decide) (by omega)) ?_
        rintro e w3 ⟨rfl, rd3, k3⟩
        rw [Lf.keyR_nat]
        have RD3 : Hid (Reads (w.heap.size + 1 + 1) w.heap.size xb xo cap b w3 (4 + 8 * (k + 1))) := by
          rw [show 4 + 8 * (k + 1) = 4 + 8 * k + 8 by omega]
          exact rd3
        have N3 : Hid (Row w3 (w6.heap.size + 1) 78 [.slice (some ⟨w6.heap.size, 0, none⟩) m m, .slice none 0 0]) := (HN.out.keep rfl : Row wr.drew _ _ _).kept1 k3 (by omega)
        have I3 : Hid (Row w3 w6.heap.size 27 (itmCells (Lf.itemsK b k))) := (HI.out.keep rfl : Row wr.drew _ _ _).kept1 k3 (by omega)
        have R3 : Hid (Row w3 (w.heap.size + 1) 78 [.slice none 0 0, .slice none 0 0]) := (HR.out.keep rfl : Row wr.drew _ _ _).kept1 k3 (by omega)
        have B3 : Hid (Below w.heap.size w w3) := kept_below1 (w := wr.drew) (BR.out.drew) k3 BR.out.size (by omega)
        have i0 := I3.out.cell (j := k * 2) (itmCells_get (by rw [Lf.itemsK_len]; exact HKl.out)).1
        have i1 := I3.out.frozen (k * 2)
        clear rd3 k3
        go_simp
        refine hK.out _ _ ?_ (fun hHeld => ?_)
        · try dsimp only
          exact N3.out.two.1
        clear hK K
        refine wpAnyH_takeL (i := 5) (v := ?_) rfl rfl (by kernel_rfl) (by kernel_rfl) (by kernel_rfl) (fun _ _ _ h => h) (Or.inl ⟨by rfl, ?_⟩) (by assumption) ?_
        rotate_left
        · intro w hSw
          try dsimp only at hSw
          go_simp
          all_goals with_reducible rfl
        simp only [List.set_cons_zero, List.set_cons_succ]
        refine wpAnyH_takeL (i := 6) (v := ?_) rfl rfl (by kernel_rfl) (by kernel_rfl) (by kernel_rfl) (fun _ _ _ h => h) (Or.inl ⟨by rfl, ?_⟩) (by assumption) ?_
        rotate_left
        · intro w hSw
          try dsimp only at hSw
          go_simp
          all_goals with_reducible rfl
        simp only [List.set_cons_zero, List.set_cons_succ]
        refine wpAnyH_ready (rs := [7]) (by kernel_rfl) (by simp) ?_
        refine AllReadyH.cons rfl (fun K hK => ?_) ?_
        · go_simp
          refine hK.out _ _ ?_ (fun hHeld => ?_)
          · try dsimp only
            exact (N3.out.setO (p := ⟨w6.heap.size, k * 2, none⟩) (by show w6.heap.size ≠ _; omega) _).two.1
          clear hK K
          refine wpAnyH_done (by kernel_rfl) ?_ _
          clear hHeld
          have I5 : Hid (Row (w3.setCell ⟨w6.heap.size, k * 2, none⟩ (.int .u64 ((Lf.keyR b k).toNat : Int))) w6.heap.size 27 (itmCells (Lf.itemsK b (k + 1)))) := by
            have h := I3.out.set (k * 2) (.int .u64 ((Lf.keyR b k).toNat : Int))
            rw [itmCells_set1 _ _ (by rw [Lf.itemsK_len]; exact HKl.out), Lf.itemsK_next HKl.out] at h
            exact h
          have N5 : Hid (Row (w3.setCell ⟨w6.heap.size, k * 2, none⟩ (.int .u64 ((Lf.keyR b k).toNat : Int))) (w6.heap.size + 1) 78 [.slice (some ⟨w6.heap.size, 0, none⟩) m m, .slice none 0 0]) := N3.out.setO (p := ⟨w6.heap.size, k * 2, none⟩) (by show w6.heap.size ≠ _; omega) _
          have R5 : Hid (Row (w3.setCell ⟨w6.heap.size, k * 2, none⟩ (.int .u64 ((Lf.keyR b k).toNat : Int))) (w.heap.size + 1) 78 [.slice none 0 0, .slice none 0 0]) := R3.out.setO (p := ⟨w6.heap.size, k * 2, none⟩) (by show w6.heap.size ≠ _; omega) _
          have RD5 : Hid (Reads (w.heap.size + 1 + 1) w.heap.size xb xo cap b (w3.setCell ⟨w6.heap.size, k * 2, none⟩ (.int .u64 ((Lf.keyR b k).toNat : Int))) (4 + 8 * (k + 1))) := RD3.out.keep (fun x hx => Below.heap_setCell _ _ _ _ (by show x ≠ w6.heap.size; omega))
          have B5 : Hid (Below w.heap.size w (w3.setCell ⟨w6.heap.size, k * 2, none⟩ (.int .u64 ((Lf.keyR b k).toNat : Int)))) := B3.out.setCell (p := ⟨w6.heap.size, k * 2, none⟩) (by show w.heap.size ≤ w6.heap.size; omega) _
          go_wp2
          go_roundw
          case rel => exact ⟨k + 1, by omega, by go_num, RD5, I5, N5, R5, B5.out⟩
          case measure => simp [intOf]; omega
        exact AllReadyH.nil
      exact AllReadyH.nil
    · obtain rfl : m = k := by omega
      obtain ⟨t0, t1⟩ := HN.out.two
      go_wp2
      clear t0 t1
      go_loopw [48] (fun i wr => ∃ k : Nat, k ≤ m ∧ i = .int .i64 k ∧ Hid (Reads (w.heap.size + 1 + 1) w.heap.size xb xo cap b wr (4 + 8 * m + 8 * k)) ∧ Hid (Row wr w6.heap.size 27 (itmCells (Lf.itemsV b k))) ∧ Hid (Row wr (w6.heap.size + 1) 78 [.slice (some ⟨w6.heap.size, 0, none⟩) m m, .slice none 0 0]) ∧ Hid (Row wr (w.heap.size + 1) 78 [.slice none 0 0, .slice none 0 0]) ∧ Below w.heap.size w wr) (fun i _ => m - (intOf i).toNat)
      case atStart => exact ⟨0, Nat.zero_le _, rfl, HRd, by rw [Lf.itemsV_zero, HM.out]; exact HI, HN, HR, bel⟩
      case round =>
        clear HRd HI HN HR bel
        obtain ⟨k, hk, rfl, HRd, HI, HN, HR, bel⟩ := hrel
        by_cases hlt : k < m
        · have HKl : Hid (k < Lf.cnt b) := by unfold Hid; rw [HM.out]; exact hlt
          have hkz : (k : Int) < (m : Int) := by omega
          have BR : Hid (Below w.heap.size w wr) := bel
          clear bel
          go_wp2_with fail
          refine wp_region_held_drew (S := (fun w' : World => w'.cell? ⟨w6.heap.size + 1, 0, none⟩ = some (.slice (some ⟨w6.heap.size, 0, none⟩) m m))) (by kernel_rfl) ((HN.out.keep rfl : Row wr.drew _ _ _).two.1) (fun hHeld => ?_)
          refine wpAnyH_takeL (i := 0) (v := ?_) rfl rfl (by kernel_rfl) (by kernel_rfl) (by kernel_rfl) (fun _ _ _ h => h) (Or.inl ⟨by rfl, ?_⟩) (by assumption) ?_
          rotate_left
          · intro w hSw
            try dsimp only at hSw
            go_simp
            all_goals with_reducible rfl
          simp only [List.set_cons_zero, List.set_cons_succ]
          refine wpAnyH_takeL (i := 1) (v := ?_) rfl rfl (by kernel_rfl) (by kernel_rfl) (by kernel_rfl) (fun _ _ _ h => h) (Or.inl ⟨by rfl, ?_⟩) (by assumption) ?_
          rotate_left
          · intro w hSw
            try dsimp only at hSw
            go_simp
            all_goals with_reducible rfl
          simp only [List.set_cons_zero, List.set_cons_succ]
          refine wpAnyH_takeL (i := 2) (v := ?_) rfl rfl (by kernel_rfl) (by kernel_rfl) (by kernel_rfl) (fun _ _ _ h => h) (Or.inl ⟨by rfl, ?_⟩) (by assumption) ?_
          rotate_left
          · intro w hSw
            try dsimp only at hSw
            go_simp
            all_goals with_reducible rfl
          simp only [List.set_cons_zero, List.set_cons_succ]
          refine wpAnyH_takeL (i := 3) (v := ?_) rfl rfl (by kernel_rfl) (by kernel_rfl) (by kernel_rfl) (fun _ _ _ h => h) (Or.inl ⟨by rfl, ?_⟩) (by assumption) ?_
          rotate_left
          · intro w hSw
            try dsimp only at hSw
            go_simp
            all_goals with_reducible rfl
          simp only [List.set_cons_zero, List.set_cons_succ]
          refine wpAnyH_ready (rs := [4]) (by kernel_rfl) (by simp) ?_
          refine AllReadyH.cons rfl (fun K hK => ?_) ?_
          · go_simp
            go_at_call 134
            refine Calls.mono (next_c _ _ xb xo cap b wr.drew (4 + 8 * m + 8 * k) (by omega) (by omega) (HRd.out.keep (fun _ _ => rfl)) 8 _ rfl (by decide) (by omega)) ?_
            rintro e w3 ⟨rfl, rd3, k3⟩
            rw [Lf.valR_nat b k m HM.out]
            have RD3 : Hid (Reads (w.heap.size + 1 + 1) w.heap.size xb xo cap b w3 (4 + 8 * m + 8 * (k + 1))) := by
              rw [show 4 + 8 * m + 8 * (k + 1) = 4 + 8 * m + 8 * k + 8 by omega]
              exact rd3
            have N3 : Hid (Row w3 (w6.heap.size + 1) 78 [.slice (some ⟨w6.heap.size, 0, none⟩) m m, .slice none 0 0]) := (HN.out.keep rfl : Row wr.drew _ _ _).kept1 k3 (by omega)
            have I3 : Hid (Row w3 w6.heap.size 27 (itmCells (Lf.itemsV b k))) := (HI.out.keep rfl : Row wr.drew _ _ _).kept1 k3 (by omega)
            have R3 : Hid (Row w3 (w.heap.size + 1) 78 [.slice none 0 0, .slice none 0 0]) := (HR.out.keep rfl : Row wr.drew _ _ _).kept1 k3 (by omega)
            have B3 : Hid (Below w.heap.size w w3) := kept_below1 (w := wr.drew) (BR.out.drew) k3 BR.out.size (by omega)
            have i0 := I3.out.cell (j := k * 2 + 1) (itmCells_get (by rw [Lf.itemsV_len]; exact HKl.out)).2
            have i1 := I3.out.frozen (k * 2 + 1)
            clear rd3 k3
            go_simp
            refine hK.out _ _ ?_ (fun hHeld => ?_)
            · try dsimp only
              exact N3.out.two.1
            clear hK K
            refine wpAnyH_takeL (i := 5) (v := ?_) rfl rfl (by kernel_rfl) (by kernel_rfl) (by kernel_rfl) (fun _ _ _ h => h) (Or.inl ⟨by rfl, ?_⟩) (by assumption) ?_
            rotate_left
            · intro w hSw
              try dsimp only at hSw
              go_simp
              all_goals with_reducible rfl
            simp only [List.set_cons_zero, List.set_cons_succ]
            refine wpAnyH_takeL (i := 6) (v := ?_) rfl rfl (by kernel_rfl) (by kernel_rfl) (by kernel_rfl) (fun _ _ _ h => h) (Or.inl ⟨by rfl, ?_⟩) (by assumption) ?_
            rotate_left
            · intro w hSw
              try dsimp only at hSw
              go_simp
              all_goals with_reducible rfl
            simp only [List.set_cons_zero, List.set_cons_succ]
            refine wpAnyH_ready (rs := [7]) (by kernel_rfl) (by simp) ?_
            refine AllReadyH.cons rfl (fun K hK => ?_) ?_
            · go_simp
              refine hK.out _ _ ?_ (fun hHeld => ?_)
              · try dsimp only
                exact (N3.out.setO (p := ⟨w6.heap.size, k * 2 + 1, none⟩) (by show w6.heap.size ≠ _; omega) _).two.1
              clear hK K
              refine wpAnyH_done (by kernel_rfl) ?_ _
              clear hHeld
              have I5 : Hid (Row (w3.setCell ⟨w6.heap.size, k * 2 + 1, none⟩ (.int .u64 ((Lf.valR b k).toNat : Int))) w6.heap.size 27 (itmCells (Lf.itemsV b (k + 1)))) := by
                have h := I3.out.set (k * 2 + 1) (.int .u64 ((Lf.valR b k).toNat : Int))
                rw [itmCells_set2 _ _ (by rw [Lf.itemsV_len]; exact HKl.out), Lf.itemsV_next HKl.out] at h
                exact h
              have N5 : Hid (Row (w3.setCell ⟨w6.heap.size, k * 2 + 1, none⟩ (.int .u64 ((Lf.valR b k).toNat : Int))) (w6.heap.size + 1) 78 [.slice (some ⟨w6.heap.size, 0, none⟩) m m, .slice none 0 0]) := N3.out.setO (p := ⟨w6.heap.size, k * 2 + 1, none⟩) (by show w6.heap.size ≠ _; omega) _
              have R5 : Hid (Row (w3.setCell ⟨w6.heap.size, k * 2 + 1, none⟩ (.int .u64 ((Lf.valR b k).toNat : Int))) (w.heap.size + 1) 78 [.slice none 0 0, .slice none 0 0]) := R3.out.setO (p := ⟨w6.heap.size, k * 2 + 1, none⟩) (by show w6.heap.size ≠ _; omega) _
              have RD5 : Hid (Reads (w.heap.size + 1 + 1) w.heap.size xb xo cap b (w3.setCell ⟨w6.heap.size, k * 2 + 1, none⟩ (.int .u64 ((Lf.valR b k).toNat : Int))) (4 + 8 * m + 8 * (k + 1))) := RD3.out.keep (fun x hx => Below.heap_setCell _ _ _ _ (by show x ≠ w6.heap.size; omega))
              have B5 : Hid (Below w.heap.size w (w3.setCell ⟨w6.heap.size, k * 2 + 1, none⟩ (.int .u64 ((Lf.valR b k).toNat : Int)))) := B3.out.setCell (p := ⟨w6.heap.size, k * 2 + 1, none⟩) (by show w.heap.size ≤ w6.heap.size; omega) _
              go_wp2
              go_roundw
              case rel => exact ⟨k + 1, by omega, by go_num, RD5, I5, N5, R5, B5.out⟩
              case measure => simp [intOf]; omega
            exact AllReadyH.nil
          exact AllReadyH.nil
        · obtain rfl : m = k := by omega
          have HIf : Hid (Row wr w6.heap.size 27 (itmCells (Lf.readI b))) := by have h := HI.out; rw [← HM.out, Lf.itemsV_all HKd.out] at h; exact h
          obtain ⟨t0, t1⟩ := HN.out.two
          obtain ⟨s0, s1⟩ := HR.out.two
          have g0 := HR.out.frozen 0
          have g1 := HR.out.frozen 1
          go_wp2
          refine st_retv HR.out bel (by omega) _ _ _ rfl rfl rfl Tryz.underlying78 rfl (by kernel_rfl) ?_
          intro w' K' B'
          exact ⟨_, _, rfl, OwnI.ofRow (HIf.out.keep (K'.block _ (by omega))) (by show (Lf.readI b).length = m; rw [Lf.readI_len, HM.out]) (by omega) (by omega), (by show OwnK _ _ _ _ (Lf.readK b); rw [Lf.readK_leaf HKd.out]; exact OwnK.nil _ _ _), B'⟩
set_option maxRecDepth 20000 in
set_option maxHeartbeats 8000000 in
theorem read_kids (w : World) (xb xo cap : Nat) (b : List UInt8) (hB : IsB w (some ⟨xb, xo, none⟩) 60 b) (hk : b.getD 0 0 = 2) :
    Calls Tryz.prog 122 #[.slice (some ⟨xb, xo, none⟩) 60 cap] w fun e w' => ∃ v v', e = .returned (.tuple #[.agg #[v, v'], .bool true]) ∧ OwnI 27 w' w.heap.size v (Lf.readN b).1 ∧ OwnK 3 w' w.heap.size v' (Lf.readN b).2 ∧ Below w.heap.size w w' := by
  have HKd : Hid (b.getD 0 0 = 2) := hk
  clear hk
  have HL : Hid (b.length = 60) := hB.1
  have hxb : xb < w.heap.size := hB.lt
  obtain ⟨w0, hw0, V0, b0, z0⟩ := boxedRow w 94 [.slice (some ⟨xb, xo, none⟩) 60 cap]
  obtain ⟨w1, hw1, V1, b1, z1⟩ := boxedRow w0 78 [.slice none 0 0, .slice none 0 0]
  rw [z0] at V1 z1
  obtain ⟨w2, hw2, V2, b2, z2⟩ := boxedRow w1 3 [.int .i64 0]
  rw [z1] at V2 z2
  have f2 := V2.frozen 0
  have c2 := V2.cell (j := 0) rfl
  obtain ⟨w3, hw3⟩ : ∃ w3, w2.setCell ⟨w.heap.size + 1 + 1, 0, none⟩ (.int .i64 0) = w3 := ⟨_, rfl⟩
  have HRd : Hid (Reads (w.heap.size + 1 + 1) w.heap.size xb xo cap b w3 (0)) := by
    rw [← hw3]
    exact ⟨V2.set 0 (.int .i64 0), ((V0.below b1).below b2).setO (p := ⟨w.heap.size + 1 + 1, 0, none⟩) (by show w.heap.size + 1 + 1 ≠ _; omega) _, (((hB.below b0).below b1).below b2).keepB (Below.heap_setCell _ _ _ _ (by show xb ≠ w.heap.size + 1 + 1; omega))⟩
  have HRes : Hid (Row w3 (w.heap.size + 1) 78 [.slice none 0 0, .slice none 0 0]) := by
    rw [← hw3]
    exact (V1.below b2).setO (p := ⟨w.heap.size + 1 + 1, 0, none⟩) (by show w.heap.size + 1 + 1 ≠ _; omega) _
  have B3 : Hid (Below w.heap.size w w3) := by
    rw [← hw3]
    exact (on (on b0 b1) b2).setCell (p := ⟨w.heap.size + 1 + 1, 0, none⟩) (by show w.heap.size ≤ w.heap.size + 1 + 1; omega) _
  clear V0 V1 V2 b0 b1 b2 z2 hB
  go_enter Tryz.func122, Tryz.ntmps122
  go_wp2_with fail
  refine (next_c _ _ xb xo cap b _ 0 (by omega) (by omega) HRd.out 1 _ rfl (by decide) (by decide)).mono ?_
  rintro e w4 ⟨rfl, rd4, k4⟩
  rw [Lf.getN_one (p := 0) (by rw [HL.out]; decide)]
  have RD4 : Hid (Reads (w.heap.size + 1 + 1) w.heap.size xb xo cap b w4 (1)) := rd4
  have R4 : Hid (Row w4 (w.heap.size + 1) 78 [.slice none 0 0, .slice none 0 0]) := HRes.out.kept1 k4 (by omega)
  have B4 : Hid (Below w.heap.size w w4) := kept_below1 B3.out k4 B3.out.size (by omega)
  clear rd4 k4 f2 c2 hw0 hw1 hw2 hw3 z0 z1 HRd HRes B3
  rw [show ((b.getD 0 0).toNat : Int) = 2 by rw [HKd.out]; rfl]
  go_wp2_with fail
  refine (next_c _ _ xb xo cap b _ 1 (by omega) (by omega) RD4.out 1 _ rfl (by decide) (by decide)).mono ?_
  rintro e w5 ⟨rfl, rd5, k5⟩
  rw [Lf.getN_one (p := 1) (by rw [HL.out]; decide)]
  obtain ⟨m, hm⟩ : ∃ m, m = Lf.cnt b := ⟨_, rfl⟩
  rw [show (b.getD 1 0).toNat = m from hm.symm]
  have HM : Hid (Lf.cnt b = m) := hm.symm
  have hm1 : m ≤ 255 := by have := Lf.cnt_lt b; omega
  have RD5 : Hid (Reads (w.heap.size + 1 + 1) w.heap.size xb xo cap b w5 (2)) := rd5
  have R5 : Hid (Row w5 (w.heap.size + 1) 78 [.slice none 0 0, .slice none 0 0]) := R4.out.kept1 k5 (by omega)
  have B5 : Hid (Below w.heap.size w w5) := kept_below1 B4.out k5 B4.out.size (by omega)
  clear rd5 k5 hm RD4 R4 B4
  go_wp2_with fail
  refine (next_c _ _ xb xo cap b _ 2 (by omega) (by omega) RD5.out 2 _ rfl (by decide) (by decide)).mono ?_
  rintro e w6 ⟨rfl, rd6, k6⟩
  have RD6 : Hid (Reads (w.heap.size + 1 + 1) w.heap.size xb xo cap b w6 (4)) := rd6
  have R6 : Hid (Row w6 (w.heap.size + 1) 78 [.slice none 0 0, .slice none 0 0]) := R5.out.kept1 k6 (by omega)
  have B6 : Hid (Below w.heap.size w w6) := kept_below1 B5.out k6 B5.out.size (by omega)
  have hg6 : w.heap.size + 1 + 1 < w6.heap.size := RD6.out.spot.lt
  clear rd6 k6 RD5 R5 B5
  obtain ⟨GN2, hGN2⟩ : ∃ GN2, GN2 = Lf.getN b 2 2 := ⟨_, rfl⟩
  rw [← hGN2]
  clear hGN2
  go_wp2_with (at_make; refine make_itms _ rfl _ _ rfl m _ rfl rfl rfl (by omega) ?_
               intro w7 HI7 b7 z7
               obtain ⟨w8, hw8, V8, b8, z8⟩ := boxedRow w7 78 [.slice (some ⟨w6.heap.size, 0, none⟩) m m, .slice none 0 0]
               rw [z7] at V8 z8
               have f8 := V8.frozen 1
               have c8 := V8.cell (j := 1) rfl
               obtain ⟨w9, hw9⟩ : ∃ w9, w8.setCell ⟨w6.heap.size + 1, 1, none⟩ (.slice none 0 0) = w9 := ⟨_, rfl⟩
               have N9 : Hid (Row w9 (w6.heap.size + 1) 78 [.slice (some ⟨w6.heap.size, 0, none⟩) m m, .slice none 0 0]) := (by rw [← hw9]; exact V8.set 1 (.slice none 0 0))
               have I9 : Hid (Row w9 w6.heap.size 27 (itmCells (Lf.itemsK b 0))) := (by rw [← hw9, Lf.itemsK_zero, HM.out]; exact (HI7.out.below b8).setO (p := ⟨w6.heap.size + 1, 1, none⟩) (by show w6.heap.size + 1 ≠ _; omega) _)
               have R9 : Hid (Row w9 (w.heap.size + 1) 78 [.slice none 0 0, .slice none 0 0]) := (by rw [← hw9]; exact ((R6.out.below b7).below b8).setO (p := ⟨w6.heap.size + 1, 1, none⟩) (by show w6.heap.size + 1 ≠ _; omega) _)
               have RD9 : Hid (Reads (w.heap.size + 1 + 1) w.heap.size xb xo cap b w9 (4 + 8 * 0)) := (by rw [← hw9]; exact ((RD6.out.below b7).below b8).keep (fun x hx => Below.heap_setCell _ _ _ _ (by show x ≠ w6.heap.size + 1; omega)))
               have B9 : Hid (Below w.heap.size w w9) := (by rw [← hw9]; exact (on (on B6.out b7) b8).setCell (p := ⟨w6.heap.size + 1, 1, none⟩) (by show w.heap.size ≤ w6.heap.size + 1; omega) _)
               obtain ⟨t0, t1⟩ := N9.out.two
               clear HI7 b7 V8 b8 z8)
  clear t0 t1 f8 c8 hw8 hw9 z7
  go_loopw [32] (fun i wr => ∃ k : Nat, k ≤ m ∧ i = .int .i64 k ∧ Hid (Reads (w.heap.size + 1 + 1) w.heap.size xb xo cap b wr (4 + 8 * k)) ∧ Hid (Row wr w6.heap.size 27 (itmCells (Lf.itemsK b k))) ∧ Hid (Row wr (w6.heap.size + 1) 78 [.slice (some ⟨w6.heap.size, 0, none⟩) m m, .slice none 0 0]) ∧ Hid (Row wr (w.heap.size + 1) 78 [.slice none 0 0, .slice none 0 0]) ∧ Below w.heap.size w wr) (fun i _ => m - (intOf i).toNat)
  case atStart => exact ⟨0, Nat.zero_le _, rfl, RD9, I9, N9, R9, B9.out⟩
  case round =>
    obtain ⟨k, hk, rfl, HRd, HI, HN, HR, bel⟩ := hrel
    by_cases hlt : k < m
    · have HKl : Hid (k < Lf.cnt b) := by unfold Hid; rw [HM.out]; exact hlt
      have hkz : (k : Int) < (m : Int) := by omega
      have BR : Hid (Below w.heap.size w wr) := bel
      clear bel
      go_wp2_with fail
      refine wp_region_held_drew (S := (fun w' : World => w'.cell? ⟨w6.heap.size + 1, 0, none⟩ = some (.slice (some ⟨w6.heap.size, 0, none⟩) m m))) (by kernel_rfl) ((HN.out.keep rfl : Row wr.drew _ _ _).two.1) (fun hHeld => ?_)
      refine wpAnyH_takeL (i := 0) (v := ?_) rfl rfl (by kernel_rfl) (by kernel_rfl) (by kernel_rfl) (fun _ _ _ h => h) (Or.inl ⟨by rfl, ?_⟩) (by assumption) ?_
      rotate_left
      · intro w hSw
        try dsimp only at hSw
        go_simp
        all_goals with_reducible rfl
      simp only [List.set_cons_zero, List.set_cons_succ]
      refine wpAnyH_takeL (i := 1) (v := ?_) rfl rfl (by kernel_rfl) (by kernel_rfl) (by kernel_rfl) (fun _ _ _ h => h) (Or.inl ⟨by rfl, ?_⟩) (by assumption) ?_
      rotate_left
      · intro w hSw
        try dsimp only at hSw
        go_simp
        all_goals with_reducible rfl
      simp only [List.set_cons_zero, List.set_cons_succ]
      refine wpAnyH_takeL (i := 2) (v := ?_) rfl rfl (by kernel_rfl) (by kernel_rfl) (by kernel_rfl) (fun _ _ _ h => h) (Or.inl ⟨by rfl, ?_⟩) (by assumption) ?_
      rotate_left
      · intro w hSw
        try dsimp only at hSw
        go_simp
        all_goals with_reducible rfl
      simp only [List.set_cons_zero, List.set_cons_succ]
      refine wpAnyH_takeL (i := 3) (v := ?_) rfl rfl (by kernel_rfl) (by kernel_rfl) (by kernel_rfl) (fun _ _ _ h => h) (Or.inl ⟨by rfl, ?_⟩) (by assumption) ?_
      rotate_left
      · intro w hSw
        try dsimp only at hSw
        go_simp
        all_goals with_reducible rfl
      simp only [List.set_cons_zero, List.set_cons_succ]
      refine wpAnyH_ready (rs := [4]) (by kernel_rfl) (by simp) ?_
      refine AllReadyH.cons rfl (fun K hK => ?_) ?_
      · go_simp
        go_at_call 134
        refine Calls.mono (next_c _ _ xb xo cap b wr.drew (4 + 8 * k) (by omega) (by omega) (HRd.out.keep (fun _ _ => rfl)) 8 _ rfl (by decide) (by omega)) ?_
        rintro e w3 ⟨rfl, rd3, k3⟩
        rw [Lf.keyR_nat]
        have RD3 : Hid (Reads (w.heap.size + 1 + 1) w.heap.size xb xo cap b w3 (4 + 8 * (k + 1))) := by
          rw [show 4 + 8 * (k + 1) = 4 + 8 * k + 8 by omega]
          exact rd3
        have N3 : Hid (Row w3 (w6.heap.size + 1) 78 [.slice (some ⟨w6.heap.size, 0, none⟩) m m, .slice none 0 0]) := (HN.out.keep rfl : Row wr.drew _ _ _).kept1 k3 (by omega)
        have I3 : Hid (Row w3 w6.heap.size 27 (itmCells (Lf.itemsK b k))) := (HI.out.keep rfl : Row wr.drew _ _ _).kept1 k3 (by omega)
        have R3 : Hid (Row w3 (w.heap.size + 1) 78 [.slice none 0 0, .slice none 0 0]) := (HR.out.keep rfl : Row wr.drew _ _ _).kept1 k3 (by omega)
        have B3 : Hid (Below w.heap.size w w3) := kept_below1 (w := wr.drew) (BR.out.drew) k3 BR.out.size (by omega)
        have i0 := I3.out.cell (j := k * 2) (itmCells_get (by rw [Lf.itemsK_len]; exact HKl.out)).1
        have i1 := I3.out.frozen (k * 2)
        clear rd3 k3
        go_simp
        refine hK.out _ _ ?_ (fun hHeld => ?_)
        · try dsimp only
          exact N3.out.two.1
        clear hK K
        refine wpAnyH_takeL (i := 5) (v := ?_) rfl rfl (by kernel_rfl) (by kernel_rfl) (by kernel_rfl) (fun _ _ _ h => h) (Or.inl ⟨by rfl, ?_⟩) (by assumption) ?_
        rotate_left
        · intro w hSw
          try dsimp only at hSw
          go_simp
          all_goals with_reducible rfl
        simp only [List.set_cons_zero, List.set_cons_succ]
        refine wpAnyH_takeL (i := 6) (v := ?_) rfl rfl (by kernel_rfl) (by kernel_rfl) (by kernel_rfl) (fun _ _ _ h => h) (Or.inl ⟨by rfl, ?_⟩) (by assumption) ?_
        rotate_left
        · intro w hSw
          try dsimp only at hSw
          go_simp
          all_goals with_reducible rfl
        simp only [List.set_cons_zero, List.set_cons_succ]
        refine wpAnyH_ready (rs := [7]) (by kernel_rfl) (by simp) ?_
        refine AllReadyH.cons rfl (fun K hK => ?_) ?_
        · go_simp
          refine hK.out _ _ ?_ (fun hHeld => ?_)
          · try dsimp only
            exact (N3.out.setO (p := ⟨w6.heap.size, k * 2, none⟩) (by show w6.heap.size ≠ _; omega) _).two.1
          clear hK K
          refine wpAnyH_done (by kernel_rfl) ?_ _
          clear hHeld
          have I5 : Hid (Row (w3.setCell ⟨w6.heap.size, k * 2, none⟩ (.int .u64 ((Lf.keyR b k).toNat : Int))) w6.heap.size 27 (itmCells (Lf.itemsK b (k + 1)))) := by
            have h := I3.out.set (k * 2) (.int .u64 ((Lf.keyR b k).toNat : Int))
            rw [itmCells_set1 _ _ (by rw [Lf.itemsK_len]; exact HKl.out), Lf.itemsK_next HKl.out] at h
            exact h
          have N5 : Hid (Row (w3.setCell ⟨w6.heap.size, k * 2, none⟩ (.int .u64 ((Lf.keyR b k).toNat : Int))) (w6.heap.size + 1) 78 [.slice (some ⟨w6.heap.size, 0, none⟩) m m, .slice none 0 0]) := N3.out.setO (p := ⟨w6.heap.size, k * 2, none⟩) (by show w6.heap.size ≠ _; omega) _
          have R5 : Hid (Row (w3.setCell ⟨w6.heap.size, k * 2, none⟩ (.int .u64 ((Lf.keyR b k).toNat : Int))) (w.heap.size + 1) 78 [.slice none 0 0, .slice none 0 0]) := R3.out.setO (p := ⟨w6.heap.size, k * 2, none⟩) (by show w6.heap.size ≠ _; omega) _
          have RD5 : Hid (Reads (w.heap.size + 1 + 1) w.heap.size xb xo cap b (w3.setCell ⟨w6.heap.size, k * 2, none⟩ (.int .u64 ((Lf.keyR b k).toNat : Int))) (4 + 8 * (k + 1))) := RD3.out.keep (fun x hx => Below.heap_setCell _ _ _ _ (by show x ≠ w6.heap.size; omega))
          have B5 : Hid (Below w.heap.size w (w3.setCell ⟨w6.heap.size, k * 2, none⟩ (.int .u64 ((Lf.keyR b k).toNat : Int)))) := B3.out.setCell (p := ⟨w6.heap.size, k * 2, none⟩) (by show w.heap.size ≤ w6.heap.size; omega) _
          go_wp2
          go_roundw
          case rel => exact ⟨k + 1, by omega, by go_num, RD5, I5, N5, R5, B5.out⟩
          case measure => simp [intOf]; omega
        exact AllReadyH.nil
      exact AllReadyH.nil
    · obtain rfl : m = k := by omega
      have HIf : Hid (Row wr w6.heap.size 27 (itmCells (Lf.readI b))) := by have h := HI.out; rw [← HM.out, Lf.itemsK_all HKd.out] at h; exact h
      obtain ⟨t0, t1⟩ := HN.out.two
      go_wp2
      clear t0 t1
      go_loopw [62] (fun i wr => ∃ (k : Nat) (ua : Option Addr) (un uc : Nat), k ≤ m + 1 ∧ i = .int .i64 k ∧ Hid (Reads (w.heap.size + 1 + 1) w.heap.size xb xo cap b wr (4 + 8 * m + 4 * k)) ∧ Hid (Row wr w6.heap.size 27 (itmCells (Lf.readI b))) ∧ Hid (Row wr (w6.heap.size + 1) 78 [.slice (some ⟨w6.heap.size, 0, none⟩) m m, .slice ua un uc]) ∧ Hid (Row wr (w.heap.size + 1) 78 [.slice none 0 0, .slice none 0 0]) ∧ Hid (OwnK 3 wr (w6.heap.size + 2) (.slice ua un uc) (Lf.kidsR b k)) ∧ Hid (w6.heap.size + 2 ≤ wr.heap.size) ∧ Below w.heap.size w wr) (fun i _ => m + 1 - (intOf i).toNat)
      case atStart => exact ⟨0, none, 0, 0, Nat.zero_le _, rfl, HRd, HIf, HN, HR, OwnK.nil _ _ _, HN.out.lt, bel⟩
      case round =>
        clear HRd HI HIf HN HR bel
        obtain ⟨k, ua, un, uc, hk, rfl, HRd, HI, HN, HR, HO, HZ, bel⟩ := hrel
        by_cases hlt : k < m + 1
        · have BR : Hid (Below w.heap.size w wr) := bel
          have HNx : Hid _ := Lf.kidsR_next b k
          obtain ⟨q, hq⟩ : ∃ q, q = Lf.getN b (4 + 8 * m + 4 * k) 4 := ⟨_, rfl⟩
          have hq1 : q < 4294967296 := by rw [hq]; exact Lf.getN_lt b _ 4 (by decide) (by decide)
          have HQ : Hid (Lf.getN b (4 + 8 * m + 4 * k) 4 = q) := hq.symm
          rw [show Lf.kidR b k = (q : Int) by unfold Lf.kidR; rw [HM.out, hq]] at HNx
          clear bel hq
          have q1 := HN.out.cell (j := 1) rfl
          have hkz : (k : Int) < (m : Int) + 1 := by omega
          have hwr : IntKind.i64.wrap (q : Int) = (q : Int) := by rw [IntKind.wrap_i64]; omega
          go_wp2_with fail
          refine wp_region_held_drew (S := (fun _ : World => True)) (by kernel_rfl) (trivial) (fun hHeld => ?_)
          refine wpAnyH_takeL (i := 0) (v := ?_) rfl rfl (by kernel_rfl) (by kernel_rfl) (by kernel_rfl) (fun _ _ _ h => h) (Or.inl ⟨by rfl, ?_⟩) (by assumption) ?_
          rotate_left
          · intro w hSw
            try dsimp only at hSw
            go_simp
            all_goals with_reducible rfl
          simp only [List.set_cons_zero, List.set_cons_succ]
          refine wpAnyH_takeL (i := 2) (v := ?_) rfl rfl (by kernel_rfl) (by kernel_rfl) (by kernel_rfl) (fun _ _ _ h => h) (Or.inl ⟨by rfl, ?_⟩) (by assumption) ?_
          rotate_left
          · intro w hSw
            try dsimp only at hSw
            go_simp
            all_goals with_reducible rfl
          simp only [List.set_cons_zero, List.set_cons_succ]
          refine wpAnyH_ready (rs := [1, 3]) (by kernel_rfl) (by simp) ?_
          refine AllReadyH.cons rfl (fun K hK => ?_) ?_
          · go_simp
            refine hK.out _ _ ?_ (fun hHeld => ?_)
            · try dsimp only
              all_goals trivial
            clear hK K
            refine wpAnyH_ready (rs := [3]) (by kernel_rfl) (by simp) ?_
            refine AllReadyH.cons rfl (fun K hK => ?_) ?_
            · go_simp
              go_at_call 134
              refine Calls.mono (next_c _ _ xb xo cap b wr.drew (4 + 8 * m + 4 * k) (by omega) (by omega) (HRd.out.keep (fun _ _ => rfl)) 4 _ rfl (by decide) (by omega)) ?_
              rintro e w3 ⟨rfl, rd3, k3⟩
              rw [HQ.out]
              have RD3 : Hid (Reads (w.heap.size + 1 + 1) w.heap.size xb xo cap b w3 (4 + 8 * m + 4 * (k + 1))) := (by rw [show 4 + 8 * m + 4 * (k + 1) = 4 + 8 * m + 4 * k + 4 by omega]; exact rd3)
              have N3 : Hid (Row w3 (w6.heap.size + 1) 78 [.slice (some ⟨w6.heap.size, 0, none⟩) m m, .slice ua un uc]) := (HN.out.keep rfl : Row wr.drew _ _ _).kept1 k3 (by omega)
              have I3 : Hid (Row w3 w6.heap.size 27 (itmCells (Lf.readI b))) := (HI.out.keep rfl : Row wr.drew _ _ _).kept1 k3 (by omega)
              have R3 : Hid (Row w3 (w.heap.size + 1) 78 [.slice none 0 0, .slice none 0 0]) := (HR.out.keep rfl : Row wr.drew _ _ _).kept1 k3 (by omega)
              have B3 : Hid (Below w.heap.size w w3) := kept_below1 (w := wr.drew) (BR.out.drew) k3 BR.out.size (by omega)
              have O3 : Hid (OwnK 3 w3 (w6.heap.size + 2) (.slice ua un uc) (Lf.kidsR b k)) := HO.out.keep1 (fun x ex => k3.block x ⟨(HO.out.row.lt x ex).2, by have := (HO.out.row.lt x ex).1; omega⟩)
              have Z3 : Hid (w6.heap.size + 2 ≤ w3.heap.size) := Nat.le_trans HZ.out k3.size
              obtain ⟨v', w4, hr4, ho4, gr4⟩ := run_append_kid O3.out (q : Int) (by omega) (by simp [Lf.kidsR]; omega) Z3.out 49
              obtain ⟨a4, n4, c4, rfl⟩ : ∃ a n c, v' = .slice a n c := (by obtain ⟨a, c, e, -⟩ := ho4.slice; exact ⟨a, _, c, e⟩)
              have hne : ∀ x, x < w6.heap.size + 2 → (Value.slice ua un uc).ownBlock ≠ some x := fun x hx e => (by have := (O3.out.row.lt _ e).1; omega)
              have AL : Below w3.heap.size w3 (w3.alloc (.cells #[.int .i64 (q : Int)] 3)) := (Below.refl _ _).alloc (Nat.le_refl _) _
              have N4 : Hid (Row w4 (w6.heap.size + 1) 78 [.slice (some ⟨w6.heap.size, 0, none⟩) m m, .slice ua un uc]) := (N3.out.below AL).grew gr4 (hne _ (by omega))
              have I4 : Hid (Row w4 w6.heap.size 27 (itmCells (Lf.readI b))) := (I3.out.below AL).grew gr4 (hne _ (by omega))
              have R4 : Hid (Row w4 (w.heap.size + 1) 78 [.slice none 0 0, .slice none 0 0]) := (R3.out.below AL).grew gr4 (hne _ (by omega))
              have RD4 : Hid (Reads (w.heap.size + 1 + 1) w.heap.size xb xo cap b w4 (4 + 8 * m + 4 * (k + 1))) := ⟨(RD3.out.spot.below AL).grew gr4 (hne _ (by omega)), (RD3.out.box.below AL).grew gr4 (hne _ (by omega)), (RD3.out.oct.below AL).keepB (gr4.grown.block xb (RD3.out.oct.below AL).lt (fun e => hne xb (by omega) e.symm))⟩
              have B4 : Hid (Below w.heap.size w w4) := (below_alloc0 B3.out _).grown gr4.grown (below_alloc0 B3.out _).size (fun kk hkk => (by have := (O3.out.row.lt kk hkk).1; omega))
              have Z4 : Hid (w6.heap.size + 2 ≤ w4.heap.size) := Nat.le_trans Z3.out (Nat.le_trans AL.size gr4.grown.size)
              have O4 : Hid (OwnK 3 w4 (w6.heap.size + 2) (.slice a4 n4 c4) (Lf.kidsR b (k + 1))) := (by unfold Hid; rw [HNx.out]; exact ho4)
              have q3 := N3.out.cell (j := 1) rfl
              have q4 := (N3.out.below AL).cell (j := 1) rfl
              have q5 := N4.out.cell (j := 1) rfl
              have q6 := N4.out.frozen 1
              have HR4 : Hid _ := hr4
              clear rd3 k3 ho4 gr4 AL hne hr4
              go_simp
              refine hK.out _ _ ?_ (fun hHeld => ?_)
              · try dsimp only
                all_goals trivial
              clear hK K
              refine wpAnyH_takeL (i := 4) (v := ?_) rfl rfl (by kernel_rfl) (by kernel_rfl) (by kernel_rfl) (fun _ _ _ h => h) (Or.inl ⟨by rfl, ?_⟩) (by assumption) ?_
              rotate_left
              · intro w hSw
                try dsimp only at hSw
                go_simp
                all_goals with_reducible rfl
              simp only [List.set_cons_zero, List.set_cons_succ]
              refine wpAnyH_ready (rs := [5]) (by kernel_rfl) (by simp) ?_
              refine AllReadyH.cons rfl (fun K hK => ?_) ?_
              · go_simp
                refine hK.out _ _ ?_ (fun hHeld => ?_)
                · try dsimp only
                  all_goals trivial
                clear hK K
                refine wpAnyH_ready (rs := [6]) (by kernel_rfl) (by simp) ?_
                refine AllReadyH.cons rfl (fun K hK => ?_) ?_
                · refine held_append rfl (by rfl) _ _ _ rfl _ _ _ rfl rfl HR4.out ?_
                  simp only [List.set_cons_zero, List.set_cons_succ]
                  refine hK.out _ _ ?_ (fun hHeld => ?_)
                  · try dsimp only
                    all_goals trivial
                  clear hK K
                  refine wpAnyH_takeL (i := 7) (v := ?_) rfl rfl (by kernel_rfl) (by kernel_rfl) (by kernel_rfl) (fun _ _ _ h => h) (Or.inl ⟨by rfl, ?_⟩) (by assumption) ?_
                  rotate_left
                  · intro w hSw
                    try dsimp only at hSw
                    go_simp
                    all_goals with_reducible rfl
                  simp only [List.set_cons_zero, List.set_cons_succ]
                  refine wpAnyH_ready (rs := [8]) (by kernel_rfl) (by simp) ?_
                  refine AllReadyH.cons rfl (fun K hK => ?_) ?_
                  · go_simp
                    refine hK.out _ _ ?_ (fun hHeld => ?_)
                    · try dsimp only
                      all_goals trivial
                    clear hK K
                    refine wpAnyH_done (by kernel_rfl) ?_ _
                    clear hHeld
                    have N5 : Hid (Row (w4.setCell ⟨w6.heap.size + 1, 1, none⟩ (.slice a4 n4 c4)) (w6.heap.size + 1) 78 [.slice (some ⟨w6.heap.size, 0, none⟩) m m, .slice a4 n4 c4]) := N4.out.set 1 _
                    have I5 : Hid (Row (w4.setCell ⟨w6.heap.size + 1, 1, none⟩ (.slice a4 n4 c4)) w6.heap.size 27 (itmCells (Lf.readI b))) := I4.out.setO (p := ⟨w6.heap.size + 1, 1, none⟩) (by show w6.heap.size + 1 ≠ _; omega) _
                    have R5 : Hid (Row (w4.setCell ⟨w6.heap.size + 1, 1, none⟩ (.slice a4 n4 c4)) (w.heap.size + 1) 78 [.slice none 0 0, .slice none 0 0]) := R4.out.setO (p := ⟨w6.heap.size + 1, 1, none⟩) (by show w6.heap.size + 1 ≠ _; omega) _
                    have RD5 : Hid (Reads (w.heap.size + 1 + 1) w.heap.size xb xo cap b (w4.setCell ⟨w6.heap.size + 1, 1, none⟩ (.slice a4 n4 c4)) (4 + 8 * m + 4 * (k + 1))) := RD4.out.keep (fun x hx => Below.heap_setCell _ _ _ _ (by show x ≠ w6.heap.size + 1; omega))
                    have O5 : Hid (OwnK 3 (w4.setCell ⟨w6.heap.size + 1, 1, none⟩ (.slice a4 n4 c4)) (w6.heap.size + 2) (.slice a4 n4 c4) (Lf.kidsR b (k + 1))) := O4.out.setB (p := ⟨w6.heap.size + 1, 1, none⟩) (by show w6.heap.size + 1 < _; omega) _
                    have B5 : Hid (Below w.heap.size w (w4.setCell ⟨w6.heap.size + 1, 1, none⟩ (.slice a4 n4 c4))) := B4.out.setCell (p := ⟨w6.heap.size + 1, 1, none⟩) (by show w.heap.size ≤ w6.heap.size + 1; omega) _
                    have Z5 : Hid (w6.heap.size + 2 ≤ (w4.setCell ⟨w6.heap.size + 1, 1, none⟩ (.slice a4 n4 c4)).heap.size) := by have := Z4.out; unfold Hid; simpa [World.setCell] using this
                    go_wp2
                    go_roundw
                    case rel => exact ⟨k + 1, a4, n4, c4, by omega, by go_num, RD5, I5, N5, R5, O5, Z5, B5.out⟩
                    case measure => simp [intOf]; omega
                  exact AllReadyH.nil
                exact AllReadyH.nil
              exact AllReadyH.nil
            exact AllReadyH.nil
          refine AllReadyH.cons rfl (fun K hK => ?_) ?_
          · go_simp
            go_at_call 134
            refine Calls.mono (next_c _ _ xb xo cap b wr.drew (4 + 8 * m + 4 * k) (by omega) (by omega) (HRd.out.keep (fun _ _ => rfl)) 4 _ rfl (by decide) (by omega)) ?_
            rintro e w3 ⟨rfl, rd3, k3⟩
            rw [HQ.out]
            have RD3 : Hid (Reads (w.heap.size + 1 + 1) w.heap.size xb xo cap b w3 (4 + 8 * m + 4 * (k + 1))) := (by rw [show 4 + 8 * m + 4 * (k + 1) = 4 + 8 * m + 4 * k + 4 by omega]; exact rd3)
            have N3 : Hid (Row w3 (w6.heap.size + 1) 78 [.slice (some ⟨w6.heap.size, 0, none⟩) m m, .slice ua un uc]) := (HN.out.keep rfl : Row wr.drew _ _ _).kept1 k3 (by omega)
            have I3 : Hid (Row w3 w6.heap.size 27 (itmCells (Lf.readI b))) := (HI.out.keep rfl : Row wr.drew _ _ _).kept1 k3 (by omega)
            have R3 : Hid (Row w3 (w.heap.size + 1) 78 [.slice none 0 0, .slice none 0 0]) := (HR.out.keep rfl : Row wr.drew _ _ _).kept1 k3 (by omega)
            have B3 : Hid (Below w.heap.size w w3) := kept_below1 (w := wr.drew) (BR.out.drew) k3 BR.out.size (by omega)
            have O3 : Hid (OwnK 3 w3 (w6.heap.size + 2) (.slice ua un uc) (Lf.kidsR b k)) := HO.out.keep1 (fun x ex => k3.block x ⟨(HO.out.row.lt x ex).2, by have := (HO.out.row.lt x ex).1; omega⟩)
            have Z3 : Hid (w6.heap.size + 2 ≤ w3.heap.size) := Nat.le_trans HZ.out k3.size
            obtain ⟨v', w4, hr4, ho4, gr4⟩ := run_append_kid O3.out (q : Int) (by omega) (by simp [Lf.kidsR]; omega) Z3.out 49
            obtain ⟨a4, n4, c4, rfl⟩ : ∃ a n c, v' = .slice a n c := (by obtain ⟨a, c, e, -⟩ := ho4.slice; exact ⟨a, _, c, e⟩)
            have hne : ∀ x, x < w6.heap.size + 2 → (Value.slice ua un uc).ownBlock ≠ some x := fun x hx e => (by have := (O3.out.row.lt _ e).1; omega)
            have AL : Below w3.heap.size w3 (w3.alloc (.cells #[.int .i64 (q : Int)] 3)) := (Below.refl _ _).alloc (Nat.le_refl _) _
            have N4 : Hid (Row w4 (w6.heap.size + 1) 78 [.slice (some ⟨w6.heap.size, 0, none⟩) m m, .slice ua un uc]) := (N3.out.below AL).grew gr4 (hne _ (by omega))
            have I4 : Hid (Row w4 w6.heap.size 27 (itmCells (Lf.readI b))) := (I3.out.below AL).grew gr4 (hne _ (by omega))
            have R4 : Hid (Row w4 (w.heap.size + 1) 78 [.slice none 0 0, .slice none 0 0]) := (R3.out.below AL).grew gr4 (hne _ (by omega))
            have RD4 : Hid (Reads (w.heap.size + 1 + 1) w.heap.size xb xo cap b w4 (4 + 8 * m + 4 * (k + 1))) := ⟨(RD3.out.spot.below AL).grew gr4 (hne _ (by omega)), (RD3.out.box.below AL).grew gr4 (hne _ (by omega)), (RD3.out.oct.below AL).keepB (gr4.grown.block xb (RD3.out.oct.below AL).lt (fun e => hne xb (by omega) e.symm))⟩
            have B4 : Hid (Below w.heap.size w w4) := (below_alloc0 B3.out _).grown gr4.grown (below_alloc0 B3.out _).size (fun kk hkk => (by have := (O3.out.row.lt kk hkk).1; omega))
            have Z4 : Hid (w6.heap.size + 2 ≤ w4.heap.size) := Nat.le_trans Z3.out (Nat.le_trans AL.size gr4.grown.size)
            have O4 : Hid (OwnK 3 w4 (w6.heap.size + 2) (.slice a4 n4 c4) (Lf.kidsR b (k + 1))) := (by unfold Hid; rw [HNx.out]; exact ho4)
            have q3 := N3.out.cell (j := 1) rfl
            have q4 := (N3.out.below AL).cell (j := 1) rfl
            have q5 := N4.out.cell (j := 1) rfl
            have q6 := N4.out.frozen 1
            have HR4 : Hid _ := hr4
            clear rd3 k3 ho4 gr4 AL hne hr4
            go_simp
            refine hK.out _ _ ?_ (fun hHeld => ?_)
            · try dsimp only
              all_goals trivial
            clear hK K
            refine wpAnyH_takeL (i := 4) (v := ?_) rfl rfl (by kernel_rfl) (by kernel_rfl) (by kernel_rfl) (fun _ _ _ h => h) (Or.inl ⟨by rfl, ?_⟩) (by assumption) ?_
            rotate_left
            · intro w hSw
              try dsimp only at hSw
              go_simp
              all_goals with_reducible rfl
            simp only [List.set_cons_zero, List.set_cons_succ]
            refine wpAnyH_ready (rs := [1, 5]) (by kernel_rfl) (by simp) ?_
            refine AllReadyH.cons rfl (fun K hK => ?_) ?_
            · go_simp
              refine hK.out _ _ ?_ (fun hHeld => ?_)
              · try dsimp only
                all_goals trivial
              clear hK K
              refine wpAnyH_ready (rs := [5]) (by kernel_rfl) (by simp) ?_
              refine AllReadyH.cons rfl (fun K hK => ?_) ?_
              · go_simp
                refine hK.out _ _ ?_ (fun hHeld => ?_)
                · try dsimp only
                  all_goals trivial
                clear hK K
                refine wpAnyH_ready (rs := [6]) (by kernel_rfl) (by simp) ?_
                refine AllReadyH.cons rfl (fun K hK => ?_) ?_
                · refine held_append rfl (by rfl) _ _ _ rfl _ _ _ rfl rfl HR4.out ?_
                  simp only [List.set_cons_zero, List.set_cons_succ]
                  refine hK.out _ _ ?_ (fun hHeld => ?_)
                  · try dsimp only
                    all_goals trivial
                  clear hK K
                  refine wpAnyH_takeL (i := 7) (v := ?_) rfl rfl (by kernel_rfl) (by kernel_rfl) (by kernel_rfl) (fun _ _ _ h => h) (Or.inl ⟨by rfl, ?_⟩) (by assumption) ?_
                  rotate_left
                  · intro w hSw
                    try dsimp only at hSw
                    go_simp
                    all_goals with_reducible rfl
                  simp only [List.set_cons_zero, List.set_cons_succ]
                  refine wpAnyH_ready (rs := [8]) (by kernel_rfl) (by simp) ?_
                  refine AllReadyH.cons rfl (fun K hK => ?_) ?_
                  · go_simp
                    refine hK.out _ _ ?_ (fun hHeld => ?_)
                    · try dsimp only
                      all_goals trivial
                    clear hK K
                    refine wpAnyH_done (by kernel_rfl) ?_ _
                    clear hHeld
                    have N5 : Hid (Row (w4.setCell ⟨w6.heap.size + 1, 1, none⟩ (.slice a4 n4 c4)) (w6.heap.size + 1) 78 [.slice (some ⟨w6.heap.size, 0, none⟩) m m, .slice a4 n4 c4]) := N4.out.set 1 _
                    have I5 : Hid (Row (w4.setCell ⟨w6.heap.size + 1, 1, none⟩ (.slice a4 n4 c4)) w6.heap.size 27 (itmCells (Lf.readI b))) := I4.out.setO (p := ⟨w6.heap.size + 1, 1, none⟩) (by show w6.heap.size + 1 ≠ _; omega) _
                    have R5 : Hid (Row (w4.setCell ⟨w6.heap.size + 1, 1, none⟩ (.slice a4 n4 c4)) (w.heap.size + 1) 78 [.slice none 0 0, .slice none 0 0]) := R4.out.setO (p := ⟨w6.heap.size + 1, 1, none⟩) (by show w6.heap.size + 1 ≠ _; omega) _
                    have RD5 : Hid (Reads (w.heap.size + 1 + 1) w.heap.size xb xo cap b (w4.setCell ⟨w6.heap.size + 1, 1, none⟩ (.slice a4 n4 c4)) (4 + 8 * m + 4 * (k + 1))) := RD4.out.keep (fun x hx => Below.heap_setCell _ _ _ _ (by show x ≠ w6.heap.size + 1; omega))
                    have O5 : Hid (OwnK 3 (w4.setCell ⟨w6.heap.size + 1, 1, none⟩ (.slice a4 n4 c4)) (w6.heap.size + 2) (.slice a4 n4 c4) (Lf.kidsR b (k + 1))) := O4.out.setB (p := ⟨w6.heap.size + 1, 1, none⟩) (by show w6.heap.size + 1 < _; omega) _
                    have B5 : Hid (Below w.heap.size w (w4.setCell ⟨w6.heap.size + 1, 1, none⟩ (.slice a4 n4 c4))) := B4.out.setCell (p := ⟨w6.heap.size + 1, 1, none⟩) (by show w.heap.size ≤ w6.heap.size + 1; omega) _
                    have Z5 : Hid (w6.heap.size + 2 ≤ (w4.setCell ⟨w6.heap.size + 1, 1, none⟩ (.slice a4 n4 c4)).heap.size) := by have := Z4.out; unfold Hid; simpa [World.setCell] using this
                    go_wp2
                    go_roundw
                    case rel => exact ⟨k + 1, a4, n4, c4, by omega, by go_num, RD5, I5, N5, R5, O5, Z5, B5.out⟩
                    case measure => simp [intOf]; omega
                  exact AllReadyH.nil
                exact AllReadyH.nil
              exact AllReadyH.nil
            refine AllReadyH.cons rfl (fun K hK => ?_) ?_
            · go_simp
              refine hK.out _ _ ?_ (fun hHeld => ?_)
              · try dsimp only
                all_goals trivial
              clear hK K
              refine wpAnyH_ready (rs := [1]) (by kernel_rfl) (by simp) ?_
              refine AllReadyH.cons rfl (fun K hK => ?_) ?_
              · go_simp
                refine hK.out _ _ ?_ (fun hHeld => ?_)
                · try dsimp only
                  all_goals trivial
                clear hK K
                refine wpAnyH_ready (rs := [6]) (by kernel_rfl) (by simp) ?_
                refine AllReadyH.cons rfl (fun K hK => ?_) ?_
                · refine held_append rfl (by rfl) _ _ _ rfl _ _ _ rfl rfl HR4.out ?_
                  simp only [List.set_cons_zero, List.set_cons_succ]
                  refine hK.out _ _ ?_ (fun hHeld => ?_)
                  · try dsimp only
                    all_goals trivial
                  clear hK K
                  refine wpAnyH_takeL (i := 7) (v := ?_) rfl rfl (by kernel_rfl) (by kernel_rfl) (by kernel_rfl) (fun _ _ _ h => h) (Or.inl ⟨by rfl, ?_⟩) (by assumption) ?_
                  rotate_left
                  · intro w hSw
                    try dsimp only at hSw
                    go_simp
                    all_goals with_reducible rfl
                  simp only [List.set_cons_zero, List.set_cons_succ]
                  refine wpAnyH_ready (rs := [8]) (by kernel_rfl) (by simp) ?_
                  refine AllReadyH.cons rfl (fun K hK => ?_) ?_
                  · go_simp
                    refine hK.out _ _ ?_ (fun hHeld => ?_)
                    · try dsimp only
                      all_goals trivial
                    clear hK K
                    refine wpAnyH_done (by kernel_rfl) ?_ _
                    clear hHeld
                    have N5 : Hid (Row (w4.setCell ⟨w6.heap.size + 1, 1, none⟩ (.slice a4 n4 c4)) (w6.heap.size + 1) 78 [.slice (some ⟨w6.heap.size, 0, none⟩) m m, .slice a4 n4 c4]) := N4.out.set 1 _
                    have I5 : Hid (Row (w4.setCell ⟨w6.heap.size + 1, 1, none⟩ (.slice a4 n4 c4)) w6.heap.size 27 (itmCells (Lf.readI b))) := I4.out.setO (p := ⟨w6.heap.size + 1, 1, none⟩) (by show w6.heap.size + 1 ≠ _; omega) _
                    have R5 : Hid (Row (w4.setCell ⟨w6.heap.size + 1, 1, none⟩ (.slice a4 n4 c4)) (w.heap.size + 1) 78 [.slice none 0 0, .slice none 0 0]) := R4.out.setO (p := ⟨w6.heap.size + 1, 1, none⟩) (by show w6.heap.size + 1 ≠ _; omega) _
                    have RD5 : Hid (Reads (w.heap.size + 1 + 1) w.heap.size xb xo cap b (w4.setCell ⟨w6.heap.size + 1, 1, none⟩ (.slice a4 n4 c4)) (4 + 8 * m + 4 * (k + 1))) := RD4.out.keep (fun x hx => Below.heap_setCell _ _ _ _ (by show x ≠ w6.heap.size + 1; omega))
                    have O5 : Hid (OwnK 3 (w4.setCell ⟨w6.heap.size + 1, 1, none⟩ (.slice a4 n4 c4)) (w6.heap.size + 2) (.slice a4 n4 c4) (Lf.kidsR b (k + 1))) := O4.out.setB (p := ⟨w6.heap.size + 1, 1, none⟩) (by show w6.heap.size + 1 < _; omega) _
                    have B5 : Hid (Below w.heap.size w (w4.setCell ⟨w6.heap.size + 1, 1, none⟩ (.slice a4 n4 c4))) := B4.out.setCell (p := ⟨w6.heap.size + 1, 1, none⟩) (by show w.heap.size ≤ w6.heap.size + 1; omega) _
                    have Z5 : Hid (w6.heap.size + 2 ≤ (w4.setCell ⟨w6.heap.size + 1, 1, none⟩ (.slice a4 n4 c4)).heap.size) := by have := Z4.out; unfold Hid; simpa [World.setCell] using this
                    go_wp2
                    go_roundw
                    case rel => exact ⟨k + 1, a4, n4, c4, by omega, by go_num, RD5, I5, N5, R5, O5, Z5, B5.out⟩
                    case measure => simp [intOf]; omega
                  exact AllReadyH.nil
                exact AllReadyH.nil
              exact AllReadyH.nil
            exact AllReadyH.nil
          exact AllReadyH.nil
        · obtain rfl : k = m + 1 := by omega
          have hzz : ¬ ((m + 1 : Nat) : Int) < (m : Int) + 1 := by omega
          obtain ⟨t0, t1⟩ := HN.out.two
          obtain ⟨s0, s1⟩ := HR.out.two
          have g0 := HR.out.frozen 0
          have g1 := HR.out.frozen 1
          go_wp2
          refine st_retv HR.out bel (by omega) _ _ _ rfl rfl rfl Tryz.underlying78 rfl (by kernel_rfl) ?_
          intro w' K' B'
          exact ⟨_, _, rfl, OwnI.ofRow (HI.out.keep (K'.block _ (by omega))) (by show (Lf.readI b).length = m; rw [Lf.readI_len, HM.out]) (by omega) (by omega), (by show OwnK _ _ _ _ (Lf.readK b); rw [Lf.readK_kids HKd.out, HM.out]; exact (HO.out.keptL K' (by omega)).mono (by omega)), B'⟩
theorem read_yes (w : World) (xb xo cap : Nat) (b : List UInt8) (hB : IsB w (some ⟨xb, xo, none⟩) 60 b) (hk : b.getD 0 0 = 1 ∨ b.getD 0 0 = 2) :
    Calls Tryz.prog 122 #[.slice (some ⟨xb, xo, none⟩) 60 cap] w fun e w' => ∃ v v', e = .returned (.tuple #[.agg #[v, v'], .bool true]) ∧ OwnI 27 w' w.heap.size v (Lf.readN b).1 ∧ OwnK 3 w' w.heap.size v' (Lf.readN b).2 ∧ Below w.heap.size w w' := by
  rcases hk with h | h
  · exact read_leaf w xb xo cap b hB h
  · exact read_kids w xb xo cap b hB h
end Go.Proofs.YtgbbkmdfangmmabGreat
namespace Go.Proofs.YtgbbkmdfangmmabGreat
set_option maxRecDepth 20000
open Go.RowKit
set_option linter.unusedVariables false
structure Puts (gA gB gS : Nat) (w : World) (D : List UInt8) (p : Nat) : Prop where
  len : D.length = p
  spot : Row w gA 3 [.int .i64 (p : Int)]
  box : Row w gB 94 [.slice (some ⟨gS, 0, none⟩) 60 60]
  row : Row w gS 5 (cellsOf D ++ List.replicate (60 - p) (.int .u8 0))
theorem Puts.below {gA gB gS : Nat} {w w' : World} {D : List UInt8} {p : Nat} (h : Puts gA gB gS w D p) (k : Below w.heap.size w w') : Puts gA gB gS w' D p := ⟨h.len, h.spot.below k, h.box.below k, h.row.below k⟩
theorem Puts.isB {gA gB gS : Nat} {w : World} {D : List UInt8} {p : Nat} (h : Puts gA gB gS w D p) (hp : p ≤ 60) : IsB w (some ⟨gS, 0, none⟩) 60 (D ++ List.replicate (60 - p) 0) := by
  have hl := h.len
  refine ⟨by rw [List.length_append, List.length_replicate]; omega, fun (e : some _ = none) => (by cases e), fun x hx j hj => ?_⟩
  simp only [Option.some.injEq] at hx
  subst hx
  rw [Addr.add_lit, Nat.zero_add]
  refine h.row.cell ?_
  rw [show cellsOf D ++ List.replicate (60 - p) (.int .u8 0) = cellsOf (D ++ List.replicate (60 - p) 0) by rw [cellsOf_append]; simp [cellsOf]]
  simp only [cellsOf, List.getElem?_map, List.getElem?_eq_getElem hj, Option.map_some]
theorem splice_put {D X : List Value} {z : Value} {p s : Nat} (hD : D.length = p) (hX : X.length = s) (h : p + s ≤ 60) : splice (D ++ List.replicate (60 - p) z) p X = (D ++ X) ++ List.replicate (60 - (p + s)) z := by
  unfold splice
  subst hD hX
  rw [List.take_left, List.drop_append, List.drop_eq_nil_of_le (by omega), List.nil_append, List.drop_replicate]
  rw [show 60 - D.length - (D.length + X.length - D.length) = 60 - (D.length + X.length) by omega, List.append_assoc]
set_option maxHeartbeats 4000000 in
theorem put_c (w : World) (gA gB gS : Nat) (hab : gA ≠ gB) (has : gA ≠ gS) (hbs : gB ≠ gS) (D : List UInt8) (p : Nat) (h : Puts gA gB gS w D p) (N s : Nat) (M S : Int) (hM : M = (N : Int)) (hS : S = (s : Int)) (h1 : 1 ≤ s) (h2 : s ≤ 8) (hN : N < 256 ^ s) (hf : p + s ≤ 60) :
    Calls Tryz.prog 116 #[.int .u64 M, .int .i64 S, .pointer (some ⟨gA, 0, none⟩), .pointer (some ⟨gB, 0, none⟩)] w fun e w' => e = .returned (.tuple #[]) ∧ Puts gA gB gS w' (D ++ Oct.octs N s) (p + s) ∧ Kept (fun b => b < w.heap.size ∧ b ≠ gA ∧ b ≠ gS) w w' := by
  subst hM
  subst hS
  have HP : Hid (Puts gA gB gS w D p) := h
  have HN : Hid _ := hN
  clear h hN
  go_enter Tryz.func116, Tryz.ntmps116
  go_wp2_with fail
  refine (put_ok N s _ _ rfl rfl w h1 h2 HN.out).mono ?_
  rintro e w1 ⟨rfl, ho, b1⟩
  obtain ⟨hB, -, -⟩ := owns_isB ho
  have HB : Hid (IsB w1 (some ⟨w.heap.size, 0, none⟩) s (Oct.octs N s)) := hB
  have HP1 : Hid (Puts gA gB gS w1 D p) := HP.out.below b1
  have B1 : Hid (Below w.heap.size w w1) := b1
  have hgS : gS < w.heap.size := HP.out.row.lt
  have hgA : gA < w.heap.size := HP.out.spot.lt
  clear ho hB b1
  have hlen : (cellsOf (Oct.octs N s)).length = s := by rw [cellsOf_length, Oct.octs_length]
  obtain ⟨w2, hrun, HR2, k2, z2⟩ := copy_run (Pr := Tryz.prog) w1.drew 94 94 3 5 Tryz.underlying94 (by kernel_rfl) (some ⟨gS, p, none⟩) (some ⟨w.heap.size, 0, none⟩) (60 - p) (60 - p) s s gS p _ 5 (HP1.out.row.keep rfl) (cellsOf (Oct.octs N s)) (by rw [hlen]; exact (Nat.min_eq_left (by omega)).symm) (fun _ => ⟨rfl, _, rfl, isB_cells HB.out⟩) (by rw [hlen, List.length_append, cellsOf_length, HP1.out.len, List.length_replicate]; omega) (cellsOf_oneCell _)
  rw [hlen] at hrun
  have HR : Hid (Row w2 gS 5 (cellsOf (D ++ Oct.octs N s) ++ List.replicate (60 - (p + s)) (.int .u8 0))) := by
    rw [splice_put (by rw [cellsOf_length]; exact HP1.out.len) hlen hf] at HR2
    rw [cellsOf_append]; exact HR2
  have HA2 : Hid (Row w2 gA 3 [.int .i64 (p : Int)]) := HP1.out.spot.keep (k2.block gA has)
  have HB2 : Hid (Row w2 gB 94 [.slice (some ⟨gS, 0, none⟩) 60 60]) := HP1.out.box.keep (k2.block gB hbs)
  have HK2 : Hid (Kept (fun b => b < w.heap.size ∧ b ≠ gA ∧ b ≠ gS) w w2) := ⟨k2.os.trans B1.out.os, k2.tape.trans B1.out.tape, k2.output.trans B1.out.output, Nat.le_trans B1.out.size k2.size, fun b hb => (k2.block b hb.2.2).trans (B1.out.block b hb.1)⟩
  have q0 := HP1.out.spot.cell (j := 0) rfl
  have q1 := HP1.out.box.cell (j := 0) rfl
  have q2 := HA2.out.cell (j := 0) rfl
  have q3 := HA2.out.frozen 0
  have hp60 : (p : Int) < 60 := by omega
  have hpc : (p : Int) ≤ 60 := by omega
  clear HR2 k2 z2 HB
  go_wp2_with fail
  go_region_with (fail)
  all_goals rw [show IntKind.i64.wrap ((p : Int) + (s : Int)) = ((p + s : Nat) : Int) by rw [IntKind.wrap_i64]; omega]
  all_goals go_wp2
  all_goals go_end0
  all_goals exact ⟨rfl, ⟨by rw [List.length_append, Oct.octs_length, HP.out.len], HA2.out.set 0 _, HB2.out.keep (Below.heap_setCell _ _ _ _ (fun e => hab e.symm)), HR.out.keep (Below.heap_setCell _ _ _ _ (fun e => has e.symm))⟩, HK2.out.setCell (p := ⟨gA, 0, none⟩) (fun h => h.2.1 rfl) _⟩
end Go.Proofs.YtgbbkmdfangmmabGreat
