/-
  Facts that the proof rests on, part 10. Conditions: those that each of them names.
-/
import Derived.Laws.EntriesVeiled
import Derived.Maps.Own
import Derived.Test.YtkbmadoaomoojaaGreatK00
import Derived.Test.YtkbmadoaomoojaaGreatK03
import Derived.Test.YtkbmadoaomoojaaGreatK05
import Derived.Test.YtkbmadoaomoojaaGreatK06
import Derived.Test.YtkbmadoaomoojaaGreatK07
import Derived.Test.YtkbmadoaomoojaaGreatK08
namespace Go.Proofs.YtkbmadoaomoojaaGreat
set_option maxRecDepth 20000
open Go.RowKit
set_option linter.unusedVariables false
def Turn (S : List Nat) (w w' : World) : Prop := Kept (fun b => b < w.heap.size ∧ b ∉ S) w w'
theorem Turn.refl (S : List Nat) (w : World) : Turn S w w := Kept.refl _ _
theorem Turn.trans {S : List Nat} {a b c : World} (h : Turn S a b) (k : Turn S b c) : Turn S a c :=
 ⟨k.os.trans h.os, k.tape.trans h.tape, k.output.trans h.output, Nat.le_trans h.size k.size, fun i hi => (k.block i ⟨Nat.lt_of_lt_of_le hi.1 h.size, hi.2⟩).trans (h.block i hi)⟩
theorem Turn.of {S : List Nat} {w w' : World} (h : Below w.heap.size w w') : Turn S w w' := ⟨h.os, h.tape, h.output, h.size, fun i hi => h.block i hi.1⟩
theorem Turn.on {S : List Nat} {a b c : World} (h : Turn S a b) (k : Below b.heap.size b c) : Turn S a c := h.trans (Turn.of k)
theorem Turn.mono {S S' : List Nat} {w w' : World} (h : Turn S w w') (hS : ∀ b ∈ S, b < w.heap.size → b ∈ S') : Turn S' w w' :=
 ⟨h.os, h.tape, h.output, h.size, fun i hi => h.block i ⟨hi.1, fun e => hi.2 (hS i e hi.1)⟩⟩
theorem Turn.set {S : List Nat} {a w : World} (h : Turn S a w) {p : Addr} (hp : a.heap.size ≤ p.block ∨ p.block ∈ S) (u : Value) : Turn S a (w.setCell p u) :=
 Kept.setCell h (fun e => hp.elim (fun h1 => by have := e.1; omega) e.2) u
theorem Turn.drew {S : List Nat} {a w : World} (h : Turn S a w) : Turn S a w.drew := Kept.drew h
theorem Turn.alloc {S : List Nat} {a w : World} (h : Turn S a w) (o : Obj) : Turn S a (w.alloc o) := h.on ((Below.refl _ _).alloc (Nat.le_refl _) o)
theorem Turn.below {B : Nat} {S : List Nat} {w w' : World} (h : Turn S w w') (hB : B ≤ w.heap.size) (hS : ∀ b ∈ S, B ≤ b) : Below B w w' :=
 ⟨h.os, h.tape, h.output, h.size, fun i hi => h.block i ⟨Nat.lt_of_lt_of_le hi hB, fun e => by have := hS i e; omega⟩⟩
theorem Turn.rep {α : Type} {A : Rep α} {S : List Nat} {w w' : World} {P : Nat → Prop} {cs : List Value} {x : α} (h : Turn S w w') (hr : A.rd w P cs x) (hP : ∀ b, P b → b < w.heap.size → b ∉ S) : A.rd w' P cs x :=
 Rep.kept hr h (fun b hb hl => ⟨hl, hP b hb hl⟩)
theorem Turn.row {S : List Nat} {w w' : World} {g : Nat} {t : TypeId} {xs : List Value} (h : Turn S w w') (hr : Row w g t xs) (hg : g ∉ S) : Row w' g t xs := hr.keep (h.block g ⟨hr.lt, hg⟩)
def mapEs (n : Nat) : List (Int × Value) → List MapEntry
 | [] => []
 | z :: l => { key := .int .i64 z.1, val := z.2, born := n } :: mapEs (n + 1) l
theorem mapEs_append : ∀ (n : Nat) (l m : List (Int × Value)), mapEs n (l ++ m) = mapEs n l ++ mapEs (n + l.length) m
 | n, [], m => by simp [mapEs]
 | n, z :: l, m => by
   simp only [List.cons_append, mapEs, List.length_cons]
   rw [mapEs_append (n + 1) l m, show n + 1 + l.length = n + (l.length + 1) by omega]
theorem mapEs_length : ∀ (n : Nat) (l : List (Int × Value)), (mapEs n l).length = l.length
 | n, [] => rfl
 | n, z :: l => by simp [mapEs, mapEs_length (n + 1) l]
structure IsMet (w : World) (b : Nat) (l : List (Int × Value)) : Prop where
 eq : w.heap[b]? = some (.map (mapEs 0 l).toArray l.length)
theorem IsMet.lt {w : World} {b : Nat} {l : List (Int × Value)} (h : IsMet w b l) : b < w.heap.size := (Array.getElem?_eq_some_iff.1 h.eq).1
theorem IsMet.keep {w w' : World} {b : Nat} {l : List (Int × Value)} (h : IsMet w b l) (hk : w'.heap[b]? = w.heap[b]?) : IsMet w' b l := ⟨hk.trans h.eq⟩
theorem IsMet.turn {S : List Nat} {w w' : World} {b : Nat} {l : List (Int × Value)} (h : IsMet w b l) (k : Turn S w w') (hb : b ∉ S) : IsMet w' b l := h.keep (k.block b ⟨h.lt, hb⟩)
theorem IsMet.below {w w' : World} {b : Nat} {l : List (Int × Value)} (h : IsMet w b l) (k : Below w.heap.size w w') : IsMet w' b l := h.keep (k.block b h.lt)
theorem find_no (p : Int) : ∀ (l : List (Int × Value)) (n i : Nat), (∀ z ∈ l, z.1 ≠ p) → Instr.findNow (.int .i64) (.int .i64 p) (mapEs n l) i = some none
 | [], n, i, _ => rfl
 | z :: l, n, i, h => by
   have hz := h z (by simp)
   unfold mapEs Instr.findNow
   have : Instr.sameNow (.int .i64) (.int .i64 p) (.int .i64 z.1) = some false := by
    simp [Instr.sameNow, Ne.symm hz]
   rw [this]
   exact find_no p l (n + 1) (i + 1) (fun y hy => h y (by simp [hy]))
theorem find_yes (p : Int) : ∀ (l : List (Int × Value)) (n i j : Nat) (v : Value), l[j]? = some (p, v) → (∀ (k : Nat) (z : Int × Value), k < j → l[k]? = some z → z.1 ≠ p) → Instr.findNow (.int .i64) (.int .i64 p) (mapEs n l) i = some (some (i + j, v))
 | [], n, i, j, v, h, _ => by simp at h
 | z :: l, n, i, 0, v, h, _ => by
   simp only [List.getElem?_cons_zero, Option.some.injEq] at h
   subst h
   unfold mapEs Instr.findNow
   simp [Instr.sameNow]
 | z :: l, n, i, j + 1, v, h, hk => by
   have hz := hk 0 z (by omega) rfl
   unfold mapEs Instr.findNow
   have : Instr.sameNow (.int .i64) (.int .i64 p) (.int .i64 z.1) = some false := by
    simp [Instr.sameNow, Ne.symm hz]
   rw [this]
   have := find_yes p l (n + 1) (i + 1) j v (by simpa using h) (fun k y hkj hy => hk (k + 1) y (by omega) (by simpa using hy))
   rw [show i + 1 + j = i + (j + 1) by omega] at this
   exact this
abbrev noNode : Value := .agg #[.slice none 0 0, .slice none 0 0]
theorem zero_node (w : World) : (zeroValue 63).run Tryz.prog w = .ok noNode w := by kernel_rfl
theorem look_no {w : World} {b : Nat} {l : List (Int × Value)} (h : IsMet w b l) {p : Int} (hp : ∀ z ∈ l, z.1 ≠ p) (c : Bool) :
 (Instr.lookup 61 (.map (some b)) (.int .i64 p) c).run Tryz.prog w = .ok (if c then .tuple #[noNode, .bool false] else noNode) w := by
 have hf := MapKept.run_findKey (P := Tryz.prog) (w := w) Tryz.underlying3 (find_no p l 0 0 hp)
 have hc : ∀ e : Bool, (Instr.checkKey e 10000 3 (.int .i64 p)).run Tryz.prog w = .ok () w := fun e => MapKept.run_checkKey Tryz.underlying3 (by simp [MapKept.IsKey]) e 9999
 simp [Instr.lookup, run_underlying Tryz.underlying61, MapKept.run_getObj_map h.eq, Result.andThen, hc, hf]
theorem look_yes {w : World} {b : Nat} {l : List (Int × Value)} (h : IsMet w b l) {p : Int} {v : Value} (hm : (p, v) ∈ l) (hn : (l.map Prod.fst).Nodup) (c : Bool) :
 (Instr.lookup 61 (.map (some b)) (.int .i64 p) c).run Tryz.prog w = .ok (if c then .tuple #[v, .bool true] else v) w := by
 obtain ⟨j, hj, e⟩ := List.getElem_of_mem hm
 have hf := MapKept.run_findKey (P := Tryz.prog) (w := w) Tryz.underlying3 (find_yes p l 0 0 j v (by rw [List.getElem?_eq_getElem hj, e]) (fun k z hkj hz ez => by
  obtain ⟨hk, ek⟩ := List.getElem?_eq_some_iff.1 hz
  have hp := List.pairwise_iff_getElem.1 hn k j (by simpa using hk) (by simpa using hj) hkj
  apply hp
  simp only [List.getElem_map]
  rw [ek, e, ez]))
 have hc : ∀ e : Bool, (Instr.checkKey e 10000 3 (.int .i64 p)).run Tryz.prog w = .ok () w := fun e => MapKept.run_checkKey Tryz.underlying3 (by simp [MapKept.IsKey]) e 9999
 simp [Instr.lookup, run_underlying Tryz.underlying61, MapKept.run_getObj_map h.eq, Result.andThen, hc, hf]
theorem store_new {w : World} {b : Nat} {l : List (Int × Value)} (h : IsMet w b l) {p : Int} (hp : ∀ z ∈ l, z.1 ≠ p) (v : Value) :
 ∃ w', (Instr.mapUpdate 61 (.map (some b)) (.int .i64 p) v).run Tryz.prog w = .ok () w' ∧ IsMet w' b (l ++ [(p, v)]) ∧ Kept (· ≠ b) w w' ∧ w'.heap.size = w.heap.size := by
 have hf := MapKept.run_findKey (P := Tryz.prog) (w := w) Tryz.underlying3 (find_no p l 0 0 hp)
 have hc : ∀ e : Bool, (Instr.checkKey e 10000 3 (.int .i64 p)).run Tryz.prog w = .ok () w := fun e => MapKept.run_checkKey Tryz.underlying3 (by simp [MapKept.IsKey]) e 9999
 refine ⟨{ w with heap := w.heap.setIfInBounds b (.map (mapEs 0 (l ++ [(p, v)])).toArray (l ++ [(p, v)]).length) }, ?_, ⟨?_⟩, ⟨rfl, rfl, rfl, by simp, fun k hk => ?_⟩, by simp⟩
 · simp [Instr.mapUpdate, run_underlying Tryz.underlying61, MapKept.run_getObj_map h.eq, Result.andThen, hc, hf, MapKept.run_setObj_map _ h.eq, mapEs_append, mapEs]
 · exact (MapKept.heap_set h.eq).1
 · exact (MapKept.heap_set h.eq).2 k hk
theorem met_new (w : World) : IsMet (w.alloc (.map #[] 0)) w.heap.size [] := ⟨(MapKept.heap_alloc w _).1⟩
abbrev faultV (e : Int) : Value := .iface 124 (.agg #[.int .i64 e])
abbrev broke (e : Int) : Ending := .panicked [{ v := faultV e, recovered := false }]
theorem must_yes (w : World) : Calls Tryz.prog 64 #[.bool true] w fun e w' => e = .returned (.tuple #[]) ∧ w' = w := by
 go_enter Tryz.func64, Tryz.ntmps64
 go_wp2
 go_end0
 exact ⟨rfl, rfl⟩
theorem must_no (w : World) : Calls Tryz.prog 64 #[.bool false] w fun e w' => e = broke 9 ∧ w' = w := by
 go_enter Tryz.func64, Tryz.ntmps64
 go_wp2
 exact ⟨rfl, rfl, rfl⟩
theorem isLeafT_u (w : World) (u : Value) (a' : Option Addr) (n' c' : Nat) :
 Calls Tryz.prog 47 #[.agg #[u, .slice a' n' c']] w fun e w' => e = .returned (.bool (decide ((n' : Int) = 0))) ∧ Below w.heap.size w w' := by
 obtain ⟨w0, hw0, V0, b0, z0⟩ := boxedRow w 63 [u, .slice a' n' c']
 obtain ⟨r0, r1⟩ := V0.two
 have B0 : Hid _ := b0
 clear V0 b0 z0
 go_enter Tryz.func47, Tryz.ntmps47
 go_wp2
 go_ret
 exact ⟨rfl, B0.out⟩
def boolCells (l : List Bool) : List Value := l.map Value.bool
def IsBnd (w : World) (v : Value) : Bnd → Prop
 | none => v = .slice none 0 0
 | some k => ∃ q, v = .slice (some ⟨q, 0, none⟩) 1 1 ∧ Row w q 39 [.int .u64 (k.toNat : Int)]
theorem IsBnd.keep {w w' : World} {v : Value} {b : Bnd} (h : IsBnd w v b) (hk : ∀ q, v.ownBlock = some q → w'.heap[q]? = w.heap[q]?) : IsBnd w' v b := by
 cases b with
 | none => exact h
 | some k =>
   obtain ⟨q, rfl, hr⟩ := h
   exact ⟨q, rfl, hr.keep (hk q rfl)⟩
theorem IsBnd.lt {w : World} {v : Value} {b : Bnd} (h : IsBnd w v b) : ∀ q, v.ownBlock = some q → q < w.heap.size := by
 intro q hq
 cases b with
 | none => rw [show v = .slice none 0 0 from h] at hq; cases hq
 | some k =>
   obtain ⟨q', rfl, hr⟩ := h
   cases hq
   exact hr.lt
def metN (l : List Bool) : Nat := (l.filter id).length
theorem metN_le (l : List Bool) : metN l ≤ l.length := List.length_filter_le _ _
theorem metN_set : ∀ (l : List Bool) (i : Nat), i < l.length → l.getD i false = false → metN (l.set i true) = metN l + 1
 | x :: l, 0, _, h => by
   have hx : x = false := h
   subst hx
   simp [metN]
 | x :: l, i + 1, hi, h => by
   have ih := metN_set l i (by simpa using hi) (by simpa [List.getD] using h)
   unfold metN at ih ⊢
   rw [List.set_cons_succ, List.filter_cons, List.filter_cons]
   cases x
   · simpa using ih
   · simpa using ih
structure Walks (w : World) (g gm : Nat) (P : Nat → Prop) (pa : Option Addr) (pc : Nat) (oa : Option Addr) (on_ oc : Nat) (base : Nat) (s : Pgs) (k : Tr.Wk) : Prop where
 row : Row w g 121 [.slice pa s.length pc, .slice (some ⟨gm, 0, none⟩) s.length s.length, .slice oa on_ oc, .int .i64 (k.leaf : Int), .bool k.bad]
 pages : rSectors.rd w P [.slice pa s.length pc] s
 met : Row w gm 4 (boolCells k.met)
 len : k.met.length = s.length
 out : OwnI 45 w base (.slice oa on_ oc) k.out
 few : k.out.length ≤ 3 * metN k.met
structure Apart (P : Nat → Prop) (B g gm base : Nat) : Prop where
 pages : ∀ b, P b → b < B
 atG : B ≤ g
 atM : B ≤ gm
 atO : B ≤ base
 ne : g ≠ gm
 gb : g < base
 gmb : gm < base
def Quiet (g gm : Nat) (oa : Option Addr) (on_ oc : Nat) (w w' : World) : Prop := Kept (fun b => b < w.heap.size ∧ b ≠ g ∧ b ≠ gm ∧ (Value.slice oa on_ oc).ownBlock ≠ some b) w w'
theorem Walks.five {w : World} {g gm : Nat} {P : Nat → Prop} {pa oa : Option Addr} {pc on_ oc base : Nat} {s : Pgs} {k : Tr.Wk} (h : Walks w g gm P pa pc oa on_ oc base s k) :
 w.cell? ⟨g, 0, none⟩ = some (.slice pa s.length pc) ∧ w.cell? ⟨g, 1, none⟩ = some (.slice (some ⟨gm, 0, none⟩) s.length s.length) ∧ w.cell? ⟨g, 2, none⟩ = some (.slice oa on_ oc) ∧ w.cell? ⟨g, 3, none⟩ = some (.int .i64 (k.leaf : Int)) ∧ w.cell? ⟨g, 4, none⟩ = some (.bool k.bad) :=
 ⟨h.row.cell rfl, h.row.cell rfl, h.row.cell rfl, h.row.cell rfl, h.row.cell rfl⟩
theorem Walks.ownLt {w : World} {g gm : Nat} {P : Nat → Prop} {pa oa : Option Addr} {pc on_ oc base : Nat} {s : Pgs} {k : Tr.Wk} (h : Walks w g gm P pa pc oa on_ oc base s k) : ∀ q, (Value.slice oa on_ oc).ownBlock = some q → base ≤ q ∧ q < w.heap.size := h.out.row.lt
theorem Walks.below {w w' : World} {g gm : Nat} {P : Nat → Prop} {pa oa : Option Addr} {pc on_ oc base : Nat} {s : Pgs} {k : Tr.Wk} (h : Walks w g gm P pa pc oa on_ oc base s k) (b : Below w.heap.size w w') : Walks w' g gm P pa pc oa on_ oc base s k :=
 ⟨h.row.below b, Rep.below h.pages b, h.met.below b, h.len, h.out.below b, h.few⟩
theorem Walks.setBad {w : World} {B g gm : Nat} {P : Nat → Prop} {pa oa : Option Addr} {pc on_ oc base : Nat} {s : Pgs} {k : Tr.Wk} (h : Walks w g gm P pa pc oa on_ oc base s k) (a : Apart P B g gm base) (x : Bool) :
 Walks (w.setCell ⟨g, 4, none⟩ (.bool x)) g gm P pa pc oa on_ oc base s { k with bad := x } :=
 ⟨h.row.set 4 (.bool x), rSectors.keep h.pages (fun b hb hl => Below.heap_setCell _ _ _ _ (by have := a.pages b hb; have := a.atG; show b ≠ g; omega)), h.met.setO (p := ⟨g, 4, none⟩) a.ne _, h.len, h.out.setB (p := ⟨g, 4, none⟩) a.gb _, h.few⟩
end Go.Proofs.YtkbmadoaomoojaaGreat
namespace Go.Proofs.YtkbmadoaomoojaaGreat.Oct
def sizeOk (S : Int) : Bool := decide (1 ≤ S ∧ S ≤ 8)
def putE (n : Nat) (S : Int) : Int := if sizeOk S = false then 1 else if 256 ^ S.toNat ≤ n then 4 else 0
def putL (n : Nat) (S : Int) : List UInt8 := if putE n S = 0 then octs n S.toNat else []
def getE (l : List UInt8) (P S : Int) : Int := if sizeOk S = false then 1 else if P < 0 then 4 else if l.length < P.toNat + S.toNat then 8 else 0
def getV (l : List UInt8) (P S : Int) : Nat := if getE l P S = 0 then num (cut l P.toNat S.toNat) else 0
def lenAt (l : List UInt8) (P : Int) : Nat := (l.getD P.toNat 0).toNat
def readE (l : List UInt8) (P : Int) : Int := if P < 0 then 4 else if l.length < P.toNat + 1 then 8 else if l.length < P.toNat + 1 + lenAt l P then 8 else 0
def readN (l : List UInt8) (P : Int) : Nat := if readE l P = 0 then P.toNat + 1 + lenAt l P else 0
theorem putE_arg {n : Nat} {S : Int} (h : ¬ (1 ≤ S ∧ S ≤ 8)) : putE n S = 1 := by
 have : sizeOk S = false := by simpa [sizeOk] using h
 simp [putE, this]
theorem putE_range {n s : Nat} (h1 : 1 ≤ s) (h2 : s ≤ 8) (h : 256 ^ s ≤ n) : putE n s = 4 := by
 have : sizeOk s = true := by simp [sizeOk]; omega
 simp [putE, this, h]
theorem putE_ok {n s : Nat} (h1 : 1 ≤ s) (h2 : s ≤ 8) (h : n < 256 ^ s) : putE n s = 0 := by
 have : sizeOk s = true := by simp [sizeOk]; omega
 simp [putE, this]; omega
theorem putL_ok {n s : Nat} (h1 : 1 ≤ s) (h2 : s ≤ 8) (h : n < 256 ^ s) : putL n s = octs n s := by
 simp [putL, putE_ok h1 h2 h]
theorem putE_cases (n : Nat) (S : Int) :
 (¬ (1 ≤ S ∧ S ≤ 8) ∧ putE n S = 1 ∧ putL n S = []) ∨ (∃ s : Nat, S = s ∧ 1 ≤ s ∧ s ≤ 8 ∧ 256 ^ s ≤ n ∧ putE n S = 4 ∧ putL n S = []) ∨
 (∃ s : Nat, S = s ∧ 1 ≤ s ∧ s ≤ 8 ∧ n < 256 ^ s ∧ putE n S = 0 ∧ putL n S = octs n s) := by
 by_cases h : 1 ≤ S ∧ S ≤ 8
 · obtain ⟨s, rfl⟩ := Int.eq_ofNat_of_zero_le (show 0 ≤ S by omega)
   have h1 : 1 ≤ s := by omega
   have h2 : s ≤ 8 := by omega
   by_cases h3 : n < 256 ^ s
   · exact .inr (.inr ⟨s, rfl, h1, h2, h3, putE_ok h1 h2 h3, putL_ok h1 h2 h3⟩)
   · exact .inr (.inl ⟨s, rfl, h1, h2, by omega, putE_range h1 h2 (by omega), by simp [putL, putE_range h1 h2 (show 256 ^ s ≤ n by omega)]⟩)
 · exact .inl ⟨h, putE_arg h, by simp [putL, putE_arg h]⟩
theorem getE_cases (l : List UInt8) (P S : Int) :
 (¬ (1 ≤ S ∧ S ≤ 8) ∧ getE l P S = 1 ∧ getV l P S = 0) ∨ ((1 ≤ S ∧ S ≤ 8) ∧ P < 0 ∧ getE l P S = 4 ∧ getV l P S = 0) ∨
 (∃ p s : Nat, P = p ∧ S = s ∧ 1 ≤ s ∧ s ≤ 8 ∧ l.length < p + s ∧ getE l P S = 8 ∧ getV l P S = 0) ∨
 (∃ p s : Nat, P = p ∧ S = s ∧ 1 ≤ s ∧ s ≤ 8 ∧ p + s ≤ l.length ∧ getE l P S = 0 ∧ getV l P S = num (cut l p s)) := by
 by_cases h : 1 ≤ S ∧ S ≤ 8
 · have hs : sizeOk S = true := by simpa [sizeOk] using h
   by_cases hp : P < 0
   · have : getE l P S = 4 := by simp [getE, hs, hp]
     exact .inr (.inl ⟨h, hp, this, by simp [getV, this]⟩)
   · obtain ⟨s, rfl⟩ := Int.eq_ofNat_of_zero_le (show 0 ≤ S by omega)
     obtain ⟨p, rfl⟩ := Int.eq_ofNat_of_zero_le (show 0 ≤ P by omega)
     by_cases h3 : l.length < p + s
     · have : getE l p s = 8 := by simp [getE, hs, h3]
       exact .inr (.inr (.inl ⟨p, s, rfl, rfl, by omega, by omega, h3, this, by simp [getV, this]⟩))
     · have : getE l p s = 0 := by simp [getE, hs]; omega
       exact .inr (.inr (.inr ⟨p, s, rfl, rfl, by omega, by omega, by omega, this, by simp [getV, this]⟩))
 · have hs : sizeOk S = false := by simpa [sizeOk] using h
   have : getE l P S = 1 := by simp [getE, hs]
   exact .inl ⟨h, this, by simp [getV, this]⟩
theorem octs_snoc (n s : Nat) : octs n (s + 1) = octs n s ++ [UInt8.ofNat (n / 256 ^ s)] := by
 induction s generalizing n with
 | zero => simp [octs]
 | succ s ih =>
   rw [octs, ih (n / 256), octs, List.cons_append, Nat.div_div_eq_div_mul, Nat.pow_succ, Nat.mul_comm]
theorem div_step (n k : Nat) : n / 256 ^ k / 256 = n / 256 ^ (k + 1) := by rw [Nat.div_div_eq_div_mul, Nat.pow_succ]
end Go.Proofs.YtkbmadoaomoojaaGreat.Oct
namespace Go.Proofs.YtkbmadoaomoojaaGreat
set_option maxRecDepth 20000
set_option linter.unusedVariables false
namespace Lf
open Oct Crc
def itemsB (l : List Itm) : Bool := decide (1 ≤ l.length) && decide (l.length ≤ 3) && rise l
def kidsB (n : Nod) : Bool := decide (n.2.length = n.1.length + 1) && n.1.all (fun x => decide (x.2 = 0)) && (n.2.all (fun k => decide (1 ≤ k) && decide (k ≤ 2048)) && apart n.2)
theorem ok_parts (n : Nod) : ok n = (itemsB n.1 && (isLeaf n || kidsB n)) := by
 unfold ok itemsB kidsB
 cases h : isLeaf n
 · simp only [Bool.false_or]
   cases decide (1 ≤ n.1.length) <;> cases decide (n.1.length ≤ 3) <;> cases decide (n.2.length = n.1.length + 1) <;> cases rise n.1 <;> cases (n.1.all fun x => decide (x.2 = 0)) <;> cases (n.2.all fun k => decide (1 ≤ k) && decide (k ≤ 2048)) <;> cases apart n.2 <;> rfl
 · have e : n.2 = [] := List.isEmpty_iff.1 h
   rw [e]
   simp [apart]
def heads (n : Nod) : List UInt8 := octs (kind n).toNat 1 ++ octs n.1.length 1 ++ octs 0 2
theorem heads_eq {n : Nod} (h : n.1.length ≤ 3) : heads n = head n := by
 unfold heads head
 have hk : kind n = 1 ∨ kind n = 2 := by unfold kind; split <;> simp
 have hl : n.1.length = 0 ∨ n.1.length = 1 ∨ n.1.length = 2 ∨ n.1.length = 3 := by omega
 rcases hk with e | e <;> rw [e] <;> rcases hl with e2 | e2 | e2 | e2 <;> rw [e2] <;> decide
theorem front_put {n : Nod} (h : n.1.length ≤ 3) : front n = heads n ++ n.1.flatMap key8 ++ (if isLeaf n then n.1.flatMap val8 else []) ++ n.2.flatMap kid4 := by
 unfold front rest
 rw [heads_eq h]
 cases hl : isLeaf n
 · simp
 · have e : n.2 = [] := List.isEmpty_iff.1 hl
   simp [e]
theorem flat_next {α : Type} (f : α → List UInt8) {l : List α} {k : Nat} (h : k < l.length) : (l.take (k + 1)).flatMap f = (l.take k).flatMap f ++ f l[k] := by
 rw [List.take_succ_eq_append_getElem h, List.flatMap_append, List.flatMap_cons, List.flatMap_nil, List.append_nil]
def getN (b : List UInt8) (p s : Nat) : Nat := getV b (p : Int) (s : Int)
def cnt (b : List UInt8) : Nat := (b.getD 1 0).toNat
def keyR (b : List UInt8) (i : Nat) : UInt64 := UInt64.ofNat (getN b (4 + 8 * i) 8)
def valR (b : List UInt8) (i : Nat) : UInt64 := UInt64.ofNat (getN b (4 + 8 * cnt b + 8 * i) 8)
def kidR (b : List UInt8) (i : Nat) : Int := (getN b (4 + 8 * cnt b + 4 * i) 4 : Nat)
def readI (b : List UInt8) : List Itm := (List.range (cnt b)).map (fun i => (keyR b i, if b.getD 0 0 = 1 then valR b i else 0))
def readK (b : List UInt8) : List Int := if b.getD 0 0 = 2 then (List.range (cnt b + 1)).map (kidR b) else []
def readN (b : List UInt8) : Nod := (readI b, readK b)
theorem getN_in {b : List UInt8} {p s : Nat} (h1 : 1 ≤ s) (h2 : s ≤ 8) (h : p + s ≤ b.length) : getN b p s = num (cut b p s) := by
 unfold getN
 rcases getE_cases b (p : Int) (s : Int) with ⟨h', -, e⟩ | ⟨-, h', -, e⟩ | ⟨p', s', e1, e2, -, -, h', -, e⟩ | ⟨p', s', e1, e2, -, -, h', -, e⟩
 · omega
 · omega
 · omega
 · rw [e]
   obtain rfl : p' = p := by omega
   obtain rfl : s' = s := by omega
   rfl
theorem getN_lt (b : List UInt8) (p s : Nat) (h1 : 1 ≤ s) (h2 : s ≤ 8) : getN b p s < 256 ^ s := by
 by_cases h : p + s ≤ b.length
 · rw [getN_in h1 h2 h]
   exact num_cut_lt b p s h
 · unfold getN
   rcases getE_cases b (p : Int) (s : Int) with ⟨h', -, e⟩ | ⟨-, h', -, e⟩ | ⟨p', s', e1, e2, -, -, h', -, e⟩ | ⟨p', s', e1, e2, -, -, h', -, e⟩
   · omega
   · omega
   · rw [e]; exact Nat.pow_pos (by decide)
   · omega
theorem read_told {b : List UInt8} (h : cnt b ≤ 3) (hb : b.length = 60) (hk : b.getD 0 0 = 1 ∨ b.getD 0 0 = 2) : readN b = told b := by
 have hm : many b = cnt b := by unfold many; unfold cnt at h ⊢; omega
 have e1 : ∀ i, i < cnt b → keyR b i = keyAt b i := fun i hi => by
  unfold keyR keyAt
  rw [getN_in (by decide) (by decide) (by omega)]
 refine Prod.ext ?_ ?_
 · show readI b = (List.range (many b)).map _
   unfold readI
   rw [hm]
   refine List.map_congr_left fun i hi => ?_
   have hi := List.mem_range.1 hi
   refine Prod.ext (e1 i hi) ?_
   show (if b.getD 0 0 = 1 then valR b i else 0) = valAt b i
   unfold valAt valR
   rw [hm, getN_in (by decide) (by decide) (by omega)]
 · show readK b = if b.getD 0 0 = 2 then (List.range (many b + 1)).map (kidAt b) else []
   unfold readK
   rw [hm]
   split
   · refine List.map_congr_left fun i hi => ?_
     have hi := List.mem_range.1 hi
     unfold kidR kidAt
     rw [hm, getN_in (by decide) (by decide) (by omega)]
   · rfl
theorem decode_kind {b : List UInt8} (h64 : b.length = 64) (hE : openE b = 0) (hk : ¬ ((openL b).getD 0 0 = 1 ∨ (openL b).getD 0 0 = 2)) : decodeE b = 22 ∧ decodeN b = ([], []) := by
 have e : decodeE b = 22 := by unfold decodeE; rw [if_pos h64, if_pos hE, if_neg hk]
 exact ⟨e, by unfold decodeN; rw [e]; rfl⟩
theorem decode_told {b : List UInt8} (h64 : b.length = 64) (hE : openE b = 0) (hk : (openL b).getD 0 0 = 1 ∨ (openL b).getD 0 0 = 2) :
 (ok (told (openL b)) = true ∧ enc (told (openL b)) = b → decodeE b = 0 ∧ decodeN b = told (openL b)) ∧ (¬ (ok (told (openL b)) = true ∧ enc (told (openL b)) = b) → decodeE b = 21 ∧ decodeN b = ([], [])) := by
 constructor
 · intro h
   have e : decodeE b = 0 := by unfold decodeE; rw [if_pos h64, if_pos hE, if_pos hk, if_pos h]
   exact ⟨e, by unfold decodeN; rw [e]; rfl⟩
 · intro h
   have e : decodeE b = 21 := by unfold decodeE; rw [if_pos h64, if_pos hE, if_pos hk, if_neg h]
   exact ⟨e, by unfold decodeN; rw [e]; rfl⟩
theorem decode_read {b : List UInt8} (h64 : b.length = 64) (hE : openE b = 0) (h60 : (openL b).length = 60) (hk : (openL b).getD 0 0 = 1 ∨ (openL b).getD 0 0 = 2) :
 (ok (readN (openL b)) = true ∧ enc (readN (openL b)) = b → decodeE b = 0 ∧ decodeN b = readN (openL b)) ∧ (¬ (ok (readN (openL b)) = true ∧ enc (readN (openL b)) = b) → decodeE b = 21 ∧ decodeN b = ([], [])) := by
 by_cases hc : cnt (openL b) ≤ 3
 · rw [read_told hc h60 hk]
   exact decode_told h64 hE hk
 · have hno : ¬ (ok (readN (openL b)) = true ∧ enc (readN (openL b)) = b) := fun h => by
    have := (ok_iff.1 h.1).few
    simp only [readN, readI, List.length_map, List.length_range] at this
    exact hc this
   refine ⟨fun h => absurd h hno, fun _ => (decode_told h64 hE hk).2 fun h => hc ?_⟩
   have o2 := (open_sealed (body (told (openL b)))).2
   rw [show sealed (body (told (openL b))) = b from h.2] at o2
   have e : (openL b).getD 1 0 = UInt8.ofNat (told (openL b)).1.length := by
    conv => lhs; rw [o2]
    exact (body_head _).2
   have hl := (ok_iff.1 h.1).few
   unfold cnt
   rw [e, UInt8.toNat_ofNat']
   omega
theorem readI_len (b : List UInt8) : (readI b).length = cnt b := by simp [readI]
theorem cnt_lt (b : List UInt8) : cnt b < 256 := by unfold cnt; have := (b.getD 1 0).toNat_lt; simpa using this
end Lf
end Go.Proofs.YtkbmadoaomoojaaGreat
namespace Go.Proofs.YtkbmadoaomoojaaGreat
set_option maxRecDepth 20000
open Go.RowKit
set_option linter.unusedVariables false
theorem isSize_any (n : Int) (w : World) :
 Calls Tryz.prog 141 #[.int .i64 n] w fun e w' => e = .returned (.bool (decide (1 ≤ n ∧ n ≤ 8))) ∧ w = w' := by
 by_cases h1 : 1 ≤ n
 · by_cases h2 : n ≤ 8
   · go_enter Tryz.func141, Tryz.ntmps141
     go_wp2
     go_ret
     exact ⟨by simp [h1, h2], rfl⟩
   · go_enter Tryz.func141, Tryz.ntmps141
     go_wp2
     go_ret
     exact ⟨by simp [h2], rfl⟩
 · go_enter Tryz.func141, Tryz.ntmps141
   go_wp2
   go_ret
   exact ⟨by simp; omega, rfl⟩
set_option maxHeartbeats 400000 in
theorem put_arg (n s : Int) (w : World) (h : ¬ (1 ≤ s ∧ s ≤ 8)) :
 Calls Tryz.prog 127 #[.int .u64 n, .int .i64 s] w fun e w' => e = .returned (.tuple #[.slice none 0 0, .int .i64 1]) ∧ w = w' := by
 have hd : decide (1 ≤ s ∧ s ≤ 8) = false := by simpa using h
 go_enter Tryz.func127, Tryz.ntmps127
 go_wp2_with (go_at_call 141; refine (isSize_any _ _).mono ?_; rintro e w' ⟨rfl, rfl⟩)
 go_ret2
 exact ⟨rfl, rfl⟩
theorem byte_at (n s k : Nat) (hk : k < s) : Value.int .u8 ((n : Int) / 2 ^ (8 * k) % 256) = (cellsOf (Oct.octs n s))[k]'(by simp [cellsOf, Oct.octs_length, hk]) := by
 simp only [cellsOf, List.getElem_map]
 rw [Oct.octs_get_toNat, show (256 : Nat) = 2 ^ 8 from rfl, ← Nat.pow_mul]
 simp
theorem put_step {w wr : World} {n s k : Nat} (hk : k < s)
 (hown : wr.ownsRow w.heap.size 5 1 (.slice (some ⟨w.heap.size, 0, none⟩) s s) s ((cellsOf (Oct.octs n s)).take k ++ List.replicate (s - k) (.int .u8 0))) :
 (wr.setCell ⟨w.heap.size, k, none⟩ (.int .u8 ((n : Int) / 2 ^ (8 * k) % 256))).ownsRow w.heap.size 5 1 (.slice (some ⟨w.heap.size, 0, none⟩) s s) s ((cellsOf (Oct.octs n s)).take (k + 1) ++ List.replicate (s - (k + 1)) (.int .u8 0)) := by
 have h := (hown.stored k (.int .u8 ((n : Int) / 2 ^ (8 * k) % 256))).1
 rw [byte_at n s k hk] at h ⊢
 rw [Oct.set_step _ _ s k (by simp [cellsOf, Oct.octs_length]) hk] at h
 exact h
theorem shr_zero (n s : Nat) (h : n < 256 ^ s) : ((n : Int) / 2 ^ (8 * s) != 0) = false := by
 have : n / 2 ^ (8 * s) = 0 := by rw [Nat.pow_mul]; exact Nat.div_eq_of_lt h
 have e : (n : Int) / 2 ^ (8 * s) = ((n / 2 ^ (8 * s) : Nat) : Int) := by simp
 rw [e, this]; rfl
theorem shr_pos (n s : Nat) (h : 256 ^ s ≤ n) : ((n : Int) / 2 ^ (8 * s) != 0) = true := by
 have h0 : 0 < n / 2 ^ (8 * s) := by rw [Nat.pow_mul]; exact Nat.div_pos h (Nat.pow_pos (by decide))
 have e : (n : Int) / 2 ^ (8 * s) = ((n / 2 ^ (8 * s) : Nat) : Int) := by simp
 rw [e, bne_iff_ne]; omega
set_option maxHeartbeats 400000 in
theorem put_range (n : Nat) (s : Nat) (N S : Int) (hN : N = (n : Int)) (hS : S = (s : Int)) (w : World) (h1 : 1 ≤ s) (h2 : s ≤ 8) (h : 256 ^ s ≤ n) :
 Calls Tryz.prog 127 #[.int .u64 N, .int .i64 S] w fun e w' => e = .returned (.tuple #[.slice none 0 0, .int .i64 4]) ∧ w = w' := by
 subst hN
 subst hS
 have hd : decide (1 ≤ (s : Int) ∧ (s : Int) ≤ 8) = true := by simp; omega
 have hs := shr_pos n s h
 clear h
 go_enter Tryz.func127, Tryz.ntmps127
 go_wp2_with (go_at_call 141; refine (isSize_any _ _).mono ?_; rintro e w' ⟨rfl, rfl⟩)
 go_ret2
 exact ⟨rfl, rfl⟩
set_option maxHeartbeats 400000 in
theorem put_ok (n : Nat) (s : Nat) (N S : Int) (hN : N = (n : Int)) (hS : S = (s : Int)) (w : World) (h1 : 1 ≤ s) (h2 : s ≤ 8) (h : n < 256 ^ s) :
 Calls Tryz.prog 127 #[.int .u64 N, .int .i64 S] w fun e w' => e = .returned (.tuple #[.slice (some ⟨w.heap.size, 0, none⟩) s s, .int .i64 0]) ∧
  w'.ownsRow w.heap.size 5 1 (.slice (some ⟨w.heap.size, 0, none⟩) s s) s (cellsOf (Oct.octs n s)) ∧ Below w.heap.size w w' := by
 subst hN
 subst hS
 have hd : decide (1 ≤ (s : Int) ∧ (s : Int) ≤ 8) = true := by simp; omega
 have hs := shr_zero n s h
 have H : Hid (n < 256 ^ s) := h
 clear h
 obtain ⟨i0, hi, hz0, hz1, hz2⟩ := info_parts info_u8
 go_enter Tryz.func127, Tryz.ntmps127
 go_wp2_with (first | (go_at_call 141; refine (isSize_any _ _).mono ?_; rintro e w' ⟨rfl, rfl⟩) | (at_make; refine wpList_make_full _ rfl _ _ 53 rfl w.heap.size 5 i0 (.int .u8 0) 1 Tryz.underlying53 hi hz0 hz1 _ _ _ _ s rfl rfl rfl rfl ?b2 ?b3 (Nat.le_refl _) ?_))
 case b2 => rw [hz2]; omega
 case b3 => unfold maxLen; omega
 intro w0 hown0 hgrow0
 go_wp2
 go_loopw [7, 21] (fun j i wr => ∃ k : Nat, k ≤ s ∧ i = .int .i64 k ∧
  wr.ownsRow w.heap.size 5 1 (.slice (some ⟨w.heap.size, 0, none⟩) s s) s ((cellsOf (Oct.octs n s)).take k ++ List.replicate (s - k) (.int .u8 0)) ∧ Below w.heap.size w wr)
  (fun _ i _ => s - (intOf i).toNat)
 case atStart =>
  refine ⟨0, Nat.zero_le _, rfl, ?_, (Below.refl _ _).grown hgrow0 (Nat.le_refl _) (fun k h => by cases h)⟩
  simpa [Value.cells, toList_madeCells_one] using hown0
 case round =>
  obtain ⟨k, hk, rfl, hown, hbel⟩ := hrel
  by_cases hlt : k < s
  · have hst := put_step hlt hown
    have hc := hown.cellAt k (by omega)
    have hz : ∃ v, wr.cell? ⟨w.heap.size, k, none⟩ = some v := by
     rw [hc]; exact ⟨_, List.getElem?_eq_getElem (by simp [cellsOf, Oct.octs_length]; omega)⟩
    obtain ⟨v, hv⟩ := hz
    have hf := hown.frozenAt k
    clear hc hown hgrow0 hown0
    go_wp2
    go_roundw
    case rel => exact ⟨k + 1, by omega, by go_num, hst, hbel.setCell (Nat.le_refl _) _⟩
    case measure => simp [intOf]; omega
  · have e : k = s := by omega
    subst e
    go_wp2
    go_ret2
    refine ⟨rfl, ?_, hbel⟩
    rw [List.take_of_length_le (by simp [cellsOf, Oct.octs_length])] at hown
    simpa using hown
theorem or_step (N b : Nat) (hN : N < 72057594037927936) (hb : b < 256) :
 bits BinOp.or IntKind.u64 (IntKind.u64.wrap ((N : Int) * 256)) (IntKind.u64.wrap (b : Int)) = ((256 * N + b : Nat) : Int) := by
 have e1 : IntKind.u64.wrap ((N : Int) * 256) = ((N * 256 : Nat) : Int) := by simp [IntKind.wrap, IntKind.bits, IntKind.signed]; omega
 have e2 : IntKind.u64.wrap (b : Int) = (b : Int) := by simp [IntKind.wrap, IntKind.bits, IntKind.signed]; omega
 have e3 := Oct.or_add N b hb
 rw [e1, e2, u64_or_nat _ _ (by omega) (by omega), e3]
theorem round_num (l : List UInt8) (p s k : Nat) (hk : k ≤ s) (h1 : 1 ≤ k) (hs : s ≤ 8) (h : p + s ≤ l.length) :
 bits BinOp.or IntKind.u64 (IntKind.u64.wrap ((Oct.num (Oct.cut l (p + k) (s - k)) : Nat) * 256)) (IntKind.u64.wrap ((l[p + (k - 1)]'(by omega)).toNat : Int)) = ((Oct.num (Oct.cut l (p + (k - 1)) (s - (k - 1))) : Nat) : Int) := by
 have hb : (l[p + (k - 1)]'(by omega)).toNat < 256 := by have := (l[p + (k - 1)]'(by omega)).toNat_lt; simpa using this
 have hN := Oct.num_cut_lt l (p + k) (s - k) (by omega)
 have hp : 256 ^ (s - k) ≤ 256 ^ 7 := Nat.pow_le_pow_right (by decide) (by omega)
 rw [or_step _ _ (by omega) hb]
 have e := Oct.num_cut_step l (p + (k - 1)) (s - k) (by omega)
 rw [show s - (k - 1) = s - k + 1 from by omega, e, show p + (k - 1) + 1 = p + k from by omega]
set_option maxHeartbeats 400000 in
theorem next_no (w : World) (a : Option Addr) (n c : Nat) (p s : Nat) (S : Int) (hS : S = (s : Int)) (Ba Bb : Nat) (hs1 : 1 ≤ s) (hs : s ≤ 8) (hn : n ≤ maxLen) (hp : p ≤ maxLen)
 (hat : w.cell? ⟨Ba, 0, none⟩ = some (.int .i64 p)) (hb : w.cell? ⟨Bb, 0, none⟩ = some (.slice a n c)) (h : n < p + s) :
 Calls Tryz.prog 149 #[.int .i64 S, .pointer (some ⟨Ba, 0, none⟩), .pointer (some ⟨Bb, 0, none⟩)] w fun e w' =>
  e = .returned (.tuple #[.int .u64 0, .bool false]) ∧ w = w' := by
 subst hS
 unfold maxLen at hn hp
 go_enter Tryz.func149, Tryz.ntmps149
 go_wp2
 go_ret2
 exact ⟨rfl, rfl⟩
set_option maxHeartbeats 400000 in
theorem next_ok (w : World) (a : Option Addr) (n c : Nat) (l : List UInt8) (p s : Nat) (S : Int) (hS : S = (s : Int)) (Ba Bb : Nat) (hs1 : 1 ≤ s) (hs : s ≤ 8) (hn : n ≤ maxLen) (hB : IsB w a n l)
 (hat : w.cell? ⟨Ba, 0, none⟩ = some (.int .i64 p)) (hfr : w.frozen? ⟨Ba, 0, none⟩ = false) (hb : w.cell? ⟨Bb, 0, none⟩ = some (.slice a n c)) (h : p + s ≤ n) :
 Calls Tryz.prog 149 #[.int .i64 S, .pointer (some ⟨Ba, 0, none⟩), .pointer (some ⟨Bb, 0, none⟩)] w fun e w' =>
  e = .returned (.tuple #[.int .u64 (Oct.num (Oct.cut l p s) : Nat), .bool true]) ∧ w.setCell ⟨Ba, 0, none⟩ (.int .i64 ((p + s : Nat) : Int)) = w' := by
 subst hS
 unfold maxLen at hn
 obtain ⟨b, off, rfl, hcell⟩ := hB.place (by omega)
 have hlen : l.length = n := hB.1
 clear hB
 go_enter Tryz.func149, Tryz.ntmps149
 go_wp2
 go_loop [6, 7] (fun v i => ∃ k : Nat, k ≤ s ∧ i = .int .i64 ((k : Int) - 1) ∧ v = .int .u64 (Oct.num (Oct.cut l (p + k) (s - k)) : Nat))
  (fun _ i => (intOf i + 1).toNat)
 case atStart => exact ⟨s, Nat.le_refl _, rfl, by simp [Oct.cut, Oct.num]⟩
 case round =>
  obtain ⟨k, hk, rfl, rfl⟩ := hrel
  by_cases hlt : 1 ≤ k
  · have hc := hcell (p + (k - 1)) (by omega)
    clear hcell
    go_wp2
    go_round
    case rel => exact ⟨k - 1, by omega, by go_num, by rw [round_num l p s k hk hlt hs (by omega)]⟩
    case measure => simp [intOf]; omega
  · have e : k = 0 := by omega
    subst e
    clear hcell
    go_wp2
    go_ret2
    exact ⟨rfl, rfl⟩
theorem two_new (w w1 : World) (o1 o2 : Obj) (v : Value) (h : ((w.alloc o1).alloc o2).setCell ⟨w.heap.size + 1, 0, none⟩ v = w1) : Below w.heap.size w w1 := by
 subst h
 exact (((Below.refl _ _).alloc (Nat.le_refl _) _).alloc (by simp) _).setCell (by simp) _
theorem put_u (n : Nat) (N S : Int) (hN : N = (n : Int)) (w : World) :
 Calls Tryz.prog 127 #[.int .u64 N, .int .i64 S] w fun e w' => ∃ a len c, e = .returned (.tuple #[.slice a len c, .int .i64 (Oct.putE n S)]) ∧
  w'.ownsRow w.heap.size 5 1 (.slice a len c) len (cellsOf (Oct.putL n S)) ∧ Below w.heap.size w w' := by
 rcases Oct.putE_cases n S with ⟨h, e1, e2⟩ | ⟨s, rfl, h1, h2, h3, e1, e2⟩ | ⟨s, rfl, h1, h2, h3, e1, e2⟩
 · rw [e1, e2]
   refine (put_arg N S w h).mono ?_
   rintro e w' ⟨rfl, rfl⟩
   exact ⟨none, 0, 0, rfl, own_nil _ _, Below.refl _ _⟩
 · rw [e1, e2]
   refine (put_range n s N _ hN rfl w h1 h2 h3).mono ?_
   rintro e w' ⟨rfl, rfl⟩
   exact ⟨none, 0, 0, rfl, own_nil _ _, Below.refl _ _⟩
 · rw [e1, e2]
   refine (put_ok n s N _ hN rfl w h1 h2 h3).mono ?_
   rintro e w' ⟨rfl, ho, hb⟩
   exact ⟨_, s, s, rfl, ho, hb⟩
set_option maxHeartbeats 400000 in
theorem get_arg (w : World) (a : Option Addr) (n c : Nat) (P S : Int) (h : ¬ (1 ≤ S ∧ S ≤ 8)) :
 Calls Tryz.prog 136 #[.slice a n c, .int .i64 P, .int .i64 S] w fun e w' => e = .returned (.tuple #[.int .u64 0, .int .i64 1]) ∧ w = w' := by
 have hd : decide (1 ≤ S ∧ S ≤ 8) = false := by simpa using h
 go_enter Tryz.func136, Tryz.ntmps136
 go_wp2_with (go_at_call 141; refine (isSize_any _ _).mono ?_; rintro e w' ⟨rfl, rfl⟩)
 go_ret2
 exact ⟨rfl, rfl⟩
set_option maxHeartbeats 400000 in
theorem get_neg (w : World) (a : Option Addr) (n c : Nat) (P S : Int) (h : 1 ≤ S ∧ S ≤ 8) (hp : P < 0) :
 Calls Tryz.prog 136 #[.slice a n c, .int .i64 P, .int .i64 S] w fun e w' => e = .returned (.tuple #[.int .u64 0, .int .i64 4]) ∧ w = w' := by
 have hd : decide (1 ≤ S ∧ S ≤ 8) = true := by simpa using h
 go_enter Tryz.func136, Tryz.ntmps136
 go_wp2_with (go_at_call 141; refine (isSize_any _ _).mono ?_; rintro e w' ⟨rfl, rfl⟩)
 go_ret2
 exact ⟨rfl, rfl⟩
set_option maxHeartbeats 400000 in
theorem get_short (w : World) (a : Option Addr) (n c : Nat) (p s : Nat) (P S : Int) (hP : P = (p : Int)) (hS : S = (s : Int)) (h1 : 1 ≤ s) (h2 : s ≤ 8) (hn : n ≤ maxLen) (hp : p ≤ maxLen) (h : n < p + s) :
 Calls Tryz.prog 136 #[.slice a n c, .int .i64 P, .int .i64 S] w fun e w' => e = .returned (.tuple #[.int .u64 0, .int .i64 8]) ∧ Below w.heap.size w w' := by
 subst hP
 subst hS
 have hd : decide (1 ≤ (s : Int) ∧ (s : Int) ≤ 8) = true := by simp; omega
 have hn' := hn
 have hp' := hp
 unfold maxLen at hn' hp'
 go_enter Tryz.func136, Tryz.ntmps136
 go_wp2_with (first
  | (go_at_call 141; refine (isSize_any _ _).mono ?_; rintro e w' ⟨rfl, rfl⟩)
  | (go_at_call 149; refine (next_no _ a n c p s _ rfl _ _ h1 h2 hn hp (by simp) (by simp) h).mono ?_; rintro e w1 ⟨rfl, rfl⟩)
  | go_in)
 go_ret2
 exact ⟨rfl, ((Below.refl _ _).alloc (Nat.le_refl _) _).alloc (by simp) _⟩
set_option maxHeartbeats 400000 in
theorem get_ok (w : World) (a : Option Addr) (n c : Nat) (l : List UInt8) (p s : Nat) (P S : Int) (hP : P = (p : Int)) (hS : S = (s : Int)) (h1 : 1 ≤ s) (h2 : s ≤ 8) (hn : n ≤ maxLen) (hB : IsB w a n l) (h : p + s ≤ n) :
 Calls Tryz.prog 136 #[.slice a n c, .int .i64 P, .int .i64 S] w fun e w' => e = .returned (.tuple #[.int .u64 (Oct.num (Oct.cut l p s) : Nat), .int .i64 0]) ∧ Below w.heap.size w w' := by
 subst hP
 subst hS
 have hd : decide (1 ≤ (s : Int) ∧ (s : Int) ≤ 8) = true := by simp; omega
 have hn' := hn
 unfold maxLen at hn'
 go_enter Tryz.func136, Tryz.ntmps136
 go_wp2_with (first
  | (go_at_call 141; refine (isSize_any _ _).mono ?_; rintro e w' ⟨rfl, rfl⟩)
  | (go_at_call 149; refine (next_ok _ a n c l p s _ rfl _ _ h1 h2 hn (hB.below (((Below.refl _ _).alloc (Nat.le_refl _) _).alloc (by simp) _)) (by simp) (by simp) (by simp) h).mono ?_; rintro e w1 ⟨rfl, hw1⟩; have hb1 := two_new _ _ _ _ _ hw1; clear hw1)
  | go_in)
 go_ret2
 exact ⟨rfl, hb1⟩
theorem get_u (w : World) (a : Option Addr) (n c : Nat) (l : List UInt8) (P S : Int) (hP : P ≤ 9223372036854775807) (hn : n ≤ maxLen) (hB : IsB w a n l) :
 Calls Tryz.prog 136 #[.slice a n c, .int .i64 P, .int .i64 S] w fun e w' =>
  e = .returned (.tuple #[.int .u64 (Oct.getV l P S : Nat), .int .i64 (Oct.getE l P S)]) ∧ Below w.heap.size w w' := by
 have hl := hB.1
 rcases Oct.getE_cases l P S with ⟨h, e1, e2⟩ | ⟨h, hp, e1, e2⟩ | ⟨p, s, rfl, rfl, h1, h2, h, e1, e2⟩ | ⟨p, s, rfl, rfl, h1, h2, h, e1, e2⟩
 · rw [e1, e2]
   refine (get_arg w a n c P S h).mono ?_
   rintro e w' ⟨rfl, rfl⟩
   exact ⟨rfl, Below.refl _ _⟩
 · rw [e1, e2]
   refine (get_neg w a n c P S h hp).mono ?_
   rintro e w' ⟨rfl, rfl⟩
   exact ⟨rfl, Below.refl _ _⟩
 · rw [e1, e2]
   refine (get_short w a n c p s _ _ rfl rfl h1 h2 hn (by unfold maxLen; omega) (by omega)).mono ?_
   rintro e w' ⟨rfl, hb⟩
   exact ⟨rfl, hb⟩
 · rw [e1, e2]
   refine (get_ok w a n c l p s _ _ rfl rfl h1 h2 hn hB (by omega)).mono ?_
   rintro e w' ⟨rfl, hb⟩
   exact ⟨rfl, hb⟩
end Go.Proofs.YtkbmadoaomoojaaGreat
