/-
  Facts that the proof rests on, part 9. Conditions: those that each of them names.
-/
import Derived.Deep.DeepCutAuto
import Derived.Deep.RegionWith
import Derived.Laws.EntriesVeiled
import Derived.Maps.Own
import Derived.Test.YtkbmadoaomoojaaGreatT00
import Derived.Test.YtkbmadoaomoojaaGreatT03
import Derived.Test.YtkbmadoaomoojaaGreatT05
import Derived.Test.YtkbmadoaomoojaaGreatT06
import Derived.Test.YtkbmadoaomoojaaGreatT07
namespace Go.Proofs.YtkbmadoaomoojaaGreat
set_option maxHeartbeats 16000000
set_option maxRecDepth 20000
open Go.RowKit
set_option linter.unusedVariables false
def Turn (S : List Nat) (w w' : World) : Prop := Kept (fun b => b < w.heap.size ∧ b ∉ S) w w'
theorem Turn.refl (S : List Nat) (w : World) : Turn S w w := Kept.refl _ _
theorem Turn.trans {S : List Nat} {a b c : World} (h : Turn S a b) (k : Turn S b c) : Turn S a c :=
 ⟨k.os.trans h.os, k.tape.trans h.tape, k.output.trans h.output, zw1 h.size k.size, fun i hi => (k.block i ⟨Nat.lt_of_lt_of_le hi.1 h.size, hi.2⟩).trans (h.block i hi)⟩
theorem Turn.of {S : List Nat} {w w' : World} (h : Below w.heap.size w w') : Turn S w w' := ⟨h.os, h.tape, h.output, h.size, fun i hi => h.block i hi.1⟩
theorem Turn.on {S : List Nat} {a b c : World} (h : Turn S a b) (k : Below b.heap.size b c) : Turn S a c := h.trans (Turn.of k)
theorem Turn.mono {S S' : List Nat} {w w' : World} (h : Turn S w w') (hS : ∀ b ∈ S, b < w.heap.size → b ∈ S') : Turn S' w w' :=
 ⟨h.os, h.tape, h.output, h.size, fun i hi => h.block i ⟨hi.1, fun e => hi.2 (hS i e hi.1)⟩⟩
theorem Turn.set {S : List Nat} {a w : World} (h : Turn S a w) {p : Addr} (hp : a.heap.size ≤ p.block ∨ p.block ∈ S) (u : Value) : Turn S a (w.setCell p u) :=
 Kept.setCell h (fun e => hp.elim (fun h1 => by have := e.1; omega) e.2) u
theorem Turn.drew {S : List Nat} {a w : World} (h : Turn S a w) : Turn S a w.drew := Kept.drew h
theorem Turn.alloc {S : List Nat} {a w : World} (h : Turn S a w) (o : Obj) : Turn S a (w.alloc o) := h.on ((Below.refl _ _).alloc (zw0 _) o)
theorem Turn.below {B : Nat} {S : List Nat} {w w' : World} (h : Turn S w w') (hB : B ≤ w.heap.size) (hS : ∀ b ∈ S, B ≤ b) : Below B w w' :=
 ⟨h.os, h.tape, h.output, h.size, fun i hi => h.block i ⟨Nat.lt_of_lt_of_le hi hB, fun e => by have := hS i e; omega⟩⟩
theorem Turn.rep {α : Type} {A : Rep α} {S : List Nat} {w w' : World} {P : Nat → Prop} {cs : List Value} {x : α} (h : Turn S w w') (hr : A.rd w P cs x) (hP : ∀ b, P b → b < w.heap.size → b ∉ S) : A.rd w' P cs x :=
 Rep.kept hr h (fun b hb hl => ⟨hl, hP b hb hl⟩)
theorem Turn.row {S : List Nat} {w w' : World} {g : Nat} {t : TypeId} {xs : List Value} (h : Turn S w w') (hr : Row w g t xs) (hg : g ∉ S) : Row w' g t xs := hr.keep (h.block g ⟨hr.lt, hg⟩)
def q6Q (n : Nat) : List (Int × Value) → List MapEntry
 | [] => []
 | z :: l => { key := .int .i64 z.1, val := z.2, born := n } :: q6Q (n + 1) l
theorem qLZ : ∀ (n : Nat) (l m : List (Int × Value)), q6Q n (l ++ m) = q6Q n l ++ q6Q (n + l.length) m
 | n, [], m => by simp [q6Q]
 | n, z :: l, m => by
   simp only [List.cons_append, q6Q, List.length_cons]
   rw [qLZ (n + 1) l m, show n + 1 + l.length = n + (l.length + 1) by omega]
theorem q9X : ∀ (n : Nat) (l : List (Int × Value)), (q6Q n l).length = l.length
 | n, [] => rfl
 | n, z :: l => by simp [q6Q, q9X (n + 1) l]
structure IsMet (w : World) (b : Nat) (l : List (Int × Value)) : Prop where
 eq : w.heap[b]? = some (.map (q6Q 0 l).toArray l.length)
theorem IsMet.lt {w : World} {b : Nat} {l : List (Int × Value)} (h : IsMet w b l) : b < w.heap.size := (Array.getElem?_eq_some_iff.1 h.eq).1
theorem IsMet.keep {w w' : World} {b : Nat} {l : List (Int × Value)} (h : IsMet w b l) (hk : w'.heap[b]? = w.heap[b]?) : IsMet w' b l := ⟨hk.trans h.eq⟩
theorem IsMet.turn {S : List Nat} {w w' : World} {b : Nat} {l : List (Int × Value)} (h : IsMet w b l) (k : Turn S w w') (hb : b ∉ S) : IsMet w' b l := h.keep (k.block b ⟨h.lt, hb⟩)
theorem IsMet.below {w w' : World} {b : Nat} {l : List (Int × Value)} (h : IsMet w b l) (k : Below w.heap.size w w') : IsMet w' b l := h.keep (k.block b h.lt)
theorem find_no (p : Int) : ∀ (l : List (Int × Value)) (n i : Nat), (∀ z ∈ l, z.1 ≠ p) → Instr.findNow (.int .i64) (.int .i64 p) (q6Q n l) i = some none
 | [], n, i, _ => rfl
 | z :: l, n, i, h => by
   have hz := h z (by simp)
   unfold q6Q Instr.findNow
   have : Instr.sameNow (.int .i64) (.int .i64 p) (.int .i64 z.1) = some false := by
    simp [Instr.sameNow, Ne.symm hz]
   rw [this]
   exact find_no p l (n + 1) (i + 1) (fun y hy => h y (by simp [hy]))
theorem find_yes (p : Int) : ∀ (l : List (Int × Value)) (n i j : Nat) (v : Value), l[j]? = some (p, v) → (∀ (k : Nat) (z : Int × Value), k < j → l[k]? = some z → z.1 ≠ p) → Instr.findNow (.int .i64) (.int .i64 p) (q6Q n l) i = some (some (i + j, v))
 | [], n, i, j, v, h, _ => by simp at h
 | z :: l, n, i, 0, v, h, _ => by
   simp only [List.getElem?_cons_zero, Option.some.injEq] at h
   subst h
   unfold q6Q Instr.findNow
   simp [Instr.sameNow]
 | z :: l, n, i, j + 1, v, h, hk => by
   have hz := hk 0 z (by omega) rfl
   unfold q6Q Instr.findNow
   have : Instr.sameNow (.int .i64) (.int .i64 p) (.int .i64 z.1) = some false := by
    simp [Instr.sameNow, Ne.symm hz]
   rw [this]
   have := find_yes p l (n + 1) (i + 1) j v (by simpa using h) (fun k y hkj hy => hk (k + 1) y (by omega) (by simpa using hy))
   rw [show i + 1 + j = i + (j + 1) by omega] at this
   exact this
abbrev noNode : Value := .agg #[.slice none 0 0, .slice none 0 0]
theorem look_no {w : World} {b : Nat} {l : List (Int × Value)} (h : IsMet w b l) {p : Int} (hp : ∀ z ∈ l, z.1 ≠ p) (c : Bool) :
 (Instr.lookup 61 (.map (some b)) (.int .i64 p) c).run Tryz.prog w = .ok (if c then .tuple #[noNode, .bool false] else noNode) w := by
 have hf := MapKept.run_findKey (P := Tryz.prog) (w := w) Tryz.underlying3 (find_no p l 0 0 hp)
 have hc : ∀ e : Bool, (Instr.checkKey e 10000 3 (.int .i64 p)).run Tryz.prog w = .ok () w := fun e => MapKept.run_checkKey Tryz.underlying3 (by simp [MapKept.IsKey]) e 9999
 simp [Instr.lookup, run_underlying Tryz.underlying61, MapKept.run_getObj_map h.eq, Result.andThen, hc, hf]
theorem look_yes {w : World} {b : Nat} {l : List (Int × Value)} (h : IsMet w b l) {p : Int} {v : Value} (hm : (p, v) ∈ l) (hn : (l.map Prod.fst).Nodup) (c : Bool) :
 (Instr.lookup 61 (.map (some b)) (.int .i64 p) c).run Tryz.prog w = .ok (if c then .tuple #[v, .bool true] else v) w := by
 obtain ⟨j, hj, e⟩ := List.getElem_of_mem hm
 have hf := MapKept.run_findKey (P := Tryz.prog) (w := w) Tryz.underlying3 (find_yes p l 0 0 j v (by rw [zw3 hj, e]) (fun k z hkj hz ez => by
  obtain ⟨hk, ek⟩ := List.getElem?_eq_some_iff.1 hz
  have hp := List.pairwise_iff_getElem.1 hn k j (by simpa using hk) (by simpa using hj) hkj
  apply hp
  simp only [List.getElem_map]
  rw [ek, e, ez]))
 have hc : ∀ e : Bool, (Instr.checkKey e 10000 3 (.int .i64 p)).run Tryz.prog w = .ok () w := fun e => MapKept.run_checkKey Tryz.underlying3 (by simp [MapKept.IsKey]) e 9999
 simp [Instr.lookup, run_underlying Tryz.underlying61, MapKept.run_getObj_map h.eq, Result.andThen, hc, hf]
theorem store_new {w : World} {b : Nat} {l : List (Int × Value)} (h : IsMet w b l) {p : Int} (hp : ∀ z ∈ l, z.1 ≠ p) (v : Value) :
 ∃ w', (Instr.mapUpdate 61 (.map (some b)) (.int .i64 p) v).run Tryz.prog w = .ok () w' ∧ IsMet w' b (l ++ [(p, v)]) ∧ Kept (· ≠ b) w w' ∧ w'.heap.size = w.heap.size := by
 have hf := MapKept.run_findKey (P := Tryz.prog) (w := w) Tryz.underlying3 (find_no p l 0 0 hp)
 have hc : ∀ e : Bool, (Instr.checkKey e 10000 3 (.int .i64 p)).run Tryz.prog w = .ok () w := fun e => MapKept.run_checkKey Tryz.underlying3 (by simp [MapKept.IsKey]) e 9999
 refine ⟨{ w with heap := w.heap.setIfInBounds b (.map (q6Q 0 (l ++ [(p, v)])).toArray (l ++ [(p, v)]).length) }, ?_, ⟨?_⟩, ⟨rfl, rfl, rfl, by simp, fun k hk => ?_⟩, by simp⟩
 · simp [Instr.mapUpdate, run_underlying Tryz.underlying61, MapKept.run_getObj_map h.eq, Result.andThen, hc, hf, MapKept.run_setObj_map _ h.eq, qLZ, q6Q]
 · exact (MapKept.heap_set h.eq).1
 · exact (MapKept.heap_set h.eq).2 k hk
theorem met_new (w : World) : IsMet (w.alloc (.map #[] 0)) w.heap.size [] := ⟨(MapKept.heap_alloc w _).1⟩
abbrev faultV (e : Int) : Value := .iface 124 (.agg #[.int .i64 e])
abbrev q9Q (e : Int) : Ending := .panicked [{ v := faultV e, recovered := false }]
theorem q4Q (w : World) : Calls Tryz.prog 64 #[.bool true] w fun e w' => e = .returned (.tuple #[]) ∧ w' = w := by
 go_enter Tryz.func64, Tryz.ntmps64
 go_wp2
 go_end0
 exact ⟨rfl, rfl⟩
theorem q6z (w : World) : Calls Tryz.prog 64 #[.bool false] w fun e w' => e = q9Q 9 ∧ w' = w := by
 go_enter Tryz.func64, Tryz.ntmps64
 go_wp2
 exact ⟨rfl, rfl, rfl⟩
theorem q4z (w : World) (u : Value) (a' : Option Addr) (n' c' : Nat) :
 Calls Tryz.prog 47 #[.agg #[u, .slice a' n' c']] w fun e w' => e = .returned (.bool (decide ((n' : Int) = 0))) ∧ Below w.heap.size w w' := by
 obtain ⟨w0, hw0, V0, b0, z0⟩ := q0q w 63 [u, .slice a' n' c']
 obtain ⟨r0, r1⟩ := V0.two
 have B0 : Hid _ := b0
 clear V0 b0 z0
 go_enter Tryz.func47, Tryz.ntmps47
 go_wp2
 go_ret
 exact ⟨rfl, B0.out⟩
def q5x (l : List Bool) : List Value := l.map Value.bool
def IsBnd (w : World) (v : Value) : Bnd → Prop
 | none => v = .slice none 0 0
 | some k => ∃ q, v = .slice (some ⟨q, 0, none⟩) 1 1 ∧ Row w q 39 [.int .u64 (k.toNat : Int)]
theorem IsBnd.keep {w w' : World} {v : Value} {b : Bnd} (h : IsBnd w v b) (hk : ∀ q, v.ownBlock = some q → w'.heap[q]? = w.heap[q]?) : IsBnd w' v b := by
 cases b with
 | none => exact h
 | some k =>
   obtain ⟨q, rfl, hr⟩ := h
   exact ⟨q, rfl, hr.keep (hk q rfl)⟩
theorem IsBnd.lt {w : World} {v : Value} {b : Bnd} (h : IsBnd w v b) : ∀ q, v.ownBlock = some q → q < w.heap.size := by
 intro q hq
 cases b with
 | none => rw [show v = .slice none 0 0 from h] at hq; cases hq
 | some k =>
   obtain ⟨q', rfl, hr⟩ := h
   cases hq
   exact hr.lt
def metN (l : List Bool) : Nat := (l.filter id).length
theorem metN_le (l : List Bool) : metN l ≤ l.length := List.length_filter_le _ _
theorem qMQ : ∀ (l : List Bool) (i : Nat), i < l.length → l.getD i false = false → metN (l.set i true) = metN l + 1
 | x :: l, 0, _, h => by
   have hx : x = false := h
   subst hx
   simp [metN]
 | x :: l, i + 1, hi, h => by
   have ih := qMQ l i (by simpa using hi) (by simpa [List.getD] using h)
   unfold metN at ih ⊢
   rw [List.set_cons_succ, List.filter_cons, List.filter_cons]
   cases x
   · simpa using ih
   · simpa using ih
structure Walks (w : World) (g gm : Nat) (P : Nat → Prop) (pa : Option Addr) (pc : Nat) (oa : Option Addr) (on_ oc : Nat) (base : Nat) (s : Pgs) (k : Tr.Wk) : Prop where
 row : Row w g 121 [.slice pa s.length pc, .slice (some ⟨gm, 0, none⟩) s.length s.length, .slice oa on_ oc, .int .i64 (k.leaf : Int), .bool k.bad]
 pages : rSectors.rd w P [.slice pa s.length pc] s
 met : Row w gm 4 (q5x k.met)
 len : k.met.length = s.length
 out : OwnI 45 w base (.slice oa on_ oc) k.out
 few : k.out.length ≤ 3 * metN k.met
structure qTj (P : Nat → Prop) (B g gm base : Nat) : Prop where
 pages : ∀ b, P b → b < B
 atG : B ≤ g
 atM : B ≤ gm
 atO : B ≤ base
 ne : g ≠ gm
 gb : g < base
 gmb : gm < base
def Quiet (g gm : Nat) (oa : Option Addr) (on_ oc : Nat) (w w' : World) : Prop := Kept (fun b => b < w.heap.size ∧ b ≠ g ∧ b ≠ gm ∧ (Value.slice oa on_ oc).ownBlock ≠ some b) w w'
theorem Walks.five {w : World} {g gm : Nat} {P : Nat → Prop} {pa oa : Option Addr} {pc on_ oc base : Nat} {s : Pgs} {k : Tr.Wk} (h : Walks w g gm P pa pc oa on_ oc base s k) :
 w.cell? ⟨g, 0, none⟩ = some (.slice pa s.length pc) ∧ w.cell? ⟨g, 1, none⟩ = some (.slice (some ⟨gm, 0, none⟩) s.length s.length) ∧ w.cell? ⟨g, 2, none⟩ = some (.slice oa on_ oc) ∧ w.cell? ⟨g, 3, none⟩ = some (.int .i64 (k.leaf : Int)) ∧ w.cell? ⟨g, 4, none⟩ = some (.bool k.bad) :=
 ⟨h.row.cell rfl, h.row.cell rfl, h.row.cell rfl, h.row.cell rfl, h.row.cell rfl⟩
theorem Walks.ownLt {w : World} {g gm : Nat} {P : Nat → Prop} {pa oa : Option Addr} {pc on_ oc base : Nat} {s : Pgs} {k : Tr.Wk} (h : Walks w g gm P pa pc oa on_ oc base s k) : ∀ q, (Value.slice oa on_ oc).ownBlock = some q → base ≤ q ∧ q < w.heap.size := h.out.row.lt
theorem Walks.below {w w' : World} {g gm : Nat} {P : Nat → Prop} {pa oa : Option Addr} {pc on_ oc base : Nat} {s : Pgs} {k : Tr.Wk} (h : Walks w g gm P pa pc oa on_ oc base s k) (b : Below w.heap.size w w') : Walks w' g gm P pa pc oa on_ oc base s k :=
 ⟨h.row.below b, Rep.below h.pages b, h.met.below b, h.len, h.out.below b, h.few⟩
theorem Walks.setBad {w : World} {B g gm : Nat} {P : Nat → Prop} {pa oa : Option Addr} {pc on_ oc base : Nat} {s : Pgs} {k : Tr.Wk} (h : Walks w g gm P pa pc oa on_ oc base s k) (a : qTj P B g gm base) (x : Bool) :
 Walks (w.setCell ⟨g, 4, none⟩ (.bool x)) g gm P pa pc oa on_ oc base s { k with bad := x } :=
 ⟨h.row.set 4 (.bool x), rSectors.keep h.pages (fun b hb hl => Below.heap_setCell _ _ _ _ (by have := a.pages b hb; have := a.atG; show b ≠ g; omega)), h.met.setO (p := ⟨g, 4, none⟩) a.ne _, h.len, h.out.setB (p := ⟨g, 4, none⟩) a.gb _, h.few⟩
end Go.Proofs.YtkbmadoaomoojaaGreat
namespace Go.Proofs.YtkbmadoaomoojaaGreat.Oct
def qCQ (S : Int) : Bool := decide (1 ≤ S ∧ S ≤ 8)
def putE (n : Nat) (S : Int) : Int := if qCQ S = false then 1 else if 256 ^ S.toNat ≤ n then 4 else 0
def putL (n : Nat) (S : Int) : List UInt8 := if putE n S = 0 then octs n S.toNat else []
def getE (l : List UInt8) (P S : Int) : Int := if qCQ S = false then 1 else if P < 0 then 4 else if l.length < P.toNat + S.toNat then 8 else 0
def getV (l : List UInt8) (P S : Int) : Nat := if getE l P S = 0 then num (cut l P.toNat S.toNat) else 0
def qGJ (l : List UInt8) (P : Int) : Nat := (l.getD P.toNat 0).toNat
def readE (l : List UInt8) (P : Int) : Int := if P < 0 then 4 else if l.length < P.toNat + 1 then 8 else if l.length < P.toNat + 1 + qGJ l P then 8 else 0
def readN (l : List UInt8) (P : Int) : Nat := if readE l P = 0 then P.toNat + 1 + qGJ l P else 0
theorem putE_arg {n : Nat} {S : Int} (h : ¬ (1 ≤ S ∧ S ≤ 8)) : putE n S = 1 := by
 have : qCQ S = false := by simpa [qCQ] using h
 simp [putE, this]
theorem putE_range {n s : Nat} (h1 : 1 ≤ s) (h2 : s ≤ 8) (h : 256 ^ s ≤ n) : putE n s = 4 := by
 have : qCQ s = true := by simp [qCQ]; omega
 simp [putE, this, h]
theorem putE_ok {n s : Nat} (h1 : 1 ≤ s) (h2 : s ≤ 8) (h : n < 256 ^ s) : putE n s = 0 := by
 have : qCQ s = true := by simp [qCQ]; omega
 simp [putE, this]; omega
theorem putL_ok {n s : Nat} (h1 : 1 ≤ s) (h2 : s ≤ 8) (h : n < 256 ^ s) : putL n s = octs n s := by
 simp [putL, putE_ok h1 h2 h]
theorem putE_cases (n : Nat) (S : Int) :
 (¬ (1 ≤ S ∧ S ≤ 8) ∧ putE n S = 1 ∧ putL n S = []) ∨ (∃ s : Nat, S = s ∧ 1 ≤ s ∧ s ≤ 8 ∧ 256 ^ s ≤ n ∧ putE n S = 4 ∧ putL n S = []) ∨
 (∃ s : Nat, S = s ∧ 1 ≤ s ∧ s ≤ 8 ∧ n < 256 ^ s ∧ putE n S = 0 ∧ putL n S = octs n s) := by
 by_cases h : 1 ≤ S ∧ S ≤ 8
 · obtain ⟨s, rfl⟩ := Int.eq_ofNat_of_zero_le (show 0 ≤ S by omega)
   have h1 : 1 ≤ s := by omega
   have h2 : s ≤ 8 := by omega
   by_cases h3 : n < 256 ^ s
   · exact .inr (.inr ⟨s, rfl, h1, h2, h3, putE_ok h1 h2 h3, putL_ok h1 h2 h3⟩)
   · exact .inr (.inl ⟨s, rfl, h1, h2, by omega, putE_range h1 h2 (by omega), by simp [putL, putE_range h1 h2 (show 256 ^ s ≤ n by omega)]⟩)
 · exact .inl ⟨h, putE_arg h, by simp [putL, putE_arg h]⟩
theorem getE_cases (l : List UInt8) (P S : Int) :
 (¬ (1 ≤ S ∧ S ≤ 8) ∧ getE l P S = 1 ∧ getV l P S = 0) ∨ ((1 ≤ S ∧ S ≤ 8) ∧ P < 0 ∧ getE l P S = 4 ∧ getV l P S = 0) ∨
 (∃ p s : Nat, P = p ∧ S = s ∧ 1 ≤ s ∧ s ≤ 8 ∧ l.length < p + s ∧ getE l P S = 8 ∧ getV l P S = 0) ∨
 (∃ p s : Nat, P = p ∧ S = s ∧ 1 ≤ s ∧ s ≤ 8 ∧ p + s ≤ l.length ∧ getE l P S = 0 ∧ getV l P S = num (cut l p s)) := by
 by_cases h : 1 ≤ S ∧ S ≤ 8
 · have hs : qCQ S = true := by simpa [qCQ] using h
   by_cases hp : P < 0
   · have : getE l P S = 4 := by simp [getE, hs, hp]
     exact .inr (.inl ⟨h, hp, this, by simp [getV, this]⟩)
   · obtain ⟨s, rfl⟩ := Int.eq_ofNat_of_zero_le (show 0 ≤ S by omega)
     obtain ⟨p, rfl⟩ := Int.eq_ofNat_of_zero_le (show 0 ≤ P by omega)
     by_cases h3 : l.length < p + s
     · have : getE l p s = 8 := by simp [getE, hs, h3]
       exact .inr (.inr (.inl ⟨p, s, rfl, rfl, by omega, by omega, h3, this, by simp [getV, this]⟩))
     · have : getE l p s = 0 := by simp [getE, hs]; omega
       exact .inr (.inr (.inr ⟨p, s, rfl, rfl, by omega, by omega, by omega, this, by simp [getV, this]⟩))
 · have hs : qCQ S = false := by simpa [qCQ] using h
   have : getE l P S = 1 := by simp [getE, hs]
   exact .inl ⟨h, this, by simp [getV, this]⟩
theorem octs_snoc (n s : Nat) : octs n (s + 1) = octs n s ++ [UInt8.ofNat (n / 256 ^ s)] := by
 induction s generalizing n with
 | zero => simp [octs]
 | succ s ih =>
   rw [octs, ih (n / 256), octs, List.cons_append, Nat.div_div_eq_div_mul, Nat.pow_succ, Nat.mul_comm]
theorem div_step (n k : Nat) : n / 256 ^ k / 256 = n / 256 ^ (k + 1) := by rw [Nat.div_div_eq_div_mul, Nat.pow_succ]
end Go.Proofs.YtkbmadoaomoojaaGreat.Oct
namespace Go.Proofs.YtkbmadoaomoojaaGreat
set_option maxHeartbeats 16000000
set_option maxRecDepth 20000
set_option linter.unusedVariables false
namespace Lf
open Oct Crc
def itemsB (l : List Itm) : Bool := decide (1 ≤ l.length) && decide (l.length ≤ 3) && rise l
def kidsB (n : Nod) : Bool := decide (n.2.length = n.1.length + 1) && n.1.all (fun x => decide (x.2 = 0)) && (n.2.all (fun k => decide (1 ≤ k) && decide (k ≤ 2048)) && apart n.2)
theorem ok_parts (n : Nod) : ok n = (itemsB n.1 && (isLeaf n || kidsB n)) := by
 unfold ok itemsB kidsB
 cases h : isLeaf n
 · simp only [Bool.false_or]
   cases decide (1 ≤ n.1.length) <;> cases decide (n.1.length ≤ 3) <;> cases decide (n.2.length = n.1.length + 1) <;> cases rise n.1 <;> cases (n.1.all fun x => decide (x.2 = 0)) <;> cases (n.2.all fun k => decide (1 ≤ k) && decide (k ≤ 2048)) <;> cases apart n.2 <;> rfl
 · have e : n.2 = [] := List.isEmpty_iff.1 h
   rw [e]
   simp [apart]
def heads (n : Nod) : List UInt8 := octs (kind n).toNat 1 ++ octs n.1.length 1 ++ octs 0 2
theorem heads_eq {n : Nod} (h : n.1.length ≤ 3) : heads n = head n := by
 unfold heads head
 have hk : kind n = 1 ∨ kind n = 2 := by unfold kind; split <;> simp
 have hl : n.1.length = 0 ∨ n.1.length = 1 ∨ n.1.length = 2 ∨ n.1.length = 3 := by omega
 rcases hk with e | e <;> rw [e] <;> rcases hl with e2 | e2 | e2 | e2 <;> rw [e2] <;> decide
theorem front_put {n : Nod} (h : n.1.length ≤ 3) : front n = heads n ++ n.1.flatMap key8 ++ (if isLeaf n then n.1.flatMap val8 else []) ++ n.2.flatMap kid4 := by
 unfold front rest
 rw [heads_eq h]
 cases hl : isLeaf n
 · simp
 · have e : n.2 = [] := List.isEmpty_iff.1 hl
   simp [e]
theorem flat_next {α : Type} (f : α → List UInt8) {l : List α} {k : Nat} (h : k < l.length) : (l.take (k + 1)).flatMap f = (l.take k).flatMap f ++ f l[k] := by
 rw [List.take_succ_eq_append_getElem h, List.flatMap_append, List.flatMap_cons, List.flatMap_nil, List.append_nil]
def getN (b : List UInt8) (p s : Nat) : Nat := getV b (p : Int) (s : Int)
def cnt (b : List UInt8) : Nat := (b.getD 1 0).toNat
def keyR (b : List UInt8) (i : Nat) : UInt64 := UInt64.ofNat (getN b (4 + 8 * i) 8)
def valR (b : List UInt8) (i : Nat) : UInt64 := UInt64.ofNat (getN b (4 + 8 * cnt b + 8 * i) 8)
def kidR (b : List UInt8) (i : Nat) : Int := (getN b (4 + 8 * cnt b + 4 * i) 4 : Nat)
def readI (b : List UInt8) : List Itm := (List.range (cnt b)).map (fun i => (keyR b i, if b.getD 0 0 = 1 then valR b i else 0))
def readK (b : List UInt8) : List Int := if b.getD 0 0 = 2 then (List.range (cnt b + 1)).map (kidR b) else []
def readN (b : List UInt8) : Nod := (readI b, readK b)
theorem qQZ {b : List UInt8} {p s : Nat} (h1 : 1 ≤ s) (h2 : s ≤ 8) (h : p + s ≤ b.length) : getN b p s = num (cut b p s) := by
 unfold getN
 rcases getE_cases b (p : Int) (s : Int) with ⟨h', -, e⟩ | ⟨-, h', -, e⟩ | ⟨p', s', e1, e2, -, -, h', -, e⟩ | ⟨p', s', e1, e2, -, -, h', -, e⟩
 · omega
 · omega
 · omega
 · rw [e]
   obtain rfl : p' = p := by omega
   obtain rfl : s' = s := by omega
   rfl
theorem getN_lt (b : List UInt8) (p s : Nat) (h1 : 1 ≤ s) (h2 : s ≤ 8) : getN b p s < 256 ^ s := by
 by_cases h : p + s ≤ b.length
 · rw [qQZ h1 h2 h]
   exact num_cut_lt b p s h
 · unfold getN
   rcases getE_cases b (p : Int) (s : Int) with ⟨h', -, e⟩ | ⟨-, h', -, e⟩ | ⟨p', s', e1, e2, -, -, h', -, e⟩ | ⟨p', s', e1, e2, -, -, h', -, e⟩
   · omega
   · omega
   · rw [e]; exact Nat.pow_pos (by decide)
   · omega
theorem read_told {b : List UInt8} (h : cnt b ≤ 3) (hb : b.length = 60) (hk : b.getD 0 0 = 1 ∨ b.getD 0 0 = 2) : readN b = told b := by
 have hm : many b = cnt b := by unfold many; unfold cnt at h ⊢; omega
 have e1 : ∀ i, i < cnt b → keyR b i = keyAt b i := fun i hi => by
  unfold keyR keyAt
  rw [qQZ (by decide) (by decide) (by omega)]
 refine Prod.ext ?_ ?_
 · show readI b = (List.range (many b)).map _
   unfold readI
   rw [hm]
   refine List.map_congr_left fun i hi => ?_
   have hi := List.mem_range.1 hi
   refine Prod.ext (e1 i hi) ?_
   show (if b.getD 0 0 = 1 then valR b i else 0) = valAt b i
   unfold valAt valR
   rw [hm, qQZ (by decide) (by decide) (by omega)]
 · show readK b = if b.getD 0 0 = 2 then (List.range (many b + 1)).map (kidAt b) else []
   unfold readK
   rw [hm]
   split
   · refine List.map_congr_left fun i hi => ?_
     have hi := List.mem_range.1 hi
     unfold kidR kidAt
     rw [hm, qQZ (by decide) (by decide) (by omega)]
   · rfl
theorem decode_kind {b : List UInt8} (h64 : b.length = 64) (hE : openE b = 0) (hk : ¬ ((openL b).getD 0 0 = 1 ∨ (openL b).getD 0 0 = 2)) : decodeE b = 22 ∧ decodeN b = ([], []) := by
 have e : decodeE b = 22 := by unfold decodeE; rw [if_pos h64, if_pos hE, if_neg hk]
 exact ⟨e, by unfold decodeN; rw [e]; rfl⟩
theorem decode_told {b : List UInt8} (h64 : b.length = 64) (hE : openE b = 0) (hk : (openL b).getD 0 0 = 1 ∨ (openL b).getD 0 0 = 2) :
 (ok (told (openL b)) = true ∧ enc (told (openL b)) = b → decodeE b = 0 ∧ decodeN b = told (openL b)) ∧ (¬ (ok (told (openL b)) = true ∧ enc (told (openL b)) = b) → decodeE b = 21 ∧ decodeN b = ([], [])) := by
 constructor
 · intro h
   have e : decodeE b = 0 := by unfold decodeE; rw [if_pos h64, if_pos hE, if_pos hk, if_pos h]
   exact ⟨e, by unfold decodeN; rw [e]; rfl⟩
 · intro h
   have e : decodeE b = 21 := by unfold decodeE; rw [if_pos h64, if_pos hE, if_pos hk, if_neg h]
   exact ⟨e, by unfold decodeN; rw [e]; rfl⟩
theorem decode_read {b : List UInt8} (h64 : b.length = 64) (hE : openE b = 0) (h60 : (openL b).length = 60) (hk : (openL b).getD 0 0 = 1 ∨ (openL b).getD 0 0 = 2) :
 (ok (readN (openL b)) = true ∧ enc (readN (openL b)) = b → decodeE b = 0 ∧ decodeN b = readN (openL b)) ∧ (¬ (ok (readN (openL b)) = true ∧ enc (readN (openL b)) = b) → decodeE b = 21 ∧ decodeN b = ([], [])) := by
 by_cases hc : cnt (openL b) ≤ 3
 · rw [read_told hc h60 hk]
   exact decode_told h64 hE hk
 · have hno : ¬ (ok (readN (openL b)) = true ∧ enc (readN (openL b)) = b) := fun h => by
    have := (ok_iff.1 h.1).few
    simp only [readN, readI, List.length_map, List.length_range] at this
    exact hc this
   refine ⟨fun h => absurd h hno, fun _ => (decode_told h64 hE hk).2 fun h => hc ?_⟩
   have o2 := (qPx (body (told (openL b)))).2
   rw [show sealed (body (told (openL b))) = b from h.2] at o2
   have e : (openL b).getD 1 0 = UInt8.ofNat (told (openL b)).1.length := by
    conv => lhs; rw [o2]
    exact (qJJ _).2
   have hl := (ok_iff.1 h.1).few
   unfold cnt
   rw [e, UInt8.toNat_ofNat']
   omega
theorem readI_len (b : List UInt8) : (readI b).length = cnt b := by simp [readI]
theorem cnt_lt (b : List UInt8) : cnt b < 256 := by unfold cnt; have := (b.getD 1 0).toNat_lt; simpa using this
end Lf
open Go.RowKit
theorem q6Z (n : Int) (w : World) :
 Calls Tryz.prog 141 #[.int .i64 n] w fun e w' => e = .returned (.bool (decide (1 ≤ n ∧ n ≤ 8))) ∧ w = w' := by
 by_cases h1 : 1 ≤ n
 · by_cases h2 : n ≤ 8
   · go_enter Tryz.func141, Tryz.ntmps141
     go_wp2
     go_ret
     exact ⟨by simp [h1, h2], rfl⟩
   · go_enter Tryz.func141, Tryz.ntmps141
     go_wp2
     go_ret
     exact ⟨by simp [h2], rfl⟩
 · go_enter Tryz.func141, Tryz.ntmps141
   go_wp2
   go_ret
   exact ⟨by simp; omega, rfl⟩
theorem put_arg (n s : Int) (w : World) (h : ¬ (1 ≤ s ∧ s ≤ 8)) :
 Calls Tryz.prog 127 #[.int .u64 n, .int .i64 s] w fun e w' => e = .returned (.tuple #[.slice none 0 0, .int .i64 1]) ∧ w = w' := by
 have hd : decide (1 ≤ s ∧ s ≤ 8) = false := by simpa using h
 go_enter Tryz.func127, Tryz.ntmps127
 go_wp2_with (go_at_call 141; refine (q6Z _ _).mono ?_; rintro e w' ⟨rfl, rfl⟩)
 go_ret2
 exact ⟨rfl, rfl⟩
theorem byte_at (n s k : Nat) (hk : k < s) : Value.int .u8 ((n : Int) / 2 ^ (8 * k) % 256) = (cellsOf (Oct.octs n s))[k]'(by simp [cellsOf, Oct.octs_length, hk]) := by
 simp only [cellsOf, List.getElem_map]
 rw [Oct.octs_get_toNat, show (256 : Nat) = 2 ^ 8 from rfl, ← Nat.pow_mul]
 simp
theorem put_step {w wr : World} {n s k : Nat} (hk : k < s)
 (hown : wr.ownsRow w.heap.size 5 1 (.slice (some ⟨w.heap.size, 0, none⟩) s s) s ((cellsOf (Oct.octs n s)).take k ++ List.replicate (s - k) (.int .u8 0))) :
 (wr.setCell ⟨w.heap.size, k, none⟩ (.int .u8 ((n : Int) / 2 ^ (8 * k) % 256))).ownsRow w.heap.size 5 1 (.slice (some ⟨w.heap.size, 0, none⟩) s s) s ((cellsOf (Oct.octs n s)).take (k + 1) ++ List.replicate (s - (k + 1)) (.int .u8 0)) := by
 have h := (hown.stored k (.int .u8 ((n : Int) / 2 ^ (8 * k) % 256))).1
 rw [byte_at n s k hk] at h ⊢
 rw [Oct.set_step _ _ s k (by simp [cellsOf, Oct.octs_length]) hk] at h
 exact h
theorem shr_zero (n s : Nat) (h : n < 256 ^ s) : ((n : Int) / 2 ^ (8 * s) != 0) = false := by
 have : n / 2 ^ (8 * s) = 0 := by rw [Nat.pow_mul]; exact Nat.div_eq_of_lt h
 have e : (n : Int) / 2 ^ (8 * s) = ((n / 2 ^ (8 * s) : Nat) : Int) := by simp
 rw [e, this]; rfl
theorem shr_pos (n s : Nat) (h : 256 ^ s ≤ n) : ((n : Int) / 2 ^ (8 * s) != 0) = true := by
 have h0 : 0 < n / 2 ^ (8 * s) := by rw [Nat.pow_mul]; exact Nat.div_pos h (Nat.pow_pos (by decide))
 have e : (n : Int) / 2 ^ (8 * s) = ((n / 2 ^ (8 * s) : Nat) : Int) := by simp
 rw [e, bne_iff_ne]; omega
theorem put_range (n : Nat) (s : Nat) (N S : Int) (hN : N = (n : Int)) (hS : S = (s : Int)) (w : World) (h1 : 1 ≤ s) (h2 : s ≤ 8) (h : 256 ^ s ≤ n) :
 Calls Tryz.prog 127 #[.int .u64 N, .int .i64 S] w fun e w' => e = .returned (.tuple #[.slice none 0 0, .int .i64 4]) ∧ w = w' := by
 subst hN
 subst hS
 have hd : decide (1 ≤ (s : Int) ∧ (s : Int) ≤ 8) = true := by simp; omega
 have hs := shr_pos n s h
 clear h
 go_enter Tryz.func127, Tryz.ntmps127
 go_wp2_with (go_at_call 141; refine (q6Z _ _).mono ?_; rintro e w' ⟨rfl, rfl⟩)
 go_ret2
 exact ⟨rfl, rfl⟩
theorem put_ok (n : Nat) (s : Nat) (N S : Int) (hN : N = (n : Int)) (hS : S = (s : Int)) (w : World) (h1 : 1 ≤ s) (h2 : s ≤ 8) (h : n < 256 ^ s) :
 Calls Tryz.prog 127 #[.int .u64 N, .int .i64 S] w fun e w' => e = .returned (.tuple #[.slice (some ⟨w.heap.size, 0, none⟩) s s, .int .i64 0]) ∧
  w'.ownsRow w.heap.size 5 1 (.slice (some ⟨w.heap.size, 0, none⟩) s s) s (cellsOf (Oct.octs n s)) ∧ Below w.heap.size w w' := by
 subst hN
 subst hS
 have hd : decide (1 ≤ (s : Int) ∧ (s : Int) ≤ 8) = true := by simp; omega
 have hs := shr_zero n s h
 have H : Hid (n < 256 ^ s) := h
 clear h
 obtain ⟨i0, hi, hz0, hz1, hz2⟩ := info_parts qAZ
 go_enter Tryz.func127, Tryz.ntmps127
 go_wp2_with (first | (go_at_call 141; refine (q6Z _ _).mono ?_; rintro e w' ⟨rfl, rfl⟩) | (at_make; refine wpList_make_full _ rfl _ _ 53 rfl w.heap.size 5 i0 (.int .u8 0) 1 Tryz.underlying53 hi hz0 hz1 _ _ _ _ s rfl rfl rfl rfl ?b2 ?b3 (zw0 _) ?_))
 case b2 => rw [hz2]; omega
 case b3 => unfold maxLen; omega
 intro w0 hown0 hgrow0
 go_wp2
 go_loopw [7, 21] (fun j i wr => ∃ k : Nat, k ≤ s ∧ i = .int .i64 k ∧
  wr.ownsRow w.heap.size 5 1 (.slice (some ⟨w.heap.size, 0, none⟩) s s) s ((cellsOf (Oct.octs n s)).take k ++ List.replicate (s - k) (.int .u8 0)) ∧ Below w.heap.size w wr)
  (fun _ i _ => s - (intOf i).toNat)
 case atStart =>
  refine ⟨0, Nat.zero_le _, rfl, ?_, (Below.refl _ _).grown hgrow0 (zw0 _) (fun k h => by cases h)⟩
  simpa [Value.cells, toList_madeCells_one] using hown0
 case round =>
  obtain ⟨k, hk, rfl, hown, hbel⟩ := hrel
  by_cases hlt : k < s
  · have hst := put_step hlt hown
    have hc := hown.cellAt k (by omega)
    have hz : ∃ v, wr.cell? ⟨w.heap.size, k, none⟩ = some v := by
     rw [hc]; exact ⟨_, zw3 (by simp [cellsOf, Oct.octs_length]; omega)⟩
    obtain ⟨v, hv⟩ := hz
    have hf := hown.frozenAt k
    clear hc hown hgrow0 hown0
    go_wp2
    go_roundw
    case rel => exact ⟨k + 1, by omega, by go_num, hst, hbel.setCell (zw0 _) _⟩
    case measure => simp [intOf]; omega
  · have e : k = s := by omega
    subst e
    go_wp2
    go_ret2
    refine ⟨rfl, ?_, hbel⟩
    rw [List.take_of_length_le (by simp [cellsOf, Oct.octs_length])] at hown
    simpa using hown
theorem or_step (N b : Nat) (hN : N < 72057594037927936) (hb : b < 256) :
 bits BinOp.or IntKind.u64 (IntKind.u64.wrap ((N : Int) * 256)) (IntKind.u64.wrap (b : Int)) = ((256 * N + b : Nat) : Int) := by
 have e1 : IntKind.u64.wrap ((N : Int) * 256) = ((N * 256 : Nat) : Int) := by simp [IntKind.wrap, IntKind.bits, IntKind.signed]; omega
 have e2 : IntKind.u64.wrap (b : Int) = (b : Int) := by simp [IntKind.wrap, IntKind.bits, IntKind.signed]; omega
 have e3 := Oct.or_add N b hb
 rw [e1, e2, u64_or_nat _ _ (by omega) (by omega), e3]
theorem round_num (l : List UInt8) (p s k : Nat) (hk : k ≤ s) (h1 : 1 ≤ k) (hs : s ≤ 8) (h : p + s ≤ l.length) :
 bits BinOp.or IntKind.u64 (IntKind.u64.wrap ((Oct.num (Oct.cut l (p + k) (s - k)) : Nat) * 256)) (IntKind.u64.wrap ((l[p + (k - 1)]'(by omega)).toNat : Int)) = ((Oct.num (Oct.cut l (p + (k - 1)) (s - (k - 1))) : Nat) : Int) := by
 have hb : (l[p + (k - 1)]'(by omega)).toNat < 256 := by have := (l[p + (k - 1)]'(by omega)).toNat_lt; simpa using this
 have hN := Oct.num_cut_lt l (p + k) (s - k) (by omega)
 have hp : 256 ^ (s - k) ≤ 256 ^ 7 := Nat.pow_le_pow_right (by decide) (by omega)
 rw [or_step _ _ (by omega) hb]
 have e := Oct.num_cut_step l (p + (k - 1)) (s - k) (by omega)
 rw [show s - (k - 1) = s - k + 1 from by omega, e, show p + (k - 1) + 1 = p + k from by omega]
theorem next_no (w : World) (a : Option Addr) (n c : Nat) (p s : Nat) (S : Int) (hS : S = (s : Int)) (Ba Bb : Nat) (hs1 : 1 ≤ s) (hs : s ≤ 8) (hn : n ≤ maxLen) (hp : p ≤ maxLen)
 (hat : w.cell? ⟨Ba, 0, none⟩ = some (.int .i64 p)) (hb : w.cell? ⟨Bb, 0, none⟩ = some (.slice a n c)) (h : n < p + s) :
 Calls Tryz.prog 149 #[.int .i64 S, .pointer (some ⟨Ba, 0, none⟩), .pointer (some ⟨Bb, 0, none⟩)] w fun e w' =>
  e = .returned (.tuple #[.int .u64 0, .bool false]) ∧ w = w' := by
 subst hS
 unfold maxLen at hn hp
 go_enter Tryz.func149, Tryz.ntmps149
 go_wp2
 go_ret2
 exact ⟨rfl, rfl⟩
theorem next_ok (w : World) (a : Option Addr) (n c : Nat) (l : List UInt8) (p s : Nat) (S : Int) (hS : S = (s : Int)) (Ba Bb : Nat) (hs1 : 1 ≤ s) (hs : s ≤ 8) (hn : n ≤ maxLen) (hB : IsB w a n l)
 (hat : w.cell? ⟨Ba, 0, none⟩ = some (.int .i64 p)) (hfr : w.frozen? ⟨Ba, 0, none⟩ = false) (hb : w.cell? ⟨Bb, 0, none⟩ = some (.slice a n c)) (h : p + s ≤ n) :
 Calls Tryz.prog 149 #[.int .i64 S, .pointer (some ⟨Ba, 0, none⟩), .pointer (some ⟨Bb, 0, none⟩)] w fun e w' =>
  e = .returned (.tuple #[.int .u64 (Oct.num (Oct.cut l p s) : Nat), .bool true]) ∧ w.setCell ⟨Ba, 0, none⟩ (.int .i64 ((p + s : Nat) : Int)) = w' := by
 subst hS
 unfold maxLen at hn
 obtain ⟨b, off, rfl, hcell⟩ := hB.place (by omega)
 have hlen : l.length = n := hB.1
 clear hB
 go_enter Tryz.func149, Tryz.ntmps149
 go_wp2
 go_loop [6, 7] (fun v i => ∃ k : Nat, k ≤ s ∧ i = .int .i64 ((k : Int) - 1) ∧ v = .int .u64 (Oct.num (Oct.cut l (p + k) (s - k)) : Nat))
  (fun _ i => (intOf i + 1).toNat)
 case atStart => exact ⟨s, zw0 _, rfl, by simp [Oct.cut, Oct.num]⟩
 case round =>
  obtain ⟨k, hk, rfl, rfl⟩ := hrel
  by_cases hlt : 1 ≤ k
  · have hc := hcell (p + (k - 1)) (by omega)
    clear hcell
    go_wp2
    go_round
    case rel => exact ⟨k - 1, by omega, by go_num, by rw [round_num l p s k hk hlt hs (by omega)]⟩
    case measure => simp [intOf]; omega
  · have e : k = 0 := by omega
    subst e
    clear hcell
    go_wp2
    go_ret2
    exact ⟨rfl, rfl⟩
theorem two_new (w w1 : World) (o1 o2 : Obj) (v : Value) (h : ((w.alloc o1).alloc o2).setCell ⟨w.heap.size + 1, 0, none⟩ v = w1) : Below w.heap.size w w1 := by
 subst h
 exact (((Below.refl _ _).alloc (zw0 _) _).alloc (by simp) _).setCell (by simp) _
theorem put_u (n : Nat) (N S : Int) (hN : N = (n : Int)) (w : World) :
 Calls Tryz.prog 127 #[.int .u64 N, .int .i64 S] w fun e w' => ∃ a len c, e = .returned (.tuple #[.slice a len c, .int .i64 (Oct.putE n S)]) ∧
  w'.ownsRow w.heap.size 5 1 (.slice a len c) len (cellsOf (Oct.putL n S)) ∧ Below w.heap.size w w' := by
 rcases Oct.putE_cases n S with ⟨h, e1, e2⟩ | ⟨s, rfl, h1, h2, h3, e1, e2⟩ | ⟨s, rfl, h1, h2, h3, e1, e2⟩
 · rw [e1, e2]
   refine (put_arg N S w h).mono ?_
   rintro e w' ⟨rfl, rfl⟩
   exact ⟨none, 0, 0, rfl, q7J _ _, Below.refl _ _⟩
 · rw [e1, e2]
   refine (put_range n s N _ hN rfl w h1 h2 h3).mono ?_
   rintro e w' ⟨rfl, rfl⟩
   exact ⟨none, 0, 0, rfl, q7J _ _, Below.refl _ _⟩
 · rw [e1, e2]
   refine (put_ok n s N _ hN rfl w h1 h2 h3).mono ?_
   rintro e w' ⟨rfl, ho, hb⟩
   exact ⟨_, s, s, rfl, ho, hb⟩
theorem get_arg (w : World) (a : Option Addr) (n c : Nat) (P S : Int) (h : ¬ (1 ≤ S ∧ S ≤ 8)) :
 Calls Tryz.prog 136 #[.slice a n c, .int .i64 P, .int .i64 S] w fun e w' => e = .returned (.tuple #[.int .u64 0, .int .i64 1]) ∧ w = w' := by
 have hd : decide (1 ≤ S ∧ S ≤ 8) = false := by simpa using h
 go_enter Tryz.func136, Tryz.ntmps136
 go_wp2_with (go_at_call 141; refine (q6Z _ _).mono ?_; rintro e w' ⟨rfl, rfl⟩)
 go_ret2
 exact ⟨rfl, rfl⟩
theorem get_neg (w : World) (a : Option Addr) (n c : Nat) (P S : Int) (h : 1 ≤ S ∧ S ≤ 8) (hp : P < 0) :
 Calls Tryz.prog 136 #[.slice a n c, .int .i64 P, .int .i64 S] w fun e w' => e = .returned (.tuple #[.int .u64 0, .int .i64 4]) ∧ w = w' := by
 have hd : decide (1 ≤ S ∧ S ≤ 8) = true := by simpa using h
 go_enter Tryz.func136, Tryz.ntmps136
 go_wp2_with (go_at_call 141; refine (q6Z _ _).mono ?_; rintro e w' ⟨rfl, rfl⟩)
 go_ret2
 exact ⟨rfl, rfl⟩
theorem get_short (w : World) (a : Option Addr) (n c : Nat) (p s : Nat) (P S : Int) (hP : P = (p : Int)) (hS : S = (s : Int)) (h1 : 1 ≤ s) (h2 : s ≤ 8) (hn : n ≤ maxLen) (hp : p ≤ maxLen) (h : n < p + s) :
 Calls Tryz.prog 136 #[.slice a n c, .int .i64 P, .int .i64 S] w fun e w' => e = .returned (.tuple #[.int .u64 0, .int .i64 8]) ∧ Below w.heap.size w w' := by
 subst hP
 subst hS
 have hd : decide (1 ≤ (s : Int) ∧ (s : Int) ≤ 8) = true := by simp; omega
 have hn' := hn
 have hp' := hp
 unfold maxLen at hn' hp'
 go_enter Tryz.func136, Tryz.ntmps136
 go_wp2_with (first
  | (go_at_call 141; refine (q6Z _ _).mono ?_; rintro e w' ⟨rfl, rfl⟩)
  | (go_at_call 149; refine (next_no _ a n c p s _ rfl _ _ h1 h2 hn hp (by simp) (by simp) h).mono ?_; rintro e w1 ⟨rfl, rfl⟩)
  | go_in)
 go_ret2
 exact ⟨rfl, ((Below.refl _ _).alloc (zw0 _) _).alloc (by simp) _⟩
theorem get_ok (w : World) (a : Option Addr) (n c : Nat) (l : List UInt8) (p s : Nat) (P S : Int) (hP : P = (p : Int)) (hS : S = (s : Int)) (h1 : 1 ≤ s) (h2 : s ≤ 8) (hn : n ≤ maxLen) (hB : IsB w a n l) (h : p + s ≤ n) :
 Calls Tryz.prog 136 #[.slice a n c, .int .i64 P, .int .i64 S] w fun e w' => e = .returned (.tuple #[.int .u64 (Oct.num (Oct.cut l p s) : Nat), .int .i64 0]) ∧ Below w.heap.size w w' := by
 subst hP
 subst hS
 have hd : decide (1 ≤ (s : Int) ∧ (s : Int) ≤ 8) = true := by simp; omega
 have hn' := hn
 unfold maxLen at hn'
 go_enter Tryz.func136, Tryz.ntmps136
 go_wp2_with (first
  | (go_at_call 141; refine (q6Z _ _).mono ?_; rintro e w' ⟨rfl, rfl⟩)
  | (go_at_call 149; refine (next_ok _ a n c l p s _ rfl _ _ h1 h2 hn (hB.below (((Below.refl _ _).alloc (zw0 _) _).alloc (by simp) _)) (by simp) (by simp) (by simp) h).mono ?_; rintro e w1 ⟨rfl, hw1⟩; have hb1 := two_new _ _ _ _ _ hw1; clear hw1)
  | go_in)
 go_ret2
 exact ⟨rfl, hb1⟩
theorem get_u (w : World) (a : Option Addr) (n c : Nat) (l : List UInt8) (P S : Int) (hP : P ≤ 9223372036854775807) (hn : n ≤ maxLen) (hB : IsB w a n l) :
 Calls Tryz.prog 136 #[.slice a n c, .int .i64 P, .int .i64 S] w fun e w' =>
  e = .returned (.tuple #[.int .u64 (Oct.getV l P S : Nat), .int .i64 (Oct.getE l P S)]) ∧ Below w.heap.size w w' := by
 have hl := hB.1
 rcases Oct.getE_cases l P S with ⟨h, e1, e2⟩ | ⟨h, hp, e1, e2⟩ | ⟨p, s, rfl, rfl, h1, h2, h, e1, e2⟩ | ⟨p, s, rfl, rfl, h1, h2, h, e1, e2⟩
 · rw [e1, e2]
   refine (get_arg w a n c P S h).mono ?_
   rintro e w' ⟨rfl, rfl⟩
   exact ⟨rfl, Below.refl _ _⟩
 · rw [e1, e2]
   refine (get_neg w a n c P S h hp).mono ?_
   rintro e w' ⟨rfl, rfl⟩
   exact ⟨rfl, Below.refl _ _⟩
 · rw [e1, e2]
   refine (get_short w a n c p s _ _ rfl rfl h1 h2 hn (by unfold maxLen; omega) (by omega)).mono ?_
   rintro e w' ⟨rfl, hb⟩
   exact ⟨rfl, hb⟩
 · rw [e1, e2]
   refine (get_ok w a n c l p s _ _ rfl rfl h1 h2 hn hB (by omega)).mono ?_
   rintro e w' ⟨rfl, hb⟩
   exact ⟨rfl, hb⟩
theorem add_step (l : List UInt8) (p s k : Nat) (hk : k ≤ s) (h1 : 1 ≤ k) (hs : s ≤ 8) (h : p + s ≤ l.length) :
 256 * (Oct.num (Oct.cut l (p + k) (s - k)) : Nat) + ((l[p + (k - 1)]'(by omega)).toNat : Int) = ((Oct.num (Oct.cut l (p + (k - 1)) (s - (k - 1))) : Nat) : Int) ∧ Oct.num (Oct.cut l (p + k) (s - k)) < 72057594037927936 ∧ (l[p + (k - 1)]'(by omega)).toNat < 256 := by
 have hb : (l[p + (k - 1)]'(by omega)).toNat < 256 := by have := (l[p + (k - 1)]'(by omega)).toNat_lt; simpa using this
 have hN := Oct.num_cut_lt l (p + k) (s - k) (by omega)
 have hp : 256 ^ (s - k) ≤ 256 ^ 7 := Nat.pow_le_pow_right (by decide) (by omega)
 have e := Oct.num_cut_step l (p + (k - 1)) (s - k) (by omega)
 refine ⟨?_, by omega, hb⟩
 rw [show s - (k - 1) = s - k + 1 from by omega, e, show p + (k - 1) + 1 = p + k from by omega]
 omega
set_option maxRecDepth 20000 in
theorem refGet_ok (w : World) (a : Option Addr) (n c : Nat) (l : List UInt8) (p s : Nat) (P S : Int) (hP : P = (p : Int)) (hS : S = (s : Int)) (h1 : 1 ≤ s) (h2 : s ≤ 8) (hn : n ≤ maxLen) (hB : IsB w a n l) (h : p + s ≤ n) :
 Calls Tryz.prog 119 #[.slice a n c, .int .i64 P, .int .i64 S] w fun e w' => e = .returned (.tuple #[.int .u64 (Oct.num (Oct.cut l p s) : Nat), .int .i64 0]) ∧ w = w' := by
 subst hP
 subst hS
 unfold maxLen at hn
 obtain ⟨b, off, rfl, hcell⟩ := hB.place (by omega)
 have hlen : l.length = n := hB.1
 clear hB
 go_enter Tryz.func119, Tryz.ntmps119
 go_wp2
 go_loop [8, 9] (fun v i => ∃ k : Nat, k ≤ s ∧ i = .int .i64 ((k : Int) - 1) ∧ v = .int .u64 (Oct.num (Oct.cut l (p + k) (s - k)) : Nat))
  (fun _ i => (intOf i + 1).toNat)
 case atStart => exact ⟨s, zw0 _, rfl, by simp [Oct.cut, Oct.num]⟩
 case round =>
  obtain ⟨k, hk, rfl, rfl⟩ := hrel
  by_cases hlt : 1 ≤ k
  · have hc := hcell (p + (k - 1)) (by omega)
    obtain ⟨hr1, hr2, hr3⟩ := add_step l p s k hk hlt h2 (by omega)
    have HR : Hid _ := hr1
    clear hcell hr1
    generalize hx : (l[p + (k - 1)]'(by omega)).toNat = x at *
    generalize hy : Oct.num (Oct.cut l (p + k) (s - k)) = y at *
    clear hx hy
    go_wp2
    go_round
    case rel => exact ⟨k - 1, by omega, by go_num, by rw [← HR.out]⟩
    case measure => simp [intOf]; omega
  · have e : k = 0 := by omega
    subst e
    clear hcell
    go_wp2
    go_ret2
    exact ⟨rfl, rfl⟩
set_option maxRecDepth 20000 in
theorem refPut_in (n : Nat) (s : Nat) (w : World) (h1 : 1 ≤ s) (h2 : s ≤ 8) (hn : n < 18446744073709551616) :
 Calls Tryz.prog 121 #[.int .u64 n, .int .i64 s] w fun e w' => ∃ a len c, e = .returned (.tuple #[.slice a len c, .int .i64 (Oct.putE n s)]) ∧
  w'.ownsRow w.heap.size 5 1 (.slice a len c) len (cellsOf (Oct.putL n s)) ∧ Below w.heap.size w w' := by
 obtain ⟨i0, hi, hz0, hz1, hz2⟩ := info_parts qAZ
 have H1 : n < 256 ^ s → Oct.putE n s = 0 ∧ Oct.putL n s = Oct.octs n s := fun h => ⟨Oct.putE_ok h1 h2 h, Oct.putL_ok h1 h2 h⟩
 have H2 : ¬ n < 256 ^ s → Oct.putE n s = 4 ∧ Oct.putL n s = [] := fun h => ⟨Oct.putE_range h1 h2 (by omega), by simp [Oct.putL, Oct.putE_range h1 h2 (show 256 ^ s ≤ n by omega)]⟩
 have K1 : Hid _ := H1
 have K2 : Hid _ := H2
 clear H1 H2
 go_enter Tryz.func121, Tryz.ntmps121
 go_wp2
 go_loopw [0, 6, 7] (fun m out i wr => ∃ (k : Nat) (q : Nat), k ≤ s ∧ i = .int .i64 k ∧ m = .int .u64 q ∧ q = n / 256 ^ k ∧ wr.ownsRow w.heap.size 5 1 out k (cellsOf (Oct.octs n k)) ∧ Below w.heap.size w wr)
  (fun _ _ i _ => s - (intOf i).toNat)
 case atStart => exact ⟨0, n, Nat.zero_le _, rfl, rfl, by simp, q7J _ _, Below.refl _ _⟩
 case round =>
  obtain ⟨k, q, hk, rfl, rfl, hq, hown, hbel⟩ := hrel
  have hql : q ≤ n := by rw [hq]; exact Nat.div_le_self _ _
  have HQ : Hid _ := hq
  clear hq
  have hz := hbel.size
  by_cases hlt : k < s
  · go_wp2_with (at_builtin; refine wpList_append_own _ rfl _ _ 53 rfl w.heap.size 5 i0 (.int .u8 0) 1 1 Tryz.underlying53 hi hz0 hz1 hz2 rfl (by decide) _ k _ rfl (hown.alloc _) ⟨wr.heap.size, 0, none⟩ 1 1 [.int .u8 ((q : Int) % 256)] rfl rfl (cell_one_new _ _ _) (by intro u hu; simp at hu; subst hu; rfl) (by unfold maxLen; omega) (by omega) (by simp; omega) ?_)
    intro v' w1 hown' hgrow _
    have hst : w1.ownsRow w.heap.size 5 1 v' (k + 1) (cellsOf (Oct.octs n (k + 1))) := by
     rw [Oct.octs_snoc, q3X, ← HQ.out]
     have e : cellsOf [UInt8.ofNat q] = [.int .u8 ((q : Int) % 256)] := by simp [cellsOf]
     rw [e]
     exact hown'
    have hb1 : Below w.heap.size w w1 := (hbel.alloc hz _).grown hgrow (by simp; omega) (q6q hown)
    have hq2 : (q : Int) / 256 = ((q / 256 : Nat) : Int) := by simp
    have HQ2 : Hid _ := hq2
    clear hown' hgrow hown hbel hq2
    go_wp2
    go_roundw
    case rel => exact ⟨k + 1, q / 256, by omega, by go_num, by go_num, by rw [HQ.out]; exact Oct.div_step n k, hst, hb1⟩
    case measure => simp [intOf]; omega
  · have e : k = s := by omega
    subst e
    obtain ⟨b, d, rfl, -⟩ := qBx hown
    by_cases hq0 : 0 < q
    · go_wp2
      go_ret2
      have hx : ¬ n < 256 ^ k := by
       intro hx
       have := HQ.out
       rw [Nat.div_eq_of_lt hx] at this
       omega
      have hy := K2.out hx
      exact ⟨none, 0, 0, by rw [hy.1]; rfl, by rw [hy.2]; exact q7J _ _, hbel⟩
    · go_wp2
      go_ret2
      have hx : n < 256 ^ k := by
       have h0 : n / 256 ^ k = 0 := by have := HQ.out; omega
       rcases Nat.div_eq_zero_iff.1 h0 with h | h
       · exact absurd h (Nat.pos_iff_ne_zero.1 (Nat.pow_pos (by decide)))
       · exact h
      have hy := K1.out hx
      exact ⟨b, k, d, by rw [hy.1]; rfl, by rw [hy.2]; exact hown, hbel⟩
theorem refGet8 (w : World) (a : Option Addr) (c : Nat) (b : List UInt8) (p : Nat) (Q S : Int) (hQ : Q = (p : Int)) (hS : S = 8) (hB : IsB w a 60 b) (h : p + 8 ≤ 60) :
 Calls Tryz.prog 119 #[.slice a 60 c, .int .i64 Q, .int .i64 S] w fun e w' => e = .returned (.tuple #[.int .u64 ((UInt64.ofNat (Oct.num (Oct.cut b p 8))).toNat : Int), .int .i64 0]) ∧ w = w' := by
 have hl := hB.1
 refine (refGet_ok w a 60 c b p 8 Q S hQ hS (by decide) (by decide) (by decide) hB h).mono ?_
 rintro e w' ⟨rfl, rfl⟩
 have := Oct.num_cut_lt b p 8 (by omega)
 rw [UInt64.toNat_ofNat', Nat.mod_eq_of_lt this]
 exact ⟨rfl, rfl⟩
theorem refGet4 (w : World) (a : Option Addr) (c : Nat) (b : List UInt8) (p : Nat) (Q S : Int) (hQ : Q = (p : Int)) (hS : S = 4) (hB : IsB w a 60 b) (h : p + 4 ≤ 60) :
 Calls Tryz.prog 119 #[.slice a 60 c, .int .i64 Q, .int .i64 S] w fun e w' => ∃ q : Nat, e = .returned (.tuple #[.int .u64 (q : Int), .int .i64 0]) ∧ q < 4294967296 ∧ q = Oct.num (Oct.cut b p 4) ∧ w = w' := by
 have hl := hB.1
 refine (refGet_ok w a 60 c b p 4 Q S hQ hS (by decide) (by decide) (by decide) hB h).mono ?_
 rintro e w' ⟨rfl, rfl⟩
 exact ⟨_, rfl, Oct.num_cut_lt b p 4 (by omega), rfl, rfl⟩
namespace Lf
theorem told_next {b : List UInt8} {k : Nat} (h : k < many b) : (told b).1.take (k + 1) = (told b).1.take k ++ [(keyAt b k, valAt b k)] := by
 unfold told
 simp only
 rw [List.take_succ_eq_append_getElem (by simpa using h)]
 simp
theorem told_all (b : List UInt8) : (told b).1.take (many b) = (told b).1 := List.take_of_length_le (by simp [told])
theorem told_len (b : List UInt8) : (told b).1.length = many b := by simp [told]
theorem many_le (b : List UInt8) : many b ≤ 3 := by unfold many; omega
def kidL (b : List UInt8) (k : Nat) : List Int := (List.range k).map (kidAt b)
theorem kid_next (b : List UInt8) (k : Nat) : kidL b (k + 1) = kidL b k ++ [kidAt b k] := by simp [kidL, List.range_succ]
end Lf
set_option maxRecDepth 20000 in
theorem told_u (w : World) (a : Option Addr) (cap : Nat) (b : List UInt8) (hcap : 60 ≤ cap) (hB : IsB w a 60 b) (hk : b.getD 0 0 = 1 ∨ b.getD 0 0 = 2) :
 Calls Tryz.prog 98 #[.slice a 60 cap] w fun e w' => ∃ v v', e = .returned (.agg #[v, v']) ∧ OwnI 45 w' w.heap.size v (Lf.told b).1 ∧ OwnK 3 w' w.heap.size v' (Lf.told b).2 ∧ Below w.heap.size w w' := by
 have HL : Hid (b.length = 60) := hB.1
 have hm3 := Lf.many_le b
 obtain ⟨ab, off, rfl, hat⟩ := hB.place (by decide)
 have hb0 := hat 0 (by rw [HL.out]; decide)
 have hb1 := hat 1 (by rw [HL.out]; decide)
 rw [Nat.add_zero] at hb0
 have e0 : b[0]'(by rw [HL.out]; decide) = b.getD 0 0 := by simp [List.getD, zw3 (show 0 < b.length by rw [HL.out]; decide)]
 have e1 : b[1]'(by rw [HL.out]; decide) = b.getD 1 0 := by simp [List.getD, zw3 (show 1 < b.length by rw [HL.out]; decide)]
 rw [e0] at hb0
 rw [e1] at hb1
 have HBB : Hid (IsB w (some ⟨ab, off, none⟩) 60 b) := hB
 obtain ⟨m, hm⟩ : ∃ m, m = Lf.many b := ⟨_, rfl⟩
 have HM : Hid (Lf.many b = m) := hm.symm
 obtain ⟨w0, hw0, V0, b0, z0⟩ := q0q w 139 [.slice none 0 0, .slice none 0 0]
 obtain ⟨w1, hw1, V1, b1, z1⟩ := q0q w0 139 [.slice none 0 0, .slice none 0 0]
 rw [z0] at V1
 have hmn : (Builtin.min_ #[5, 5] 5 #[.int .u8 ((b.getD 1 0).toNat : Int), .int .u8 3]).run Tryz.prog w1 = .ok (.int .u8 (m : Int)) w1 := by
  rw [run_min_int2, hm]
  congr 2
  unfold Lf.many
  split <;> omega
 rw [← hm] at hm3
 obtain ⟨x1, hx1⟩ : ∃ x1, x1 = b.getD 1 0 := ⟨_, rfl⟩
 rw [← hx1] at hmn hb1
 obtain ⟨x0, hx0⟩ : ∃ x0, x0 = b.getD 0 0 := ⟨_, rfl⟩
 have HX0 : Hid (b.getD 0 0 = x0) := hx0.symm
 rw [← hx0] at hk hb0
 clear hm hat e0 e1 hB hx1 hx0
 have HV0 : Hid _ := V0.below b1
 have HV1 : Hid _ := V1
 have B1 : Hid (Below w.heap.size w w1) := on b0 b1
 have HZ1 : Hid (w1.heap.size = w.heap.size + 2) := by unfold Hid; rw [z1, z0]
 have HQ0 : Hid (∀ {wx : World}, Below w.heap.size w wx → wx.cell? ⟨ab, off, none⟩ = some (.int .u8 (x0.toNat : Int))) := fun k => (k.cell (p := ⟨ab, off, none⟩) (World.block_lt_of_cell? _ _ hb0)).trans hb0
 have q1 : w1.cell? ⟨ab, off + 1, none⟩ = some (.int .u8 (x1.toNat : Int)) := (B1.out.cell (p := ⟨ab, off + 1, none⟩) (World.block_lt_of_cell? _ _ hb1)).trans hb1
 clear V0 V1 b0 b1 z1 hb0 hb1
 rcases hk with rfl | rfl
 · go_enter Tryz.func98, Tryz.ntmps98
   go_wp2
   go_loopw [5] (fun i wr => ∃ (k : Nat) (va : Option Addr) (vn vc : Nat), k ≤ m ∧ i = .int .i64 k ∧ Hid (Row wr (w.heap.size + 1) 139 [.slice va vn vc, .slice none 0 0]) ∧ Hid (Row wr w.heap.size 139 [.slice none 0 0, .slice none 0 0]) ∧ Hid (OwnI 45 wr (w.heap.size + 2) (.slice va vn vc) ((Lf.told b).1.take k)) ∧ Hid (w.heap.size + 2 ≤ wr.heap.size) ∧ Below w.heap.size w wr) (fun i _ => m - (intOf i).toNat)
   case atStart => exact ⟨0, none, 0, 0, Nat.zero_le _, rfl, HV1, HV0, OwnI.nil _ _ _, (Nat.le_of_eq HZ1.out.symm), B1.out⟩
   case round =>
    obtain ⟨k, va, vn, vc, hk, rfl, HR, HS, HO, HSz, bel⟩ := hrel
    by_cases hlt : k < m
    · have HBr : Hid (IsB wr (some ⟨ab, off, none⟩) 60 b) := HBB.out.below bel
      have BR : Hid _ := bel
      have HNx : Hid _ := Lf.told_next (b := b) (k := k) (by rw [HM.out]; exact hlt)
      obtain ⟨Y, hY⟩ : ∃ Y, Y = Lf.keyAt b k := ⟨_, rfl⟩
      obtain ⟨Z, hZ⟩ : ∃ Z, Z = Lf.valAt b k := ⟨_, rfl⟩
      rw [← hY, ← hZ] at HNx
      have HY : Hid (UInt64.ofNat (Oct.num (Oct.cut b (4 + 8 * k) 8)) = Y) := hY.symm
      have HZ : Hid _ := hZ
      clear hY hZ bel
      have hkz : (k : Int) < (m : Int) := by omega
      go_wp2_with fail
      refine (refGet8 _ _ _ b (4 + 8 * k) _ _ (by omega) rfl HBr.out (by omega)).mono ?_
      rintro e wy ⟨rfl, rfl⟩
      rw [HY.out]
      obtain ⟨wa, hwa, Va, ba, za⟩ := q0q wr 45 [.int .u64 (Y.toNat : Int), .int .u64 0]
      have fa1 := Va.frozen 1
      obtain ⟨sa0, sa1⟩ := Va.two
      obtain ⟨w2, hw2⟩ : ∃ w2, wa.setCell ⟨wr.heap.size, 1, none⟩ (.int .u64 0) = w2 := ⟨_, rfl⟩
      have V2 : Row w2 wr.heap.size 45 [.int .u64 (Y.toNat : Int), .int .u64 0] := by rw [← hw2]; exact Va.set 1 (.int .u64 0)
      have b2 : Below wr.heap.size wr w2 := by rw [← hw2]; exact ba.setCell (p := ⟨wr.heap.size, 1, none⟩) (zw0 _) _
      have B2 : Hid _ := b2
      have HV2 : Hid _ := V2
      have q0 : w2.cell? ⟨ab, off, none⟩ = some (.int .u8 1) := HQ0.out (on BR.out b2)
      clear V2 b2 Va ba za
      go_wp2_with fail
      refine (refGet8 _ _ _ b (4 + 8 * m + 8 * k) _ _ (by omega) rfl (HBr.out.below B2.out) (by omega)).mono ?_
      rintro e wy ⟨rfl, rfl⟩
      rw [show UInt64.ofNat (Oct.num (Oct.cut b (4 + 8 * m + 8 * k) 8)) = Z by rw [HZ.out]; unfold Lf.valAt; rw [HX0.out, HM.out, if_pos rfl]]
      obtain ⟨w3, hw3⟩ : ∃ w3, w2.setCell ⟨wr.heap.size, 1, none⟩ (.int .u64 (Z.toNat : Int)) = w3 := ⟨_, rfl⟩
      have HV3 : Hid (Row w3 wr.heap.size 45 [.int .u64 (Y.toNat : Int), .int .u64 (Z.toNat : Int)]) := by rw [← hw3]; exact HV2.out.set 1 _
      have B3 : Hid (Below wr.heap.size wr w3) := by rw [← hw3]; exact B2.out.setCell (p := ⟨wr.heap.size, 1, none⟩) (zw0 _) _
      have f1 := HV2.out.frozen 1
      obtain ⟨s0, s1⟩ := HV2.out.two
      have HR3 : Hid _ := HR.out.below B3.out
      have HO3 : Hid _ := HO.out.below B3.out
      obtain ⟨t0, t1⟩ := HR3.out.two
      have g0 := HR3.out.frozen 0
      obtain ⟨c0, c1⟩ := HV3.out.two
      obtain ⟨v', w4, hr4, ho4, gr4⟩ := q5z HO3.out (Y, Z) (by rw [zw4]; omega) (zw1 HSz.out B3.out.size) 36
      obtain ⟨a4, n4, c4, rfl⟩ : ∃ a n c, v' = .slice a n c := by obtain ⟨a, c, e, -⟩ := ho4.slice; exact ⟨a, _, c, e⟩
      have HRun : Hid _ := hr4
      have hne : (Value.slice va vn vc).ownBlock ≠ some (w.heap.size + 1) := fun e => by have := (HO3.out.row.lt _ e).1; omega
      have hne0 : (Value.slice va vn vc).ownBlock ≠ some w.heap.size := fun e => by have := (HO3.out.row.lt _ e).1; omega
      have BA : Hid (Below w.heap.size w w4) := (q0Q (on BR.out B3.out) _).grown gr4.grown (q0Q (on BR.out B3.out) _).size (fun kk hkk => by have := (HO3.out.row.lt kk hkk).1; omega)
      have HR4 : Hid (Row w4 (w.heap.size + 1) 139 [.slice va vn vc, .slice none 0 0]) := (HR3.out.below ((Below.refl _ _).alloc (zw0 _) _)).grew gr4 hne
      have HS4 : Hid (Row w4 w.heap.size 139 [.slice none 0 0, .slice none 0 0]) := ((HS.out.below B3.out).below ((Below.refl _ _).alloc (zw0 _) _)).grew gr4 hne0
      have HSz4 : Hid (w.heap.size + 2 ≤ w4.heap.size) := zw1 (zw1 HSz.out B3.out.size) (zw1 (by simp) gr4.grown.size)
      have HO4 : Hid (OwnI 45 w4 (w.heap.size + 2) (.slice a4 n4 c4) ((Lf.told b).1.take (k + 1))) := by unfold Hid; rw [HNx.out]; exact ho4
      have h4 := HR4.out.frozen 0
      obtain ⟨u0, u1⟩ := HR4.out.two
      clear hr4 gr4 ho4
      go_wp2_with (at_builtin; refine Lib.wpList_append_run _ rfl _ _ _ _ rfl _ _ rfl rfl _ _ HRun.out ?_)
      have HR5 : Hid (Row (w4.setCell ⟨w.heap.size + 1, 0, none⟩ (.slice a4 n4 c4)) (w.heap.size + 1) 139 [.slice a4 n4 c4, .slice none 0 0]) := HR4.out.set 0 (.slice a4 n4 c4)
      have HS5 : Hid (Row (w4.setCell ⟨w.heap.size + 1, 0, none⟩ (.slice a4 n4 c4)) w.heap.size 139 [.slice none 0 0, .slice none 0 0]) := HS4.out.setO (p := ⟨w.heap.size + 1, 0, none⟩) (by simp) (.slice a4 n4 c4)
      have HO5 : Hid (OwnI 45 (w4.setCell ⟨w.heap.size + 1, 0, none⟩ (.slice a4 n4 c4)) (w.heap.size + 2) (.slice a4 n4 c4) ((Lf.told b).1.take (k + 1))) := HO4.out.setB (p := ⟨w.heap.size + 1, 0, none⟩) (by simp) (.slice a4 n4 c4)
      have B5 : Hid (Below w.heap.size w (w4.setCell ⟨w.heap.size + 1, 0, none⟩ (.slice a4 n4 c4))) := BA.out.setCell (p := ⟨w.heap.size + 1, 0, none⟩) (by simp) (.slice a4 n4 c4)
      have HSz5 : Hid (w.heap.size + 2 ≤ (w4.setCell ⟨w.heap.size + 1, 0, none⟩ (.slice a4 n4 c4)).heap.size) := by have := HSz4.out; unfold Hid; simpa [World.setCell] using this
      go_wp2
      go_roundw
      case rel => exact ⟨k + 1, a4, n4, c4, by omega, by go_num, HR5, HS5, HO5, HSz5, B5.out⟩
      case measure => simp [intOf]; omega
    · obtain rfl : m = k := by omega
      have HO0 : Hid (OwnI 45 wr (w.heap.size + 2) (.slice va vn vc) (Lf.told b).1) := by have h := HO.out; rw [← HM.out, Lf.told_all] at h; exact h
      clear HO
      have HK2 : Hid ((Lf.told b).2 = []) := by unfold Hid Lf.told; rw [HX0.out]; rfl
      go_wp2
      have q0 : wr.cell? ⟨ab, off, none⟩ = some (.int .u8 1) := HQ0.out bel
      obtain ⟨wq, hwq⟩ : ∃ wq, wq = wr := ⟨_, rfl⟩
      subst hwq
      go_loopw [9] (fun i wr => i = .int .i64 0 ∧ wr = wq) (fun i _ => 0)
      case atStart => exact ⟨rfl, rfl⟩
      case round =>
       obtain ⟨rfl, rfl⟩ := hrel
       obtain ⟨t0, t1⟩ := HR.out.two
       obtain ⟨s0, s1⟩ := HS.out.two
       have g0 := HS.out.frozen 0
       have g1 := HS.out.frozen 1
       go_wp2
       refine qAx HS.out bel (zw0 _) _ _ rfl rfl Tryz.underlying139 rfl (by kernel_rfl) ?_
       intro w' K' B'
       exact ⟨_, _, rfl, (HO0.out.keptL K' (by omega)).mono (by omega), by rw [HK2.out]; exact OwnK.nil _ _ _, B'⟩
 · go_enter Tryz.func98, Tryz.ntmps98
   go_wp2
   go_loopw [5] (fun i wr => ∃ (k : Nat) (va : Option Addr) (vn vc : Nat), k ≤ m ∧ i = .int .i64 k ∧ Hid (Row wr (w.heap.size + 1) 139 [.slice va vn vc, .slice none 0 0]) ∧ Hid (Row wr w.heap.size 139 [.slice none 0 0, .slice none 0 0]) ∧ Hid (OwnI 45 wr (w.heap.size + 2) (.slice va vn vc) ((Lf.told b).1.take k)) ∧ Hid (w.heap.size + 2 ≤ wr.heap.size) ∧ Below w.heap.size w wr) (fun i _ => m - (intOf i).toNat)
   case atStart => exact ⟨0, none, 0, 0, Nat.zero_le _, rfl, HV1, HV0, OwnI.nil _ _ _, (Nat.le_of_eq HZ1.out.symm), B1.out⟩
   case round =>
    obtain ⟨k, va, vn, vc, hk, rfl, HR, HS, HO, HSz, bel⟩ := hrel
    by_cases hlt : k < m
    · have HBr : Hid (IsB wr (some ⟨ab, off, none⟩) 60 b) := HBB.out.below bel
      have BR : Hid _ := bel
      have HNx : Hid _ := Lf.told_next (b := b) (k := k) (by rw [HM.out]; exact hlt)
      obtain ⟨Y, hY⟩ : ∃ Y, Y = Lf.keyAt b k := ⟨_, rfl⟩
      obtain ⟨Z, hZ⟩ : ∃ Z, Z = Lf.valAt b k := ⟨_, rfl⟩
      rw [← hY, ← hZ] at HNx
      have HY : Hid (UInt64.ofNat (Oct.num (Oct.cut b (4 + 8 * k) 8)) = Y) := hY.symm
      have HZ : Hid _ := hZ
      clear hY hZ bel
      have hkz : (k : Int) < (m : Int) := by omega
      go_wp2_with fail
      refine (refGet8 _ _ _ b (4 + 8 * k) _ _ (by omega) rfl HBr.out (by omega)).mono ?_
      rintro e wy ⟨rfl, rfl⟩
      rw [HY.out]
      obtain ⟨wa, hwa, Va, ba, za⟩ := q0q wr 45 [.int .u64 (Y.toNat : Int), .int .u64 0]
      have fa1 := Va.frozen 1
      obtain ⟨sa0, sa1⟩ := Va.two
      obtain ⟨w2, hw2⟩ : ∃ w2, wa.setCell ⟨wr.heap.size, 1, none⟩ (.int .u64 0) = w2 := ⟨_, rfl⟩
      have V2 : Row w2 wr.heap.size 45 [.int .u64 (Y.toNat : Int), .int .u64 0] := by rw [← hw2]; exact Va.set 1 (.int .u64 0)
      have b2 : Below wr.heap.size wr w2 := by rw [← hw2]; exact ba.setCell (p := ⟨wr.heap.size, 1, none⟩) (zw0 _) _
      have B2 : Hid _ := b2
      have HV2 : Hid _ := V2
      have q0 : w2.cell? ⟨ab, off, none⟩ = some (.int .u8 2) := HQ0.out (on BR.out b2)
      clear V2 b2 Va ba za
      have HZ0 : Hid (Z = 0) := by unfold Hid; rw [HZ.out]; unfold Lf.valAt; rw [HX0.out]; rfl
      obtain ⟨w3, rfl⟩ : ∃ w3, w3 = w2 := ⟨_, rfl⟩
      have HV3 : Hid (Row w3 wr.heap.size 45 [.int .u64 (Y.toNat : Int), .int .u64 (Z.toNat : Int)]) := by rw [HZ0.out]; exact HV2.out
      have B3 : Hid (Below wr.heap.size wr w3) := B2.out
      have e3 : (Z.toNat : Int) = 0 := by rw [HZ0.out]; rfl
      have HR3 : Hid _ := HR.out.below B3.out
      have HO3 : Hid _ := HO.out.below B3.out
      obtain ⟨t0, t1⟩ := HR3.out.two
      have g0 := HR3.out.frozen 0
      obtain ⟨c0, c1⟩ := HV3.out.two
      obtain ⟨v', w4, hr4, ho4, gr4⟩ := q5z HO3.out (Y, Z) (by rw [zw4]; omega) (zw1 HSz.out B3.out.size) 36
      rw [e3] at hr4 gr4 HV3 c1
      clear e3
      obtain ⟨a4, n4, c4, rfl⟩ : ∃ a n c, v' = .slice a n c := by obtain ⟨a, c, e, -⟩ := ho4.slice; exact ⟨a, _, c, e⟩
      have HRun : Hid _ := hr4
      have hne : (Value.slice va vn vc).ownBlock ≠ some (w.heap.size + 1) := fun e => by have := (HO3.out.row.lt _ e).1; omega
      have hne0 : (Value.slice va vn vc).ownBlock ≠ some w.heap.size := fun e => by have := (HO3.out.row.lt _ e).1; omega
      have BA : Hid (Below w.heap.size w w4) := (q0Q (on BR.out B3.out) _).grown gr4.grown (q0Q (on BR.out B3.out) _).size (fun kk hkk => by have := (HO3.out.row.lt kk hkk).1; omega)
      have HR4 : Hid (Row w4 (w.heap.size + 1) 139 [.slice va vn vc, .slice none 0 0]) := (HR3.out.below ((Below.refl _ _).alloc (zw0 _) _)).grew gr4 hne
      have HS4 : Hid (Row w4 w.heap.size 139 [.slice none 0 0, .slice none 0 0]) := ((HS.out.below B3.out).below ((Below.refl _ _).alloc (zw0 _) _)).grew gr4 hne0
      have HSz4 : Hid (w.heap.size + 2 ≤ w4.heap.size) := zw1 (zw1 HSz.out B3.out.size) (zw1 (by simp) gr4.grown.size)
      have HO4 : Hid (OwnI 45 w4 (w.heap.size + 2) (.slice a4 n4 c4) ((Lf.told b).1.take (k + 1))) := by unfold Hid; rw [HNx.out]; exact ho4
      have h4 := HR4.out.frozen 0
      obtain ⟨u0, u1⟩ := HR4.out.two
      clear hr4 gr4 ho4
      go_wp2_with (at_builtin; refine Lib.wpList_append_run _ rfl _ _ _ _ rfl _ _ rfl rfl _ _ HRun.out ?_)
      have HR5 : Hid (Row (w4.setCell ⟨w.heap.size + 1, 0, none⟩ (.slice a4 n4 c4)) (w.heap.size + 1) 139 [.slice a4 n4 c4, .slice none 0 0]) := HR4.out.set 0 (.slice a4 n4 c4)
      have HS5 : Hid (Row (w4.setCell ⟨w.heap.size + 1, 0, none⟩ (.slice a4 n4 c4)) w.heap.size 139 [.slice none 0 0, .slice none 0 0]) := HS4.out.setO (p := ⟨w.heap.size + 1, 0, none⟩) (by simp) (.slice a4 n4 c4)
      have HO5 : Hid (OwnI 45 (w4.setCell ⟨w.heap.size + 1, 0, none⟩ (.slice a4 n4 c4)) (w.heap.size + 2) (.slice a4 n4 c4) ((Lf.told b).1.take (k + 1))) := HO4.out.setB (p := ⟨w.heap.size + 1, 0, none⟩) (by simp) (.slice a4 n4 c4)
      have B5 : Hid (Below w.heap.size w (w4.setCell ⟨w.heap.size + 1, 0, none⟩ (.slice a4 n4 c4))) := BA.out.setCell (p := ⟨w.heap.size + 1, 0, none⟩) (by simp) (.slice a4 n4 c4)
      have HSz5 : Hid (w.heap.size + 2 ≤ (w4.setCell ⟨w.heap.size + 1, 0, none⟩ (.slice a4 n4 c4)).heap.size) := by have := HSz4.out; unfold Hid; simpa [World.setCell] using this
      go_wp2
      go_roundw
      case rel => exact ⟨k + 1, a4, n4, c4, by omega, by go_num, HR5, HS5, HO5, HSz5, B5.out⟩
      case measure => simp [intOf]; omega
    · obtain rfl : m = k := by omega
      have HO0 : Hid (OwnI 45 wr (w.heap.size + 2) (.slice va vn vc) (Lf.told b).1) := by have h := HO.out; rw [← HM.out, Lf.told_all] at h; exact h
      clear HO
      have HK2 : Hid ((Lf.told b).2 = Lf.kidL b (m + 1)) := by unfold Hid Lf.told Lf.kidL; rw [HX0.out, HM.out]; rfl
      go_wp2
      go_loopw [9] (fun i wr => ∃ (k : Nat) (ua : Option Addr) (un uc : Nat), k ≤ m + 1 ∧ i = .int .i64 k ∧ Hid (Row wr (w.heap.size + 1) 139 [.slice va vn vc, .slice ua un uc]) ∧ Hid (Row wr w.heap.size 139 [.slice none 0 0, .slice none 0 0]) ∧ Hid (OwnI 45 wr (w.heap.size + 2) (.slice va vn vc) (Lf.told b).1) ∧ Hid (OwnK 3 wr (w.heap.size + 2) (.slice ua un uc) (Lf.kidL b k)) ∧ Hid (∀ g, (Value.slice va vn vc).ownBlock = some g → (Value.slice ua un uc).ownBlock ≠ some g) ∧ Hid (w.heap.size + 2 ≤ wr.heap.size) ∧ Below w.heap.size w wr) (fun i _ => m + 1 - (intOf i).toNat)
      case atStart => exact ⟨0, none, 0, 0, Nat.zero_le _, rfl, HR, HS, HO0, OwnK.nil _ _ _, (fun g _ e => by cases e), HSz, bel⟩
      case round =>
       clear HR HS HO0 HSz bel
       obtain ⟨k, ua, un, uc, hk, rfl, HR, HS, HO, HOK, HAp, HSz, bel⟩ := hrel
       by_cases hlt : k < m + 1
       · have HBr : Hid (IsB wr (some ⟨ab, off, none⟩) 60 b) := HBB.out.below bel
         have BR : Hid _ := bel
         have q0 : wr.cell? ⟨ab, off, none⟩ = some (.int .u8 2) := HQ0.out bel
         have HNx : Hid _ := Lf.kid_next b k
         have hkz : (k : Int) ≤ (m : Int) := by omega
         clear bel
         go_wp2_with fail
         refine (refGet4 _ _ _ b (4 + 8 * m + 4 * k) _ _ (by omega) rfl HBr.out (by omega)).mono ?_
         rintro e wy ⟨q, rfl, hq, hqe, rfl⟩
         have HQE : Hid (Lf.kidAt b k = (q : Int)) := by unfold Hid Lf.kidAt; rw [HM.out, hqe]
         rw [HQE.out] at HNx
         clear hqe
         obtain ⟨t0, t1⟩ := HR.out.two
         have g0 := HR.out.frozen 1
         obtain ⟨v', w4, hr4, ho4, gr4⟩ := q2J HOK.out (q : Int) (by omega) (by simp [Lf.kidL]; omega) HSz.out 25
         obtain ⟨a4, n4, c4, rfl⟩ : ∃ a n c, v' = .slice a n c := by obtain ⟨a, c, e, -⟩ := ho4.slice; exact ⟨a, _, c, e⟩
         have HRun : Hid _ := hr4
         have hne : (Value.slice ua un uc).ownBlock ≠ some (w.heap.size + 1) := fun e => by have := (HOK.out.row.lt _ e).1; omega
         have hne0 : (Value.slice ua un uc).ownBlock ≠ some w.heap.size := fun e => by have := (HOK.out.row.lt _ e).1; omega
         have BA : Hid (Below w.heap.size w w4) := (q0Q BR.out _).grown gr4.grown (q0Q BR.out _).size (fun kk hkk => by have := (HOK.out.row.lt kk hkk).1; omega)
         have HR4 : Hid (Row w4 (w.heap.size + 1) 139 [.slice va vn vc, .slice ua un uc]) := (HR.out.below ((Below.refl _ _).alloc (zw0 _) _)).grew gr4 hne
         have HS4 : Hid (Row w4 w.heap.size 139 [.slice none 0 0, .slice none 0 0]) := (HS.out.below ((Below.refl _ _).alloc (zw0 _) _)).grew gr4 hne0
         have HSz4 : Hid (w.heap.size + 2 ≤ w4.heap.size) := zw1 HSz.out (zw1 (by simp) gr4.grown.size)
         have HOI4 : Hid (OwnI 45 w4 (w.heap.size + 2) (.slice va vn vc) (Lf.told b).1) := (HO.out.below ((Below.refl _ _).alloc (zw0 _) _)).grewO gr4 HAp.out
         have HOK4 : Hid (OwnK 3 w4 (w.heap.size + 2) (.slice a4 n4 c4) (Lf.kidL b (k + 1))) := by unfold Hid; rw [HNx.out]; exact ho4
         have HAp4 : Hid (∀ g, (Value.slice va vn vc).ownBlock = some g → (Value.slice a4 n4 c4).ownBlock ≠ some g) := fun g eg eg2 => by
          rcases gr4.place g eg2 with h | h
          · exact HAp.out g eg h
          · have := (HO.out.row.lt g eg).2; simp at h; omega
         have h4 := HR4.out.frozen 1
         obtain ⟨u0, u1⟩ := HR4.out.two
         clear hr4 gr4 ho4
         go_wp2_with (at_builtin; refine Lib.wpList_append_run _ rfl _ _ _ _ rfl _ _ rfl rfl _ _ HRun.out ?_)
         have HR5 : Hid (Row (w4.setCell ⟨w.heap.size + 1, 1, none⟩ (.slice a4 n4 c4)) (w.heap.size + 1) 139 [.slice va vn vc, .slice a4 n4 c4]) := HR4.out.set 1 (.slice a4 n4 c4)
         have HS5 : Hid (Row (w4.setCell ⟨w.heap.size + 1, 1, none⟩ (.slice a4 n4 c4)) w.heap.size 139 [.slice none 0 0, .slice none 0 0]) := HS4.out.setO (p := ⟨w.heap.size + 1, 1, none⟩) (by simp) (.slice a4 n4 c4)
         have HO5 : Hid (OwnI 45 (w4.setCell ⟨w.heap.size + 1, 1, none⟩ (.slice a4 n4 c4)) (w.heap.size + 2) (.slice va vn vc) (Lf.told b).1) := HOI4.out.setB (p := ⟨w.heap.size + 1, 1, none⟩) (by simp) (.slice a4 n4 c4)
         have HK5 : Hid (OwnK 3 (w4.setCell ⟨w.heap.size + 1, 1, none⟩ (.slice a4 n4 c4)) (w.heap.size + 2) (.slice a4 n4 c4) (Lf.kidL b (k + 1))) := HOK4.out.setB (p := ⟨w.heap.size + 1, 1, none⟩) (by simp) (.slice a4 n4 c4)
         have B5 : Hid (Below w.heap.size w (w4.setCell ⟨w.heap.size + 1, 1, none⟩ (.slice a4 n4 c4))) := BA.out.setCell (p := ⟨w.heap.size + 1, 1, none⟩) (by simp) (.slice a4 n4 c4)
         have HSz5 : Hid (w.heap.size + 2 ≤ (w4.setCell ⟨w.heap.size + 1, 1, none⟩ (.slice a4 n4 c4)).heap.size) := by have := HSz4.out; unfold Hid; simpa [World.setCell] using this
         go_wp2
         go_roundw
         case rel => exact ⟨k + 1, a4, n4, c4, by omega, by go_num, HR5, HS5, HO5, HK5, HAp4, HSz5, B5.out⟩
         case measure => simp [intOf]; omega
       · obtain rfl : k = m + 1 := by omega
         have hzz : ¬ ((m + 1 : Nat) : Int) ≤ (m : Int) := by omega
         obtain ⟨t0, t1⟩ := HR.out.two
         obtain ⟨s0, s1⟩ := HS.out.two
         have g0 := HS.out.frozen 0
         have g1 := HS.out.frozen 1
         go_wp2
         refine qAx HS.out bel (zw0 _) _ _ rfl rfl Tryz.underlying139 rfl (by kernel_rfl) ?_
         intro w' K' B'
         exact ⟨_, _, rfl, (HO.out.keptL K' (by omega)).mono (by omega), by rw [HK2.out]; exact (HOK.out.keptL K' (by omega)).mono (by omega), B'⟩
theorem qTJ (w : World) (P P' : Nat → Prop) (a a' : Option Addr) (n c n' c' : Nat) (l m : List Itm) (hL : rItms.rd w P [.slice a n c] l) (hM : rItms.rd w P' [.slice a' n' c'] m) :
 Calls Tryz.prog 13 #[.slice a n c, .slice a' n' c'] w fun e w' => e = .returned (.bool (decide (l = m))) ∧ Below w.heap.size w w' := by
 obtain ⟨hl, hnc, hnil, hb⟩ := q0x hL
 obtain ⟨hl', hnc', hnil', hb'⟩ := q0x hM
 have hn : n ≤ 8796093022000 := by have : n * 16 ≤ 140737488351232 := hb; omega
 have hn' : n' ≤ 8796093022000 := by have : n' * 16 ≤ 140737488351232 := hb'; omega
 have HL : Hid _ := hl
 have HL' : Hid _ := hl'
 have HR : Hid _ := hL
 have HM : Hid _ := hM
 clear hl hl' hnc hnc' hnil hnil' hb hb' hL hM
 obtain ⟨r, hr⟩ : ∃ r, r = decide (l = m) := ⟨_, rfl⟩
 rw [← hr]
 have HD : Hid _ := hr
 clear hr
 have heq := equal_itm
 go_enter Tryz.func13, Tryz.ntmps13
 by_cases hnn : n = n'
 · subst hnn
   go_wp2
   go_loopw [5] (fun i wr => ∃ j : Nat, j ≤ n ∧ i = .int .i64 j ∧ Hid (l.take j = m.take j) ∧ Below w.heap.size w wr) (fun i _ => n - (intOf i).toNat)
   case atStart => exact ⟨0, Nat.zero_le _, rfl, rfl, Below.refl _ _⟩
   case round =>
    obtain ⟨j, hj, rfl, HT, bel⟩ := hrel
    by_cases hlt : j < n
    · have hkl : j < l.length := by rw [HL.out]; exact hlt
      have hkm : j < m.length := by rw [HL'.out]; exact hlt
      obtain ⟨g, off, rfl, -, hgl, hat⟩ := q0Z (Rep.below HR.out bel) (by omega)
      obtain ⟨c0, c1⟩ := hat j hkl
      obtain ⟨g', off', rfl, -, hgl', hat'⟩ := q0Z (Rep.below HM.out bel) (by omega)
      obtain ⟨c0', c1'⟩ := hat' j hkm
      have HN : Hid (l[j] = m[j] → l.take (j + 1) = m.take (j + 1)) := fun e => take_next HT.out hkl hkm e
      have HX : Hid (l[j] ≠ m[j] → l ≠ m) := fun e e2 => e (by subst e2; rfl)
      obtain ⟨X, hX⟩ : ∃ X, X = l[j] := ⟨_, rfl⟩
      obtain ⟨Y, hY⟩ : ∃ Y, Y = m[j] := ⟨_, rfl⟩
      rw [← hX] at c0 c1 HN HX
      rw [← hY] at c0' c1' HN HX
      clear hX hY hat hat'
      have hkn : (j : Int) < (n : Int) := by omega
      by_cases he : X = Y
      · have HN2 : Hid _ := HN.out he
        clear HN HX
        go_wp2_with fail
        go_quiet (fail)
        go_wp2
        go_roundw
        case rel => exact ⟨j + 1, by omega, by go_num, HN2, q1x bel nq⟩
        case measure => simp [intOf]; omega
      · have HN2 : Hid (r = false) := HD.out.trans (decide_eq_false (HX.out he))
        clear HN HX
        go_wp2_with fail
        go_quiet (fail)
        go_wp2
        go_ret
        exact ⟨by rw [HN2.out]; rfl, q1x bel nq⟩
    · obtain rfl : j = n := by omega
      have HN2 : Hid (r = true) := HD.out.trans (decide_eq_true (by have h := HT.out; rw [List.take_of_length_le (by rw [HL.out]; exact zw0 _), List.take_of_length_le (by rw [HL'.out]; exact zw0 _)] at h; exact h))
      go_wp2
      go_ret
      exact ⟨by rw [HN2.out]; rfl, bel⟩
 · have HN2 : Hid (r = false) := HD.out.trans (decide_eq_false (fun e => hnn (by rw [← HL.out, ← HL'.out, e])))
   have hni : (n : Int) ≠ (n' : Int) := by omega
   go_wp2
   go_ret
   exact ⟨by rw [HN2.out]; rfl, Below.refl _ _⟩
theorem Lf.way_next {l : List Itm} {k : Nat} (hk : k < l.length) (key : UInt64) : ((l.take (k + 1)).filter fun x => decide (x.1.toNat ≤ key.toNat)).length = ((l.take k).filter fun x => decide (x.1.toNat ≤ key.toNat)).length + (if l[k].1.toNat ≤ key.toNat then 1 else 0) := by
 rw [List.take_succ_eq_append_getElem hk, List.filter_append, zw2]
 congr 1
 by_cases c : l[k].1.toNat ≤ key.toNat
 · rw [if_pos c]; simp [c]
 · rw [if_neg c]; simp [c]
set_option maxRecDepth 20000 in
theorem qTX (w : World) (P P' : Nat → Prop) (a a' : Option Addr) (n c n' c' : Nat) (l : List Itm) (ks : List Int) (hL : rItms.rd w P [.slice a n c] l) (hK : rKids.rd w P' [.slice a' n' c'] ks) :
 Calls Tryz.prog 120 #[.agg #[.slice a n c, .slice a' n' c']] w fun e w' => e = .returned (.int .i64 (Lf.encodeE (l, ks))) ∧ Below w.heap.size w w' := by
 have HR : Hid _ := hL
 have HK : Hid _ := hK
 have HN : Hid (l.length = n) := (q0x hL).1
 have HN' : Hid (ks.length = n') := (q0x hK).1
 have hn0 : n ≤ 8796093022000 := by have : n * 16 ≤ 140737488351232 := (q0x hL).2.2.2; omega
 have hn1 : n' ≤ 17592186044000 := by have : n' * 8 ≤ 140737488351232 := (q0x hK).2.2.2; omega
 have HLen : Hid (Lf.LenOk (l, ks) ↔ 1 ≤ n ∧ n ≤ 3 ∧ (n' = 0 ∨ n' = n + 1)) := by unfold Hid Lf.LenOk; simp only [HN.out, HN'.out]
 obtain ⟨r, hr⟩ : ∃ r, r = Lf.encodeE (l, ks) := ⟨_, rfl⟩
 rw [← hr]
 have HD : Hid _ := hr
 clear hr
 obtain ⟨w0, hw0, V0, b0, z0⟩ := q0q w 139 [.slice a n c, .slice a' n' c']
 have HV0 : Hid _ := V0
 have B0 : Hid _ := b0
 clear hL hK V0 b0 z0
 go_enter Tryz.func120, Tryz.ntmps120
 obtain ⟨r0, r1⟩ := HV0.out.two
 by_cases g1 : n < 1
 · have HX : Hid (r = 9) := HD.out.trans (Lf.enc9 fun h => by have := HLen.out.1 h.1; omega)
   have g1z : (n : Int) < 1 := by omega
   go_wp2
   go_ret
   exact ⟨by rw [HX.out]; rfl, B0.out⟩
 by_cases g2 : n > 3
 · have HX : Hid (r = 9) := HD.out.trans (Lf.enc9 fun h => by have := HLen.out.1 h.1; omega)
   have g1z : ¬ (n : Int) < 1 := by omega
   have g2z : (n : Int) > 3 := by omega
   go_wp2
   go_ret
   exact ⟨by rw [HX.out]; rfl, B0.out⟩
 by_cases g3 : n' > 0 ∧ n' ≠ n + 1
 · have HX : Hid (r = 9) := HD.out.trans (Lf.enc9 fun h => by have := HLen.out.1 h.1; omega)
   have g1z : ¬ (n : Int) < 1 := by omega
   have g2z : ¬ (n : Int) > 3 := by omega
   have g3z : (n' : Int) > 0 := by omega
   have g4z : (n' : Int) ≠ (n : Int) + 1 := by omega
   go_wp2
   go_ret
   exact ⟨by rw [HX.out]; rfl, B0.out⟩
 have g1z : ¬ (n : Int) < 1 := by omega
 have g2z : ¬ (n : Int) > 3 := by omega
 have HLn : Hid (Lf.LenOk (l, ks)) := HLen.out.2 (by omega)
 have HIt : Hid (∀ (k : Nat) (h : k < l.length), Lf.ItemOk (l, ks) k ↔ (0 < k → l[k - 1].1.toNat < l[k].1.toNat) ∧ (0 < n' → l[k].2.toNat = 0)) := by
  intro k h
  rw [← HN'.out]
  exact ⟨fun e => e h, fun e _ => e⟩
 have HKd : Hid (∀ (k : Nat) (h : k < ks.length), Lf.KidOk (l, ks) k ↔ (1 ≤ ks[k] ∧ ks[k] ≤ 2048) ∧ ∀ (i : Nat) (hi : i < k), ks[i] ≠ ks[k]) := fun k h => ⟨fun e => e h, fun e _ => e⟩
 have HItn : True := trivial
 by_cases hn' : n' = 0
 · have g3z : ¬ (n' : Int) > 0 := by omega
   have g3d : decide ((n' : Int) > 0) = false := decide_eq_false g3z
   clear hn'
   go_wp2
   go_loopw [3] (fun i wr => ∃ k : Nat, k ≤ n ∧ i = .int .i64 k ∧ Hid (∀ j, j < k → Lf.ItemOk (l, ks) j) ∧ Below w0.heap.size w0 wr) (fun i _ => n - (intOf i).toNat)
   case atStart => exact ⟨0, Nat.zero_le _, rfl, fun j h => absurd h (Nat.not_lt_zero _), Below.refl _ _⟩
   case round =>
    obtain ⟨k, hk, rfl, HS, bel⟩ := hrel
    have BW : Hid _ := on B0.out bel
    obtain ⟨r0, r1⟩ := (HV0.out.below bel).two
    by_cases hlt : k < n
    · have hkl : k < l.length := by rw [HN.out]; exact hlt
      obtain ⟨g, off, rfl, -, -, hat⟩ := q0Z (Rep.below HR.out BW.out) (by omega)
      obtain ⟨c0, c1⟩ := hat k hkl
      have HI := HIt.out k hkl
      have HNx : Hid (Lf.ItemOk (l, ks) k → ∀ j, j < k + 1 → Lf.ItemOk (l, ks) j) := fun e j hj => if h : j = k then h ▸ e else HS.out j (by omega)
      have hkz : (k : Int) < (n : Int) := by omega
      by_cases k0 : k = 0
      · have k0n : ¬ 0 < k := by omega
        have k0z : decide (0 < k) = false := decide_eq_false k0n
        clear k0
        obtain ⟨y, hX⟩ : ∃ y, y = l[k] := ⟨_, rfl⟩
        rw [← hX] at c0 c1 HI
        clear hX hat
        have HN2 : Hid _ := HNx.out (HI.2 ⟨fun _ => by omega, fun _ => by omega⟩)
        clear HNx HI
        go_wp2_with fail
        go_quiet (fail)
        go_wp2
        go_roundw
        case rel => exact ⟨k + 1, by omega, by go_num, HN2, q1x bel nq⟩
        case measure => simp [intOf]; omega
      · have k0p : 0 < k := by omega
        have k0z : decide (0 < k) = true := decide_eq_true k0p
        have k1z : ((k : Int) - 1).toNat = k - 1 := by omega
        have k2z : (0 : Int) ≤ (k : Int) - 1 := by omega
        have k3z : (k : Int) - 1 < (n : Int) := by omega
        obtain ⟨p0, p1⟩ := hat (k - 1) (by omega)
        obtain ⟨y, hX⟩ : ∃ y, y = l[k] := ⟨_, rfl⟩
        rw [← hX] at c0 c1 HI
        obtain ⟨z, hZ⟩ : ∃ z, z = l[k - 1] := ⟨_, rfl⟩
        rw [← hZ] at p0 p1 HI
        clear hX hZ hat
        by_cases ck : y.1.toNat ≤ z.1.toNat
        · have ckz : decide (y.1.toNat ≤ z.1.toNat) = true := decide_eq_true ck
          have HX : Hid (r = 9) := HD.out.trans (Lf.enc9 fun h => by have := HI.1 (h.2.1 k); have := this.1 (by omega); omega)
          clear HNx HI
          go_wp2_with fail
          go_quiet (fail)
          go_wp2
          go_ret
          exact ⟨by rw [HX.out]; rfl, q1x BW.out nq⟩
        · have ckz : decide (y.1.toNat ≤ z.1.toNat) = false := decide_eq_false ck
          have HN2 : Hid _ := HNx.out (HI.2 ⟨fun _ => by omega, fun _ => by omega⟩)
          clear HNx HI
          go_wp2_with fail
          go_quiet (fail)
          go_wp2
          go_roundw
          case rel => exact ⟨k + 1, by omega, by go_num, HN2, q1x bel nq⟩
          case measure => simp [intOf]; omega
    · obtain rfl : n = k := by omega
      have HAll : Hid (∀ j, Lf.ItemOk (l, ks) j) := fun j h => if hj : j < n then HS.out j hj h else absurd h (by have := HN.out; show ¬ j < l.length; omega)
      clear HS
      go_wp2
      go_loopw [4] (fun i wr => ∃ k : Nat, k ≤ n' ∧ i = .int .i64 k ∧ Hid (∀ j, j < k → Lf.KidOk (l, ks) j) ∧ Below w0.heap.size w0 wr) (fun i _ => n' - (intOf i).toNat)
      case atStart => exact ⟨0, Nat.zero_le _, rfl, fun j h => absurd h (Nat.not_lt_zero _), bel⟩
      case round =>
       clear r0 r1 bel BW
       obtain ⟨k, hk, rfl, HS, bel⟩ := hrel
       have BW : Hid _ := on B0.out bel
       obtain ⟨r0, r1⟩ := (HV0.out.below bel).two
       by_cases hlt : k < n'
       · exfalso; omega
       · obtain rfl : n' = k := by omega
         have HX : Hid (r = 0) := HD.out.trans (Lf.enc0 ⟨HLn.out, HAll.out, fun j h => if hj : j < n' then HS.out j hj h else absurd h (by have := HN'.out; show ¬ j < ks.length; omega)⟩)
         go_wp2
         go_ret
         exact ⟨by rw [HX.out]; rfl, BW.out⟩
 · have g3z : (n' : Int) > 0 := by omega
   have g3d : decide ((n' : Int) > 0) = true := decide_eq_true g3z
   have g4z : ((n' : Int) == (n : Int) + 1) = true := beq_iff_eq.2 (by omega)
   have g5z : decide (0 < n') = true := decide_eq_true (by omega)
   clear hn' g3
   go_wp2
   go_loopw [3] (fun i wr => ∃ k : Nat, k ≤ n ∧ i = .int .i64 k ∧ Hid (∀ j, j < k → Lf.ItemOk (l, ks) j) ∧ Below w0.heap.size w0 wr) (fun i _ => n - (intOf i).toNat)
   case atStart => exact ⟨0, Nat.zero_le _, rfl, fun j h => absurd h (Nat.not_lt_zero _), Below.refl _ _⟩
   case round =>
    obtain ⟨k, hk, rfl, HS, bel⟩ := hrel
    have BW : Hid _ := on B0.out bel
    obtain ⟨r0, r1⟩ := (HV0.out.below bel).two
    by_cases hlt : k < n
    · have hkl : k < l.length := by rw [HN.out]; exact hlt
      obtain ⟨g, off, rfl, -, -, hat⟩ := q0Z (Rep.below HR.out BW.out) (by omega)
      obtain ⟨c0, c1⟩ := hat k hkl
      have HI := HIt.out k hkl
      have HNx : Hid (Lf.ItemOk (l, ks) k → ∀ j, j < k + 1 → Lf.ItemOk (l, ks) j) := fun e j hj => if h : j = k then h ▸ e else HS.out j (by omega)
      have hkz : (k : Int) < (n : Int) := by omega
      by_cases k0 : k = 0
      · have k0n : ¬ 0 < k := by omega
        have k0z : decide (0 < k) = false := decide_eq_false k0n
        clear k0
        obtain ⟨y, hX⟩ : ∃ y, y = l[k] := ⟨_, rfl⟩
        rw [← hX] at c0 c1 HI
        clear hX hat
        by_cases d : y.2.toNat = 0
        · rw [d] at c1
          have HN2 : Hid _ := HNx.out (HI.2 ⟨fun _ => by omega, fun _ => by omega⟩)
          clear HNx HI d
          go_wp2_with fail
          go_quiet (fail)
          go_wp2
          go_roundw
          case rel => exact ⟨k + 1, by omega, by go_num, HN2, q1x bel nq⟩
          case measure => simp [intOf]; omega
        · obtain ⟨v, hv⟩ : ∃ v, v = y.2.toNat := ⟨_, rfl⟩
          rw [← hv] at c1 d HI
          have d1 : 0 < v := by omega
          have d2 : ¬ v = 0 := by omega
          have HX : Hid (r = 9) := HD.out.trans (Lf.enc9 fun h => by have := HI.1 (h.2.1 k); exact d (this.2 (by omega)))
          clear HNx HI d hv
          go_wp2_with fail
          go_quiet (fail)
          go_wp2
          go_ret
          exact ⟨by rw [HX.out]; rfl, q1x BW.out nq⟩
      · have k0p : 0 < k := by omega
        have k0z : decide (0 < k) = true := decide_eq_true k0p
        have k1z : ((k : Int) - 1).toNat = k - 1 := by omega
        have k2z : (0 : Int) ≤ (k : Int) - 1 := by omega
        have k3z : (k : Int) - 1 < (n : Int) := by omega
        obtain ⟨p0, p1⟩ := hat (k - 1) (by omega)
        obtain ⟨y, hX⟩ : ∃ y, y = l[k] := ⟨_, rfl⟩
        rw [← hX] at c0 c1 HI
        obtain ⟨z, hZ⟩ : ∃ z, z = l[k - 1] := ⟨_, rfl⟩
        rw [← hZ] at p0 p1 HI
        clear hX hZ hat
        by_cases ck : y.1.toNat ≤ z.1.toNat
        · have ckz : decide (y.1.toNat ≤ z.1.toNat) = true := decide_eq_true ck
          have HX : Hid (r = 9) := HD.out.trans (Lf.enc9 fun h => by have := HI.1 (h.2.1 k); have := this.1 (by omega); omega)
          clear HNx HI
          go_wp2_with fail
          go_quiet (fail)
          go_wp2
          go_ret
          exact ⟨by rw [HX.out]; rfl, q1x BW.out nq⟩
        · have ckz : decide (y.1.toNat ≤ z.1.toNat) = false := decide_eq_false ck
          by_cases d : y.2.toNat = 0
          · rw [d] at c1
            have HN2 : Hid _ := HNx.out (HI.2 ⟨fun _ => by omega, fun _ => by omega⟩)
            clear HNx HI d
            go_wp2_with fail
            go_quiet (fail)
            go_wp2
            go_roundw
            case rel => exact ⟨k + 1, by omega, by go_num, HN2, q1x bel nq⟩
            case measure => simp [intOf]; omega
          · obtain ⟨v, hv⟩ : ∃ v, v = y.2.toNat := ⟨_, rfl⟩
            rw [← hv] at c1 d HI
            have d1 : 0 < v := by omega
            have d2 : ¬ v = 0 := by omega
            have HX : Hid (r = 9) := HD.out.trans (Lf.enc9 fun h => by have := HI.1 (h.2.1 k); exact d (this.2 (by omega)))
            clear HNx HI d hv
            go_wp2_with fail
            go_quiet (fail)
            go_wp2
            go_ret
            exact ⟨by rw [HX.out]; rfl, q1x BW.out nq⟩
    · obtain rfl : n = k := by omega
      have HAll : Hid (∀ j, Lf.ItemOk (l, ks) j) := fun j h => if hj : j < n then HS.out j hj h else absurd h (by have := HN.out; show ¬ j < l.length; omega)
      clear HS
      go_wp2
      go_loopw [4] (fun i wr => ∃ k : Nat, k ≤ n' ∧ i = .int .i64 k ∧ Hid (∀ j, j < k → Lf.KidOk (l, ks) j) ∧ Below w0.heap.size w0 wr) (fun i _ => n' - (intOf i).toNat)
      case atStart => exact ⟨0, Nat.zero_le _, rfl, fun j h => absurd h (Nat.not_lt_zero _), bel⟩
      case round =>
       clear r0 r1 bel BW
       obtain ⟨k, hk, rfl, HS, bel⟩ := hrel
       have BW : Hid _ := on B0.out bel
       obtain ⟨r0, r1⟩ := (HV0.out.below bel).two
       by_cases hlt : k < n'
       · have hkl : k < ks.length := by rw [HN'.out]; exact hlt
         obtain ⟨g, off, rfl, -, -, hat⟩ := q2z (Rep.below HK.out BW.out) (by omega)
         obtain ⟨c0, lo, hi⟩ := hat k hkl
         have HI := HKd.out k hkl
         have HNx : Hid (Lf.KidOk (l, ks) k → ∀ j, j < k + 1 → Lf.KidOk (l, ks) j) := fun e j hj => if h : j = k then h ▸ e else HS.out j (by omega)
         have hkz : (k : Int) < (n' : Int) := by omega
         obtain ⟨X, hX⟩ : ∃ X, X = ks[k] := ⟨_, rfl⟩
         have HXk : Hid _ := hX
         rw [← hX] at c0 lo hi HI
         clear hX hat
         by_cases x1 : X < 1
         · have HX : Hid (r = 9) := HD.out.trans (Lf.enc9 fun h => by have := HI.1 (h.2.2 k); omega)
           clear HNx HI
           go_wp2
           go_ret
           exact ⟨by rw [HX.out]; rfl, BW.out⟩
         · by_cases x2 : X > 2048
           · have HX : Hid (r = 9) := HD.out.trans (Lf.enc9 fun h => by have := HI.1 (h.2.2 k); omega)
             clear HNx HI
             go_wp2
             go_ret
             exact ⟨by rw [HX.out]; rfl, BW.out⟩
           · have HI2 : Hid ((∀ (i : Nat) (hi : i < k), ks[i] ≠ X) ↔ Lf.KidOk (l, ks) k) := ⟨fun e => HI.2 ⟨⟨by omega, by omega⟩, e⟩, fun e => (HI.1 e).2⟩
             clear HI
             go_wp2
             go_loopw [5] (fun i wr => ∃ m : Nat, m ≤ k ∧ i = .int .i64 m ∧ Hid (∀ (j : Nat) (hj : j < k), j < m → ks[j] ≠ X) ∧ Below w0.heap.size w0 wr) (fun i _ => k - (intOf i).toNat)
             case atStart => exact ⟨0, Nat.zero_le _, rfl, fun j _ h => absurd h (Nat.not_lt_zero _), bel⟩
             case round =>
              clear r0 r1 bel BW c0
              obtain ⟨m, hm, rfl, HT, bel⟩ := hrel
              have BW : Hid _ := on B0.out bel
              obtain ⟨r0, r1⟩ := (HV0.out.below bel).two
              by_cases hmk : m < k
              · obtain ⟨g2, off2, e2, -, -, hat⟩ := q2z (Rep.below HK.out BW.out) (by omega)
                obtain ⟨rfl, rfl⟩ : g = g2 ∧ off = off2 := by simpa using e2
                clear e2
                have c0 := (hat k hkl).1
                rw [← HXk.out] at c0
                have c1 := (hat m (by omega)).1
                have HT1 : Hid (ks[m] ≠ X → ∀ (j : Nat) (hj : j < k), j < m + 1 → ks[j] ≠ X) := fun e j hj h => if h2 : j = m then by subst h2; exact e else HT.out j hj (by omega)
                have HT2 : Hid (Lf.KidOk (l, ks) k → ks[m] ≠ X) := fun e => HI2.out.2 e m hmk
                obtain ⟨Y, hY⟩ : ∃ Y, Y = ks[m] := ⟨_, rfl⟩
                rw [← hY] at c1 HT1 HT2
                clear hY hat
                have hmz : (m : Int) < (k : Int) := by omega
                have hmz2 : (m : Int) < (n' : Int) := by omega
                by_cases he : Y = X
                · have HX : Hid (r = 9) := HD.out.trans (Lf.enc9 fun h => HT2.out (h.2.2 k) he)
                  have heb : (Y == X) = true := beq_iff_eq.2 he
                  clear he HT1 HT2
                  go_wp2_with fail
                  go_quiet (fail)
                  go_wp2
                  go_ret
                  exact ⟨by rw [HX.out]; rfl, q1x BW.out nq⟩
                · have HN2 : Hid _ := HT1.out he
                  have heb : (Y == X) = false := beq_eq_false_iff_ne.2 he
                  clear he HT1 HT2
                  go_wp2_with fail
                  go_quiet (fail)
                  go_wp2
                  go_roundw
                  case rel => exact ⟨m + 1, by omega, by go_num, HN2, q1x bel nq⟩
                  case measure => simp [intOf]; omega
              · obtain rfl : k = m := by omega
                have HN2 : Hid _ := HNx.out (HI2.out.1 fun i hi => HT.out i hi hi)
                clear HNx HI2 HT
                go_wp2
                go_roundw
                case rel => exact ⟨k + 1, by omega, by go_num, HN2, bel⟩
                case measure => simp [intOf]; omega
       · obtain rfl : n' = k := by omega
         have HX : Hid (r = 0) := HD.out.trans (Lf.enc0 ⟨HLn.out, HAll.out, fun j h => if hj : j < n' then HS.out j hj h else absurd h (by have := HN'.out; show ¬ j < ks.length; omega)⟩)
         go_wp2
         go_ret
         exact ⟨by rw [HX.out]; rfl, BW.out⟩
theorem and_one (y : Nat) (h : y < 4294967296) : bits BinOp.and IntKind.u32 (y : Int) 1 = ((y % 2 : Nat) : Int) := by
 have := u32_and_nat y 1 h (by decide)
 rw [Nat.and_one_is_mod] at this
 simpa using this
theorem odd_bit (y : Nat) (h : y < 4294967296) (ho : y % 2 = 1) : (bits BinOp.and IntKind.u32 (y : Int) 1 == 1) = true := by
 rw [and_one y h, ho]; rfl
theorem even_bit (y : Nat) (h : y < 4294967296) (ho : ¬ y % 2 = 1) : (bits BinOp.and IntKind.u32 (y : Int) 1 == 1) = false := by
 rw [and_one y h, show y % 2 = 0 from by omega]; rfl
theorem qXZ (r : Nat) (h : r < 4294967296) : bits BinOp.xor IntKind.u32 IntKind.u32.max (r : Int) = ((4294967295 - r : Nat) : Int) := by
 have h1 := u32_xor_nat 4294967295 r (by decide) h
 rw [Crc.flip_xor h, Nat.xor_comm, ← h1]
 rfl
theorem refRun_u (w : World) (c0 : Nat) (C : Int) (hC : C = (c0 : Int)) (hc0 : c0 < 4294967296) (a : Option Addr) (n cap : Nat) (l : List UInt8) (hn : n ≤ maxLen) (hB : IsB w a n l) :
 Calls Tryz.prog 143 #[.int .u32 C, .slice a n cap] w fun e w' => e = .returned (.int .u32 (Crc.run c0 l : Nat)) ∧ w = w' := by
 subst hC
 have hl := hB.1
 unfold maxLen at hn
 have HR0 : Hid (c0 = Crc.run c0 (l.take 0)) := by unfold Hid; rw [List.take_zero, Crc.run_nil]
 go_enter Tryz.func143, Tryz.ntmps143
 go_wp2
 go_loop [0, 5] (fun v i => ∃ (k r : Nat), k ≤ n ∧ i = .int .i64 k ∧ v = .int .u32 r ∧ r < 4294967296 ∧ Hid (r = Crc.run c0 (l.take k)))
  (fun _ i => n - (intOf i).toNat)
 case atStart => exact ⟨0, c0, Nat.zero_le _, rfl, rfl, hc0, HR0⟩
 case round =>
  obtain ⟨k, r, hk, rfl, rfl, hr, HR⟩ := hrel
  by_cases hlt : k < n
  · obtain ⟨b, off, rfl, hcell⟩ := hB.place (by omega)
    have d1 := hcell k (by omega)
    have hx : (l[k]'(by omega)).toNat < 256 := by have := (l[k]'(by omega)).toNat_lt; simpa using this
    have hnext : Crc.run c0 (l.take (k + 1)) = Crc.steps 8 (Crc.run c0 (l.take k) ^^^ (l[k]'(by omega)).toNat) := by
     rw [List.take_succ_eq_append_getElem (by omega), Crc.run_append, Crc.run_cons, Crc.run_nil]
    rw [← HR.out] at hnext
    generalize (l[k]'(by omega)).toNat = x at *
    have HN : Hid _ := hnext
    clear hnext hcell
    have hw8 : IntKind.u32.wrap (x : Int) = (x : Int) := by simp [IntKind.wrap, IntKind.bits, IntKind.signed]; omega
    have hxor := u32_xor_nat r x hr (by omega)
    have hlt0 := Crc.xor_lt hr (show x < 4294967296 by omega)
    generalize r ^^^ x = y0 at *
    have HS0 : Hid (y0 = Crc.steps 0 y0) := by unfold Hid; simp only [Crc.steps]
    go_wp2
    clear hxor hw8 hr HR d1
    go_loop [0, 6] (fun v i => ∃ (j y : Nat), j ≤ 8 ∧ i = .int .i64 j ∧ v = .int .u32 y ∧ y < 4294967296 ∧ Hid (y = Crc.steps j y0))
     (fun _ i => 8 - (intOf i).toNat)
    case atStart => exact ⟨0, y0, Nat.zero_le _, rfl, rfl, hlt0, HS0⟩
    case round =>
     obtain ⟨j, y, hj, rfl, rfl, hy, HY⟩ := hrel
     by_cases hj8 : j < 8
     · have hstep : Crc.steps (j + 1) y0 = Crc.step y := by
        have h1 := HY.out
        rw [Crc.steps_add, ← h1]
        simp only [Crc.steps]
       have hylt := Crc.step_lt hy
       have HST : Hid _ := hstep
       clear hstep
       by_cases ho : y % 2 = 1
       · have hob := odd_bit y hy ho
         have hxy : bits BinOp.xor IntKind.u32 ((y : Int) / 2) 2197175160 = ((Crc.step y : Nat) : Int) := by
          have h1 := u32_xor_nat (y / 2) 2197175160 (by omega) (by decide)
          have h2 : Crc.step y = (y / 2) ^^^ 2197175160 := by unfold Crc.step; rw [if_pos ho]
          rw [h2]
          simpa using h1
         have HXY : Hid _ := hxy
         clear hxy ho
         go_wp2
         go_round
         case rel => exact ⟨j + 1, Crc.step y, by omega, by go_num, by rw [HXY.out], hylt, HST.out.symm⟩
         case measure => simp [intOf]; omega
       · have hob := even_bit y hy ho
         have hst : Crc.step y = y / 2 := by unfold Crc.step; rw [if_neg ho]
         have HSY : Hid _ := hst
         clear hst ho
         go_wp2
         go_round
         case rel => exact ⟨j + 1, y / 2, by omega, by go_num, by go_num, by omega, by unfold Hid; rw [HST.out, HSY.out]⟩
         case measure => simp [intOf]; omega
     · have e : j = 8 := by omega
       subst e
       go_wp2
       go_round
       case rel => exact ⟨k + 1, y, by omega, by go_num, rfl, hy, by unfold Hid; rw [HN.out]; exact HY.out⟩
       case measure => simp [intOf]; omega
  · have e : k = n := by omega
    subst e
    go_wp2
    go_ret
    have h1 := HR.out
    rw [List.take_of_length_le (by omega)] at h1
    exact ⟨by rw [← h1]; rfl, rfl⟩
theorem refSum_u (w : World) (a : Option Addr) (n cap : Nat) (l : List UInt8) (hn : n ≤ maxLen) (hB : IsB w a n l) :
 Calls Tryz.prog 135 #[.slice a n cap] w fun e w' => e = .returned (.int .u32 (Crc.sum l : Nat)) ∧ w = w' := by
 have hlt := Crc.run_lt l (show 4294967295 < 4294967296 by decide)
 have hs : Crc.sum l = 4294967295 - Crc.run 4294967295 l := by unfold Crc.sum; rfl
 have HS : Hid _ := hs
 clear hs
 go_enter Tryz.func135, Tryz.ntmps135
 go_wp2_with fail
 refine (refRun_u w 4294967295 _ rfl (by decide) a n cap l hn hB).mono ?_
 rintro e w1 ⟨rfl, rfl⟩
 generalize Crc.run 4294967295 l = r at *
 have hnot := qXZ r hlt
 rw [← HS.out] at hnot
 go_wp2
 go_ret
 exact ⟨rfl, rfl⟩
theorem copied_u (w : World) (a : Option Addr) (n c : Nat) (l : List UInt8) (hn : n ≤ 140737488355328) (hc : a = none → c = 0) (hB : IsB w a n l) :
 Calls Tryz.prog 27 #[.slice a n c] w fun e w' => ∃ b d, e = .returned (.slice b n d) ∧
  w'.ownsRow w.heap.size 5 1 (.slice b n d) n (cellsOf l) ∧ Below w.heap.size w w' := by
 obtain ⟨i0, hi, hz0, hz1, hz2⟩ := info_parts qAZ
 have hl := hB.1
 cases a with
 | none =>
   have hn0 := hB.2.1 rfl
   have hc0 := hc rfl
   subst hn0
   subst hc0
   have : l = [] := List.length_eq_zero_iff.1 hl
   subst this
   go_enter Tryz.func27, Tryz.ntmps27
   go_wp2_with (at_builtin; refine wpList_append_own_none rfl _ _ 53 rfl w.heap.size 5 i0 1 Tryz.underlying53 hi _ 0 [] rfl (World.ownsRow_nil w _ _ _) rfl ?_)
   go_ret
   exact ⟨none, 0, rfl, q7J _ _, Below.refl _ _⟩
 | some x =>
   go_enter Tryz.func27, Tryz.ntmps27
   go_wp2_with (at_builtin; refine wpList_append_own _ rfl _ _ 53 rfl w.heap.size 5 i0 (.int .u8 0) 1 1 Tryz.underlying53 hi hz0 hz1 hz2 rfl (by decide) _ 0 [] rfl (World.ownsRow_nil w _ _ _) x n c (cellsOf l) rfl (by simp [cellsOf, hl]) (qIJ hB) (q6j l) (by unfold maxLen; omega) (by omega) (zw0 _) ?_)
   intro v' w1 hown hgrow _
   try simp only [Nat.zero_add, List.nil_append] at hown
   obtain ⟨b, d, rfl, -⟩ := qBx hown
   go_wp2
   go_ret
   exact ⟨b, d, rfl, hown, (Below.refl _ _).grown hgrow (zw0 _) (fun k h => by cases h)⟩
theorem isB_le4 (w : World) (c : Nat) (hc : c < 4294967296) : IsB (w.alloc (.cells #[.int .u8 ((c : Int) % 256), .int .u8 ((c : Int) / 256 % 256), .int .u8 ((c : Int) / 65536 % 256), .int .u8 ((c : Int) / 16777216)] 5)) (some ⟨w.heap.size, 0, none⟩) 4 (Crc.le4 c) := by
 refine ⟨rfl, fun (e : some _ = none) => (by cases e), fun x hx j hj => ?_⟩
 simp only [Option.some.injEq] at hx
 subst hx
 rw [Addr.add_lit, Nat.zero_add]
 match j, hj with
 | 0, _ => simp [Crc.le4]
 | 1, _ => simp [Crc.le4]
 | 2, _ => simp [Crc.le4]
 | 3, _ => simp [Crc.le4]; omega
theorem qOZ (w : World) (a : Option Addr) (n cap : Nat) (l : List UInt8) (hn : n ≤ 140737488351232) (hnil : a = none → cap = 0) (hB : IsB w a n l) :
 Calls Tryz.prog 118 #[.slice a n cap] w fun e w' => ∃ b d, e = .returned (.slice b (n + 4) d) ∧
  w'.ownsRow w.heap.size 5 1 (.slice b (n + 4) d) (n + 4) (cellsOf (Crc.sealed l)) ∧ Below w.heap.size w w' := by
 have hs := Crc.sum_lt l
 have HL : Hid (Crc.sealed l = l ++ Crc.le4 (Crc.sum l)) := by unfold Hid Crc.sealed; rfl
 go_enter Tryz.func118, Tryz.ntmps118
 go_wp2_with fail
 refine (refSum_u w a n cap l (by unfold maxLen; omega) hB).mono ?_
 rintro e w1 ⟨rfl, rfl⟩
 generalize Crc.sum l = c at *
 go_wp2_with fail
 refine (copied_u w a n cap l (by omega) hnil hB).mono ?_
 rintro e w1 ⟨b, d, rfl, ho, b1⟩
 have h4 := isB_le4 w1 c hs
 have hz := b1.size
 go_wp2_with (at_builtin; refine q5Z rfl _ _ rfl w.heap.size _ n l rfl (ho.alloc _) _ 4 4 _ rfl h4 (fun e => by cases e) (by omega) (by simp; omega) ?_)
 intro b2 d2 w2 ho2 hg2
 rw [← HL.out] at ho2
 have c2 : Below w.heap.size w w2 := (b1.alloc hz _).grown hg2 (by simp; omega) (q6q ho)
 clear ho hg2 b1 h4
 go_wp2
 go_ret
 exact ⟨b2, d2, rfl, ho2, c2⟩
theorem qWX (w : World) (a : Option Addr) (n cap : Nat) (h : n < 4) :
 Calls Tryz.prog 97 #[.slice a n cap] w fun e w' => e = .returned (.tuple #[.slice none 0 0, .int .i64 8]) ∧ w = w' := by
 go_enter Tryz.func97, Tryz.ntmps97
 go_wp2
 go_ret2
 exact ⟨rfl, rfl⟩
set_option maxRecDepth 20000 in
theorem refOpen_in (w : World) (a : Option Addr) (n cap : Nat) (l : List UInt8) (h4 : 4 ≤ n) (hn : n ≤ 140737488351232) (hcap : n ≤ cap) (hB : IsB w a n l) :
 Calls Tryz.prog 97 #[.slice a n cap] w fun e w' => ∃ b len d, e = .returned (.tuple #[.slice b len d, .int .i64 (Crc.openE l)]) ∧
  w'.ownsRow w.heap.size 5 1 (.slice b len d) len (cellsOf (Crc.openL l)) ∧ Below w.heap.size w w' := by
 have hl : l.length = n := hB.1
 have hcs := Crc.openE_cases l
 rw [hl] at hcs
 have HCS : Hid _ := hcs
 obtain ⟨b, off, rfl, -⟩ := hB.place (by omega)
 have hH := hB.head (n - 4) (by omega) (by omega)
 have hneg : ¬ ((n : Int) - 4 < 0) := by omega
 clear hcs
 go_enter Tryz.func97, Tryz.ntmps97
 go_upto_region 4 with fail
 go_cut [11] (fun t wx => t = .bool (Crc.sealed (l.take (n - 4)) != l) ∧ Below w.heap.size w wx)
 case first =>
  have hH2 : IsB w.drew (some ⟨b, off, none⟩) (n - 4) (l.take (n - 4)) := hH
  have hB2 : IsB w.drew (some ⟨b, off, none⟩) n l := hB
  have e0 := q4X w.drew _ n cap l hB2
  go_region_with (go_at_call 118; refine (qOZ w.drew _ (n - 4) cap (l.take (n - 4)) (by omega) (fun e => by cases e) hH2).mono ?_; rintro e w1 ⟨b1, d1, rfl, ho1, bb1⟩; have e1 := q4X w1 _ _ d1 _ (q4x ho1).1; rw [Nat.sub_add_cancel h4] at e1; have e2 := q4X w1 _ n cap l (hB2.below bb1))
  all_goals (try go_wp2_with fail)
  all_goals go_meet
  all_goals refine ⟨?_, ⟨bb1.os, bb1.tape, bb1.output, bb1.size, bb1.block⟩⟩
  all_goals rfl
 case rest =>
  obtain ⟨rfl, hb⟩ := hcut
  rcases HCS.out with ⟨g, _⟩ | ⟨_, g, e1, e2⟩ | ⟨_, g, e1, e2⟩
  · omega
  · have hne : (Crc.sealed (l.take (n - 4)) != l) = false := by rw [g]; exact bne_self_eq_false _
    have E1 : Hid _ := e1
    have E2 : Hid _ := e2
    rw [hne]
    clear e1 e2 g hne
    have hHc := hH.below hb
    have hsz := hb.size
    go_wp2_with (go_at_call 27; refine (copied_u _ _ (n - 4) cap _ (by omega) (fun e => by cases e) hHc).mono ?_; rintro e w3 ⟨b3, d3, rfl, ho3, bb3⟩)
    go_ret2
    exact ⟨b3, n - 4, d3, by rw [E1.out]; rfl, by rw [E2.out]; exact q9q ho3 hsz, on hb bb3⟩
  · have hne : (Crc.sealed (l.take (n - 4)) != l) = true := bne_iff_ne.2 g
    have E1 : Hid _ := e1
    have E2 : Hid _ := e2
    rw [hne]
    clear e1 e2 g hne
    go_wp2
    go_ret2
    exact ⟨none, 0, 0, by rw [E1.out]; rfl, by rw [E2.out]; exact q7J _ _, hb⟩
theorem qOJ (w : World) (a : Option Addr) (n cap : Nat) (l : List UInt8) (hn : n ≤ 140737488351232) (hcap : n ≤ cap) (hB : IsB w a n l) :
 Calls Tryz.prog 97 #[.slice a n cap] w fun e w' => ∃ b len d, e = .returned (.tuple #[.slice b len d, .int .i64 (Crc.openE l)]) ∧
  w'.ownsRow w.heap.size 5 1 (.slice b len d) len (cellsOf (Crc.openL l)) ∧ Below w.heap.size w w' := by
 by_cases h : n < 4
 · have hl : l.length = n := hB.1
   rcases Crc.openE_cases l with ⟨_, e1, e2⟩ | ⟨g, _⟩ | ⟨g, _⟩
   · rw [e1, e2]
     refine (qWX w a n cap h).mono ?_
     rintro e w' ⟨rfl, rfl⟩
     exact ⟨none, 0, 0, rfl, q7J _ _, Below.refl _ _⟩
   · omega
   · omega
 · exact refOpen_in w a n cap l (by omega) hn hcap hB
end Go.Proofs.YtkbmadoaomoojaaGreat
