/-
  What the walks of layer 7 lean on. Conditions: those that each lemma names.
-/
import Derived.Test.YtbglgplfjhiafaaRows
import Derived.Test.YtbglgplfjhiafaaIOwn
import Derived.Test.YtbglgplfjhiafaaFRet
import Derived.Test.YtbglgplfjhiafaaREqU
import Derived.Deep.QuietTactic
import Derived.BigQuiet
import Derived.Deep.RegionHeldLaw
import Derived.Deep.DeepCutAuto
namespace Go.Proofs.Ytbglgplfjhiafaa
open Go.RowKit
set_option linter.unusedVariables false

theorem on {w w1 w2 : World} (h : Below w.heap.size w w1) (k : Below w1.heap.size w1 w2) : Below w.heap.size w w2 := h.trans (k.mono h.size)

theorem ret_flag {b c : Bool} (h : b = true ↔ c = true) : Ending.returned (.bool b) = .returned (.bool c) := by rw [Bool.eq_iff_iff.2 h]

theorem same_drewN {a w : World} {B : Nat} (h : Below B a w) (n : Nat) : Below B a (w.drewN n) := ⟨h.os, h.tape, h.output, h.size, h.block⟩

/-- An operation of a region that yields its value in every world at hand is taken first, the state written out. -/
theorem wpAnyH_takeL {P : Program} {ops : Array Oper} {Q : Exit → Go.Act → World → Prop} {md : Region.Mode} {S : World → Prop} {i k : Nat} {oi : Oper} {v : Value} {fuel : Nat} {listed : Array Bool} {l : List Value} {d : List Deferred} {w : World} (hi : ops[i]? = some oi) (hk : oi.dst = some k)
    (hs : Region.noSelect ops = true) (hf : Region.free md ops listed i = true) (hr : (Region.ready md ops listed).contains i = true) (hQ : ∀ c a w, Q (.panic c) (a.put oi.dst v) w → Q (.panic c) a w) (hy : YieldsIf P ops S oi v ⟨l.toArray, d⟩)
    (hS : S w) (h : wpAnyH P md ops Q S fuel (listed.setIfInBounds i true) ⟨(l.set k v).toArray, d⟩ w) : wpAnyH P md ops Q S (fuel + 1) listed ⟨l.toArray, d⟩ w := by
  refine wpAnyH_take hi hs hf hr hQ hy hS ?_
  have e : Go.Act.put ⟨l.toArray, d⟩ oi.dst v = ⟨(l.set k v).toArray, d⟩ := by rw [hk]; simp [Go.Act.put]
  rw [e]
  exact h

/-- An operation of a region whose guard is not met is passed by. -/
theorem wpAnyH_passL {P : Program} {ops : Array Oper} {Q : Exit → Go.Act → World → Prop} {md : Region.Mode} {S : World → Prop} {i k : Nat} {oi : Oper} {fuel : Nat} {listed : Array Bool} {l : List Value} {d : List Deferred} {w : World} (hi : ops[i]? = some oi) (hk : oi.dst = some k)
    (hs : Region.noSelect ops = true) (hf : Region.free md ops listed i = true) (hr : (Region.ready md ops listed).contains i = true) (hw : Region.wanted oi (yielded ops l.toArray) = false)
    (hQ : ∀ c a w, Q (.panic c) (a.put oi.dst undef) w → Q (.panic c) a w) (hS : S w) (h : wpAnyH P md ops Q S fuel (listed.setIfInBounds i true) ⟨(l.set k undef).toArray, d⟩ w) : wpAnyH P md ops Q S (fuel + 1) listed ⟨l.toArray, d⟩ w :=
  wpAnyH_takeL (v := undef) hi hk hs hf hr hQ (Or.inr ⟨hw, rfl⟩) hS h

theorem max_fact (T : TypeId) : ∀ (x y : Int) (w : World), (Builtin.max_ #[T, T] T #[.int .i64 x, .int .i64 y]).run Try.prog w = .ok (.int .i64 (max x y)) w := by
  intro x y w
  rw [run_max_int2]
  congr 2
  split <;> omega

theorem min_fact (T : TypeId) : ∀ (x y : Int) (w : World), (Builtin.min_ #[T, T] T #[.int .i64 x, .int .i64 y]).run Try.prog w = .ok (.int .i64 (min x y)) w := by
  intro x y w
  rw [run_min_int2]
  congr 2
  split <;> omega

theorem take_next {α : Type} {l m : List α} {j : Nat} (h : l.take j = m.take j) (h1 : j < l.length) (h2 : j < m.length) (e : l[j] = m[j]) : l.take (j + 1) = m.take (j + 1) := by
  rw [List.take_succ_eq_append_getElem h1, List.take_succ_eq_append_getElem h2, h, e]

/-- A record of two numbers, or of a number and a list, in a variable. -/
theorem Row.two {w : World} {b : Nat} {t : TypeId} {x0 x1 : Value} (V : Row w b t [x0, x1]) : w.cell? ⟨b, 0, none⟩ = some x0 ∧ w.cell? ⟨b, 1, none⟩ = some x1 := ⟨V.cell (j := 0) rfl, V.cell (j := 1) rfl⟩

theorem below_drew_pre0 {w w' : World} (h : Below w.drew.heap.size w.drew w') : Below w.heap.size w w' := ⟨h.os, h.tape, h.output, h.size, h.block⟩

theorem below_drew_pre {w w' : World} (n : Nat) (h : Below (w.drewN n).heap.size (w.drewN n) w') : Below w.heap.size w w' := ⟨h.os, h.tape, h.output, h.size, h.block⟩

theorem below_alloc0 {w w0 : World} (h : Below w.heap.size w w0) (o : Obj) : Below w.heap.size w (w0.alloc o) := h.alloc h.size o

theorem rKids_at {w : World} {P : Nat → Prop} {a : Option Addr} {n c : Nat} {l : List Int} (h : rKids.rd w P [.slice a n c] l) (hn : 0 < n) :
    ∃ b off, a = some ⟨b, off, none⟩ ∧ P b ∧ b < w.heap.size ∧ ∀ (j : Nat) (hj : j < l.length), w.cell? ⟨b, off + j, none⟩ = some (.int .i64 l[j]) ∧ -9223372036854775808 ≤ l[j] ∧ l[j] ≤ 9223372036854775807 := by
  obtain ⟨b, off, e1, e2, e3, e4⟩ := rList_at h hn
  refine ⟨b, off, e1, e2, e3, fun j hj => ?_⟩
  obtain ⟨cj, g1, g2⟩ := e4 j hj
  obtain ⟨rfl, k⟩ := g1
  have g0 := g2 0 _ rfl
  rw [show rInt.size = 1 from rfl, Nat.mul_one, Nat.add_zero] at g0
  exact ⟨g0, k⟩

def uints2 (s : Itm) : List Int := [(s.1.toNat : Int), (s.2.toNat : Int)]

theorem uints2_eq (s t : Itm) : (uints2 s == uints2 t) = decide (s = t) := by
  rw [Bool.eq_iff_iff, beq_iff_eq, decide_eq_true_eq]
  constructor
  · intro h
    simp only [uints2, List.cons.injEq, and_true] at h
    exact Prod.ext (UInt64.toNat_inj.1 (by omega)) (UInt64.toNat_inj.1 (by omega))
  · intro h
    rw [h]

theorem equal_itm (w : World) (s t : Itm) : (Op.equalIn 10000 53 (.agg #[.int .u64 (s.1.toNat : Int), .int .u64 (s.2.toNat : Int)]) (.agg #[.int .u64 (t.1.toNat : Int), .int .u64 (t.2.toNat : Int)])).run Try.prog w = .ok (decide (s = t)) w := by
  rw [← uints2_eq]
  exact equal_uints (ti := 27) Try.underlying27 (by kernel_rfl) (by kernel_rfl) 2 (by kernel_rfl) (by kernel_rfl) (by kernel_rfl) w (uints2 s) (uints2 t) rfl rfl

end Go.Proofs.Ytbglgplfjhiafaa
