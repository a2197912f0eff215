/-
  Facts that the proof rests on, part 5. Conditions: those that each of them names.
-/
import Derived.Laws.StructEq
import Derived.WalkKit
import Derived.WalkSpells
namespace Go.Proofs.YtkbmadoaomoojaaGreat
set_option maxRecDepth 20000
open Go.RowKit
set_option linter.unusedVariables false
theorem part_of_uint {P : Program} {ti : TypeId} {d : IntKind} (hu : P.underlying ti = some (.int d)) (w : World) (xs : Array Value) (k : Nat) (v : Value) (h : xs[k]? = some v) : (part ti xs k).run P w = .ok v w := by
 simp [part, isAgg, run_underlying hu, h]
theorem eqFields_uints {P : Program} {ti : TypeId} (hu : P.underlying ti = some (.int .u64)) (d : Nat) (xs ys : Array Value) (w : World) : ∀ (fs : List Field) (k : Nat) (a b : List Int), a.length = fs.length → b.length = fs.length →
 (fs.map fun f => (f.name != "_", f.type)) = List.replicate fs.length (true, ti) → (fs.map fun f => f.offset) = List.range' k fs.length →
 (∀ i (h : i < a.length), xs[k + i]? = some (.int .u64 a[i])) → (∀ i (h : i < b.length), ys[k + i]? = some (.int .u64 b[i])) → (Op.eqFields (d + 1) xs ys fs).run P w = .ok (a == b) w
 | [], k, a, b, ha, hb, _, _, _, _ => by
   obtain rfl : a = [] := List.length_eq_zero_iff.1 ha
   obtain rfl : b = [] := List.length_eq_zero_iff.1 hb
   simp [Op.eqFields]
 | f :: fs, k, x :: a, y :: b, ha, hb, h1, h2, hx, hy => by
   simp only [List.map_cons, List.length_cons, List.replicate_succ, List.cons.injEq, Prod.mk.injEq, List.range'_succ] at h1 h2
   have hn : f.name ≠ "_" := bne_iff_ne.1 h1.1.1
   have p1 := part_of_uint hu w xs k (.int .u64 x) (hx 0 (by simp))
   have p2 := part_of_uint hu w ys k (.int .u64 y) (hy 0 (by simp))
   have ih := eqFields_uints hu d xs ys w fs (k + 1) a b (by simpa using ha) (by simpa using hb) h1.2 h2.2
    (fun i h => by have := hx (i + 1) (by simp; omega); rw [show k + (i + 1) = k + 1 + i from by omega] at this; simpa using this)
    (fun i h => by have := hy (i + 1) (by simp; omega); rw [show k + (i + 1) = k + 1 + i from by omega] at this; simpa using this)
   have he := run_equalIn_int (P := P) w d ti .u64 .u64 x y hu
   simp only [Op.eqFields, if_pos hn, h1.1.2, h2.1, Sem.run_bind, p1, p2, he, Result.andThen_ok, Sem.run_ite, ih]
   by_cases e : x = y
   · subst e
     simp
   · have e' : (x == y) = false := beq_eq_false_iff_ne.2 e
     simp [e']
theorem equal_uints {P : Program} {ti t : TypeId} (hu : P.underlying ti = some (.int .u64)) (ht : P.underlying t = some (.struct (P.fieldsOf t))) (hp : P.stoodInHeld t = false) (n : Nat) (hn : (P.fieldsOf t).toList.length = n)
 (h1 : ((P.fieldsOf t).toList.map fun f => (f.name != "_", f.type)) = List.replicate n (true, ti)) (h2 : ((P.fieldsOf t).toList.map fun f => f.offset) = List.range' 0 n)
 (w : World) (a b : List Int) (ha : a.length = n) (hb : b.length = n) :
 (Op.equalIn 10000 t (.agg (a.map (Value.int .u64)).toArray) (.agg (b.map (Value.int .u64)).toArray)).run P w = .ok (a == b) w := by
 subst hn
 rw [run_equalIn_struct w 9999 t _ _ ht hp]
 exact eqFields_uints hu 9998 _ _ w _ 0 a b ha hb h1 h2 (fun i h => by simp [h]) (fun i h => by simp [h])
end Go.Proofs.YtkbmadoaomoojaaGreat
