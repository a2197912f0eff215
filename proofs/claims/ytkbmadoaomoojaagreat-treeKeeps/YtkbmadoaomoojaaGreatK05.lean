/-
  Facts that the proof rests on, part 6. Conditions: those that each of them names.
-/
import Derived.BigQuiet
import Derived.Deep.DeepCutAuto
import Derived.Deep.QuietTactic
import Derived.Deep.RegionHeldLaw
import Derived.Test.YtkbmadoaomoojaaGreatRows
import Derived.Test.YtkbmadoaomoojaaGreatK03
import Derived.Test.YtkbmadoaomoojaaGreatK04
namespace Go.Proofs.YtkbmadoaomoojaaGreat
set_option maxRecDepth 20000
open Go.RowKit
set_option linter.unusedVariables false
theorem on {w w1 w2 : World} (h : Below w.heap.size w w1) (k : Below w1.heap.size w1 w2) : Below w.heap.size w w2 := h.trans (k.mono h.size)
theorem same_drewN {a w : World} {B : Nat} (h : Below B a w) (n : Nat) : Below B a (w.drewN n) := ⟨h.os, h.tape, h.output, h.size, h.block⟩
theorem wpAnyH_takeL {P : Program} {ops : Array Oper} {Q : Exit → Go.Act → World → Prop} {md : Region.Mode} {S : World → Prop} {i k : Nat} {oi : Oper} {v : Value} {fuel : Nat} {listed : Array Bool} {l : List Value} {d : List Deferred} {w : World} (hi : ops[i]? = some oi) (hk : oi.dst = some k)
 (hs : Region.noSelect ops = true) (hf : Region.free md ops listed i = true) (hr : (Region.ready md ops listed).contains i = true) (hQ : ∀ c a w, Q (.panic c) (a.put oi.dst v) w → Q (.panic c) a w) (hy : YieldsIf P ops S oi v ⟨l.toArray, d⟩)
 (hS : S w) (h : wpAnyH P md ops Q S fuel (listed.setIfInBounds i true) ⟨(l.set k v).toArray, d⟩ w) : wpAnyH P md ops Q S (fuel + 1) listed ⟨l.toArray, d⟩ w := by
 refine wpAnyH_take hi hs hf hr hQ hy hS ?_
 have e : Go.Act.put ⟨l.toArray, d⟩ oi.dst v = ⟨(l.set k v).toArray, d⟩ := by rw [hk]; simp [Go.Act.put]
 rw [e]
 exact h
theorem sz {α : Type} {a b : α} {l : List α} : (a :: l).set 0 b = b :: l := rfl
theorem ss {α : Type} {a b : α} {l : List α} {n : Nat} : (a :: l).set (n + 1) b = a :: l.set n b := rfl
theorem tkL (i : Nat) (v : Value) {P : Program} {ops : Array Oper} {Q : Exit → Go.Act → World → Prop} {md : Region.Mode} {S : World → Prop} {k : Nat} {oi : Oper} {fuel : Nat} {listed : Array Bool} {l : List Value} {d : List Deferred} {w : World} (hi : ops[i]? = some oi) (hk : oi.dst = some k) (hy : YieldsIf P ops S oi v ⟨l.toArray, d⟩)
 (h : wpAnyH P md ops Q S fuel (listed.setIfInBounds i true) ⟨(l.set k v).toArray, d⟩ w) (hs : Region.noSelect ops = true := by kernel_rfl) (hf : Region.free md ops listed i = true := by kernel_rfl) (hr : (Region.ready md ops listed).contains i = true := by kernel_rfl) (hQ : ∀ c a w, Q (.panic c) (a.put oi.dst v) w → Q (.panic c) a w := by exact fun _ _ _ h => h)
 (hS : S w := by assumption) : wpAnyH P md ops Q S (fuel + 1) listed ⟨l.toArray, d⟩ w := wpAnyH_takeL hi hk hs hf hr hQ hy hS h
theorem tkM (i : Nat) (v : Value) {P : Program} {ops : Array Oper} {Q : Exit → Go.Act → World → Prop} {md : Region.Mode} {S : World → Prop} {k : Nat} {oi : Oper} {fuel : Nat} {listed : Array Bool} {l : List Value} {d : List Deferred} {w : World} (hi : ops[i]? = some oi) (hk : oi.dst = some k)
 (h : wpAnyH P md ops Q S fuel (listed.setIfInBounds i true) ⟨(l.set k v).toArray, d⟩ w) (hy : YieldsIf P ops S oi v ⟨l.toArray, d⟩ := by exact Or.inl ⟨by rfl, by intro w h; (try dsimp only at h); go_simp; all_goals with_reducible rfl⟩) (hs : Region.noSelect ops = true := by kernel_rfl) (hf : Region.free md ops listed i = true := by kernel_rfl) (hr : (Region.ready md ops listed).contains i = true := by kernel_rfl) (hQ : ∀ c a w, Q (.panic c) (a.put oi.dst v) w → Q (.panic c) a w := by exact fun _ _ _ h => h)
 (hS : S w := by assumption) : wpAnyH P md ops Q S (fuel + 1) listed ⟨l.toArray, d⟩ w := wpAnyH_takeL hi hk hs hf hr hQ hy hS h
theorem rdL (rs : List Nat) {P : Program} {ops : Array Oper} {Q : Exit → Go.Act → World → Prop} {md : Region.Mode} {S : World → Prop} {fuel : Nat} {listed : Array Bool} {a : Go.Act} {w : World} (h : AllReadyH P md ops Q S fuel listed a w rs) (hr : Region.ready md ops listed = rs := by kernel_rfl) (hn : rs ≠ [] := by simp) : wpAnyH P md ops Q S (fuel + 1) listed a w := wpAnyH_ready hr hn h
theorem rcL {P : Program} {ops : Array Oper} {Q : Exit → Go.Act → World → Prop} {md : Region.Mode} {S : World → Prop} {fuel : Nat} {listed : Array Bool} {a : Go.Act} {w : World} {i : Nat} {rs : List Nat} {o : Oper}
 (h : ∀ K' : Go.Act → World → Prop, Shut (∀ a w, S w → (S w → wpAnyH P md ops Q S fuel (listed.setIfInBounds i true) a w) → K' a w) → if Region.wanted o (yielded ops a.tmps) = true then Oper.wp P o a w K' Q else K' (a.put o.dst undef) w)
 (hs : AllReadyH P md ops Q S fuel listed a w rs) (ho : ops[i]? = some o := by rfl) : AllReadyH P md ops Q S fuel listed a w (i :: rs) := AllReadyH.cons ho h hs
theorem r1L (i : Nat) {P : Program} {ops : Array Oper} {Q : Exit → Go.Act → World → Prop} {md : Region.Mode} {S : World → Prop} {fuel : Nat} {listed : Array Bool} {a : Go.Act} {w : World} {o : Oper} (ho : ops[i]? = some o)
 (h : ∀ K' : Go.Act → World → Prop, Shut (∀ a w, S w → (S w → wpAnyH P md ops Q S fuel (listed.setIfInBounds i true) a w) → K' a w) → if Region.wanted o (yielded ops a.tmps) = true then Oper.wp P o a w K' Q else K' (a.put o.dst undef) w)
 (hr : Region.ready md ops listed = [i] := by kernel_rfl) : wpAnyH P md ops Q S (fuel + 1) listed a w := wpAnyH_ready hr (by simp) (AllReadyH.cons ho h AllReadyH.nil)
theorem rnL {P : Program} {ops : Array Oper} {Q : Exit → Go.Act → World → Prop} {md : Region.Mode} {S : World → Prop} {fuel : Nat} {listed : Array Bool} {a : Go.Act} {w : World} : AllReadyH P md ops Q S fuel listed a w [] := AllReadyH.nil
theorem take_next {α : Type} {l m : List α} {j : Nat} (h : l.take j = m.take j) (h1 : j < l.length) (h2 : j < m.length) (e : l[j] = m[j]) : l.take (j + 1) = m.take (j + 1) := by
 rw [List.take_succ_eq_append_getElem h1, List.take_succ_eq_append_getElem h2, h, e]
theorem Row.two {w : World} {b : Nat} {t : TypeId} {x0 x1 : Value} (V : Row w b t [x0, x1]) : w.cell? ⟨b, 0, none⟩ = some x0 ∧ w.cell? ⟨b, 1, none⟩ = some x1 := ⟨V.cell (j := 0) rfl, V.cell (j := 1) rfl⟩
theorem below_alloc0 {w w0 : World} (h : Below w.heap.size w w0) (o : Obj) : Below w.heap.size w (w0.alloc o) := h.alloc h.size o
theorem rKids_at {w : World} {P : Nat → Prop} {a : Option Addr} {n c : Nat} {l : List Int} (h : rKids.rd w P [.slice a n c] l) (hn : 0 < n) :
 ∃ b off, a = some ⟨b, off, none⟩ ∧ P b ∧ b < w.heap.size ∧ ∀ (j : Nat) (hj : j < l.length), w.cell? ⟨b, off + j, none⟩ = some (.int .i64 l[j]) ∧ -9223372036854775808 ≤ l[j] ∧ l[j] ≤ 9223372036854775807 := by
 obtain ⟨b, off, e1, e2, e3, e4⟩ := rList_at h hn
 refine ⟨b, off, e1, e2, e3, fun j hj => ?_⟩
 obtain ⟨cj, g1, g2⟩ := e4 j hj
 obtain ⟨rfl, k⟩ := g1
 have g0 := g2 0 _ rfl
 rw [show rInt.size = 1 from rfl, Nat.mul_one, Nat.add_zero] at g0
 exact ⟨g0, k⟩
def uints2 (s : Itm) : List Int := [(s.1.toNat : Int), (s.2.toNat : Int)]
theorem uints2_eq (s t : Itm) : (uints2 s == uints2 t) = decide (s = t) := by
 rw [Bool.eq_iff_iff, beq_iff_eq, decide_eq_true_eq]
 constructor
 · intro h
   simp only [uints2, List.cons.injEq, and_true] at h
   exact Prod.ext (UInt64.toNat_inj.1 (by omega)) (UInt64.toNat_inj.1 (by omega))
 · intro h
   rw [h]
theorem equal_itm (w : World) (s t : Itm) : (Op.equalIn 10000 45 (.agg #[.int .u64 (s.1.toNat : Int), .int .u64 (s.2.toNat : Int)]) (.agg #[.int .u64 (t.1.toNat : Int), .int .u64 (t.2.toNat : Int)])).run Tryz.prog w = .ok (decide (s = t)) w := by
 rw [← uints2_eq]
 exact equal_uints (ti := 39) Tryz.underlying39 (by kernel_rfl) (by kernel_rfl) 2 (by kernel_rfl) (by kernel_rfl) (by kernel_rfl) w (uints2 s) (uints2 t) rfl rfl
def kidCells (l : List Int) : List Value := l.map (Value.int .i64)
theorem rKids_all {w : World} {P : Nat → Prop} : ∀ {l : List Int}, (∀ x ∈ l, -9223372036854775808 ≤ x ∧ x ≤ 9223372036854775807) → rdAll rInt w P (kidCells l) l
 | [], _ => rfl
 | y :: l, h => ⟨[.int .i64 y], kidCells l, rfl, ⟨rfl, h y (by simp)⟩, rKids_all fun x hx => h x (by simp [hx])⟩
structure OwnK (e : TypeId) (w : World) (base : Nat) (v : Value) (l : List Int) : Prop where
 row : w.ownsRow base e 1 v l.length (kidCells l)
 ins : ∀ x ∈ l, -9223372036854775808 ≤ x ∧ x ≤ 9223372036854775807
theorem OwnK.nil (e : TypeId) (w : World) (base : Nat) : OwnK e w base (.slice none 0 0) [] := ⟨World.ownsRow_nil w base e 1, fun x h => by cases h⟩
theorem OwnK.keep1 {e : TypeId} {w w' : World} {base : Nat} {v : Value} {l : List Int} (h : OwnK e w base v l) (hk : ∀ b, v.ownBlock = some b → w'.heap[b]? = w.heap[b]?) : OwnK e w' base v l := by
 refine ⟨⟨h.row.1, ?_⟩, h.ins⟩
 rcases h.row.2 with h0 | ⟨g, cap, cur, rfl, g1, g2, g3⟩
 · exact .inl h0
 · exact .inr ⟨g, cap, cur, rfl, g1, by rw [hk g rfl]; exact g2, g3⟩
theorem OwnK.below {e : TypeId} {w w' : World} {base : Nat} {v : Value} {l : List Int} (h : OwnK e w base v l) (k : Below w.heap.size w w') : OwnK e w' base v l := h.keep1 fun b eb => k.block b (h.row.lt b eb).2
theorem OwnK.mono {e : TypeId} {w : World} {base base' : Nat} {v : Value} {l : List Int} (h : OwnK e w base v l) (hb : base' ≤ base) : OwnK e w base' v l := by
 refine ⟨⟨h.row.1, ?_⟩, h.ins⟩
 rcases h.row.2 with h2 | ⟨g, cap, cur, hv, hg, r⟩
 · exact .inl h2
 · exact .inr ⟨g, cap, cur, hv, by omega, r⟩
theorem OwnK.slice {e : TypeId} {w : World} {base : Nat} {v : Value} {l : List Int} (h : OwnK e w base v l) : ∃ a c, v = .slice a l.length c ∧ l.length ≤ c ∧ (a = none → c = 0) := by
 rcases h.row.2 with ⟨rfl, h0⟩ | ⟨g, cap, cur, rfl, g1, g2, g3, g4, g5, g6⟩
 · exact ⟨none, 0, by rw [h0], by omega, fun _ => rfl⟩
 · exact ⟨_, _, rfl, g3, fun e => by cases e⟩
theorem OwnK.rd {e : TypeId} {w : World} {base : Nat} {a : Option Addr} {n c : Nat} {l : List Int} (h : OwnK e w base (.slice a n c) l) (hb : l.length ≤ 17592186043904) : rKids.rd w (fun b => base ≤ b) [.slice a n c] l := by
 obtain ⟨a', c', e1, hr⟩ := rd_owned (A := rInt) (hs := by decide) h.row (rKids_all h.ins : rdAll rInt w (fun b => base ≤ b) _ l) rfl (by show l.length * 8 ≤ _; omega) (fun b e => (h.row.lt b e).1)
 simp only [Value.slice.injEq] at e1
 obtain ⟨rfl, rfl, rfl⟩ := e1
 exact hr
theorem elem_kid : ElemOf Tryz.prog 25 3 rInt := elemOf (z := .int .i64 0) Tryz.underlying25 (by kernel_rfl) rfl rfl rfl (by decide)
theorem run_append_kid {w : World} {base : Nat} {v : Value} {l : List Int} (hown : OwnK 3 w base v l) (x : Int) (hx : -9223372036854775808 ≤ x ∧ x ≤ 9223372036854775807) (hb : l.length ≤ 1000000) (hbase : base ≤ w.heap.size) (ty : TypeId) :
 ∃ v' w', (Builtin.append_ #[25, 25] ty #[v, .slice (some ⟨w.heap.size, 0, none⟩) 1 1]).run Tryz.prog (w.alloc (.cells #[.int .i64 x] 3)) = .ok v' w' ∧ OwnK 3 w' base v' (l ++ [x]) ∧ Grew (w.alloc (.cells #[.int .i64 x] 3)) w' v v' := by
 obtain ⟨ht, i, z, hi, hz, hsize, hby, hzs, hpos⟩ := elem_kid
 have ho2 : OwnK 3 (w.alloc (.cells #[.int .i64 x] 3)) base v l := hown.below ((Below.refl _ _).alloc (Nat.le_refl _) _)
 obtain ⟨v', w', hr, k1, k2, -, k4⟩ := run_append_own_at (P := Tryz.prog) (w.alloc (.cells #[.int .i64 x] 3)) base 25 ty 3 i z 1 8 ht hi hz hsize hby hzs (by decide) v l.length (kidCells l) ho2.row ⟨w.heap.size, 0, none⟩ 1 1 [.int .i64 x] rfl
  (cell_one_new _ _ _) (fun u hu => by simp at hu; subst hu; rfl) (by unfold maxLen; omega) (by omega) (by simp; omega)
 refine ⟨v', w', hr, ⟨?_, fun y hy => ?_⟩, ⟨k2, fun b' e => ?_⟩⟩
 · rw [List.length_append, show kidCells (l ++ [x]) = kidCells l ++ [.int .i64 x] by simp [kidCells]]
   exact k1
 · rcases List.mem_append.1 hy with h | h
   · exact hown.ins y h
   · rw [List.mem_singleton.1 h]; exact hx
 · rcases k4 with k | k
   · exact .inl (k.symm.trans e)
   · exact .inr (by rw [e] at k; simp only [Option.some.injEq] at k; omega)
theorem run_append_itm {w : World} {base : Nat} {v : Value} {l : List Itm} (hown : OwnI 45 w base v l) (x : Itm) (hb : l.length ≤ 1000000 - 1) (hbase : base ≤ w.heap.size) (ty : TypeId) :
 ∃ v' w', (Builtin.append_ #[36, 36] ty #[v, .slice (some ⟨w.heap.size, 0, none⟩) 1 1]).run Tryz.prog (w.alloc (.cells #[.int .u64 (x.1.toNat : Int), .int .u64 (x.2.toNat : Int)] 45)) = .ok v' w' ∧ OwnI 45 w' base v' (l ++ [x]) ∧ Grew (w.alloc (.cells #[.int .u64 (x.1.toNat : Int), .int .u64 (x.2.toNat : Int)] 45)) w' v v' :=
 run_append_itms (hown.below ((Below.refl _ _).alloc (Nat.le_refl _) _)) ((OwnI.lit 45 w w.heap.size (Nat.le_refl _) x).rd (by simp)) (by omega) (by simp; omega) ty
theorem OwnI.keptL {e : TypeId} {w w' : World} {base b : Nat} {v : Value} {l : List Itm} (h : OwnI e w base v l) (k : Kept (· ≠ b) w w') (hb : b < base) : OwnI e w' base v l :=
 h.keep1 fun g eg => k.block g (by have := (h.row.lt g eg).1; omega)
theorem OwnK.keptL {e : TypeId} {w w' : World} {base b : Nat} {v : Value} {l : List Int} (h : OwnK e w base v l) (k : Kept (· ≠ b) w w') (hb : b < base) : OwnK e w' base v l :=
 h.keep1 fun g eg => k.block g (by have := (h.row.lt g eg).1; omega)
theorem OwnI.setB {e : TypeId} {w : World} {base : Nat} {v : Value} {l : List Itm} (h : OwnI e w base v l) {p : Addr} (hp : p.block < base) (u : Value) : OwnI e (w.setCell p u) base v l :=
 h.keep1 fun g eg => Below.heap_setCell _ _ _ _ (by have := (h.row.lt g eg).1; omega)
theorem OwnK.setB {e : TypeId} {w : World} {base : Nat} {v : Value} {l : List Int} (h : OwnK e w base v l) {p : Addr} (hp : p.block < base) (u : Value) : OwnK e (w.setCell p u) base v l :=
 h.keep1 fun g eg => Below.heap_setCell _ _ _ _ (by have := (h.row.lt g eg).1; omega)
theorem held_append {Pr : Program} {ops : Array Oper} {o : Oper} {l : List Value} {d : List Deferred} {w w' : World} {K' : Go.Act → World → Prop} {Q : Exit → Go.Act → World → Prop} {k : Nat} (hk : o.dst = some k) (hg : Region.wanted o (yielded ops l.toArray) = true)
 (s y : Operand) (ts : Array TypeId) (ho : o.op = .call { callee := .builtin .append, args := #[s, y], argTypes := ts }) (v1 v2 v' : Value) (h1 : Go.Act.eval ⟨l.toArray, d⟩ s = v1) (h2 : Go.Act.eval ⟨l.toArray, d⟩ y = v2)
 (hr : (Builtin.append_ ts o.type #[v1, v2]).run Pr w = .ok v' w') (h : K' ⟨(l.set k v').toArray, d⟩ w') : if Region.wanted o (yielded ops l.toArray) = true then Oper.wp Pr o ⟨l.toArray, d⟩ w K' Q else K' (Go.Act.put ⟨l.toArray, d⟩ o.dst undef) w := by
 have e : Go.Act.put ⟨l.toArray, d⟩ o.dst v' = ⟨(l.set k v').toArray, d⟩ := by rw [hk]; simp [Go.Act.put]
 rw [if_pos hg]
 unfold Oper.wp execOp
 simp only [ho, resolve, invoke, builtin, Sem.run_bind, Sem.run_pure, Result.andThen_ok, List.map_toArray, List.map_cons, List.map_nil, h1, h2, hr]
 rw [← e] at h
 exact h
theorem Row.grew {w w' : World} {g : Nat} {t : TypeId} {xs : List Value} {v v' : Value} (h : Row w g t xs) (k : Grew w w' v v') (hne : v.ownBlock ≠ some g) : Row w' g t xs :=
 h.keep (k.grown.block g h.lt (fun e => hne e.symm))
theorem Row.setO {w : World} {g : Nat} {t : TypeId} {xs : List Value} (h : Row w g t xs) {p : Addr} (hp : p.block ≠ g) (u : Value) : Row (w.setCell p u) g t xs := h.keep (Below.heap_setCell _ _ _ _ (fun e => hp e.symm))
theorem OwnI.grewO {e : TypeId} {w w' : World} {base : Nat} {v u u' : Value} {l : List Itm} (h : OwnI e w base v l) (k : Grew w w' u u') (hne : ∀ b, v.ownBlock = some b → u.ownBlock ≠ some b) : OwnI e w' base v l :=
 h.keep1 fun g eg => k.grown.block g (h.row.lt g eg).2 (fun e => hne g eg e.symm)
end Go.Proofs.YtkbmadoaomoojaaGreat
