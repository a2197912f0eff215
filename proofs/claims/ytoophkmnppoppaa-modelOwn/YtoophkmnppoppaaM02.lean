/-
  Facts that the proof rests on, part 3. Conditions: those that each of them names.
-/
import Derived.Deep.OwnRows
import Derived.Laws.CopyOwn
import Derived.OwnWalk
import Derived.Test.YtoophkmnppoppaaM01
namespace Go.Proofs.Ytoophkmnppoppaa
open Go.RowKit
set_option linter.unusedVariables false
structure Row (w : World) (g : Nat) (t : TypeId) (xs : List Value) : Prop where
 eq : w.heap[g]? = some (.cells xs.toArray t (0, 0))
theorem Row.cell {w : World} {g : Nat} {t : TypeId} {xs : List Value} (h : Row w g t xs) {j : Nat} {v : Value} (hj : xs[j]? = some v) : w.cell? ⟨g, j, none⟩ = some v := by
 simp [World.cell?, h.eq, hj]
theorem Row.frozen {w : World} {g : Nat} {t : TypeId} {xs : List Value} (h : Row w g t xs) (j : Nat) : w.frozen? ⟨g, j, none⟩ = false := by
 simp [World.frozen?, h.eq]
theorem Row.keep {w w' : World} {g : Nat} {t : TypeId} {xs : List Value} (h : Row w g t xs) (hb : w'.heap[g]? = w.heap[g]?) : Row w' g t xs := ⟨hb.trans h.eq⟩
theorem Row.lt {w : World} {g : Nat} {t : TypeId} {xs : List Value} (h : Row w g t xs) : g < w.heap.size := (Array.getElem?_eq_some_iff.1 h.eq).1
theorem Row.below {w w' : World} {g : Nat} {t : TypeId} {xs : List Value} (h : Row w g t xs) (k : Below w.heap.size w w') : Row w' g t xs := h.keep (k.block g h.lt)
theorem Row.set {w : World} {g : Nat} {t : TypeId} {xs : List Value} (h : Row w g t xs) (j : Nat) (v : Value) : Row (w.setCell ⟨g, j, none⟩ v) g t (xs.set j v) := by
 refine ⟨?_⟩
 rw [setCell_eq_setRow w g j xs.toArray t (0, 0) v h.eq, setRow_heap w g _ _ t _ h.eq]
 simp
theorem q9j (w : World) (t : TypeId) (xs : List Value) : Row (w.alloc (.cells xs.toArray t)) w.heap.size t xs := by
 refine ⟨?_⟩
 unfold World.alloc
 simp
theorem rd_row {α : Type} {A : Rep α} {hs : 0 < A.size} {w : World} {P : Nat → Prop} {g n c : Nat} {t : TypeId} {xs ys : List Value} {l : List α} (h : Row w g t xs) (hy : ∀ (j : Nat) (v : Value), ys[j]? = some v → xs[j]? = some v)
 (hr : q5j A w P ys l) (hn : l.length = n) (hc : n ≤ c) (hb : n * A.bytes ≤ 140737488351232) (hP : P g) : (q6Z A hs).rd w P [.slice (some ⟨g, 0, none⟩) n c] l := by
 refine ⟨_, n, c, rfl, hn, hc, (fun (h : some _ = none) => by cases h), hb, fun x hx j hj => ?_⟩
 simp only [Option.some.injEq] at hx
 subst hx
 refine ⟨hP, ?_⟩
 obtain ⟨cj, g1, g2⟩ := qEJ hr j hj
 refine ⟨cj, g1, fun k u hu => ?_⟩
 rw [Addr.add_lit, Nat.zero_add]
 exact h.cell (hy _ _ (g2 k u hu))
theorem qBq {Pr : Program} (w : World) {ops : Array Oper} {rest : List Oper} {o : Oper} {a : Go.Act} {Q : Exit → Go.Act → World → Prop}
 (hg : o.guard = none) (l c : Operand) (t : TypeId) (hop : o.op = Op.makeSlice t l c)
 (e : TypeId) (z : Value) (bytes : Nat) (ht : Pr.underlying t = some (.slice e)) (hinfo : (Pr.info? e).map (fun i => (i.zero, i.size, i.bytes)) = some (some z, 1, bytes)) (hz1 : z.cells = #[z])
 (n : Nat) (C : Int) (hC : C = (n : Int)) (hl : a.eval l = .int .i64 C) (hc : a.eval c = .int .i64 C) (hbytes : bytes * n ≤ 281474976710656) (h63 : n ≤ 9223372036854775807)
 (hK : ∀ w', Hid (Row w' w.heap.size e (List.replicate n z)) → Below w.heap.size w w' → w'.heap.size = w.heap.size + 1 → wpList Pr ops Q rest (a.put o.dst (.slice (some ⟨w.heap.size, 0, none⟩) n n)) w') :
 wpList Pr ops Q (o :: rest) a w := by
 subst hC
 obtain ⟨i, hi, hz0, hz1', hz2⟩ := info_parts hinfo
 refine wpList_make_row w hg l c t hop e i z ht hi hz0 hz1' hz1 .i64 .i64 n hl hc (by rw [hz2]; exact hbytes) h63 ?_
 refine hK _ ?_ ((Below.refl _ _).alloc (Nat.le_refl _) _) (by simp)
 have := q9j w e (List.replicate n z)
 rw [← toList_madeCells_one, Array.toArray_toList] at this
 rw [← toList_madeCells_one]
 exact this
theorem clear_run {Pr : Program} (w : World) (dT ty : TypeId) (e : TypeId) (hu : Pr.underlying dT = some (.slice e)) (z : Value) (hv : ∀ w, (zeroValue e).run Pr w = .ok z w) (hz : z.cells = #[z]) (h1 : z.oneCell' = true)
 (dp : Option Addr) (n cap : Nat) (g off : Nat) (cur : List Value) (t : TypeId) (hg : Row w g t cur) (hpos : 0 < n → dp = some ⟨g, off, none⟩) (hfit : off + n ≤ cur.length) :
 ∃ w', (Builtin.clear_ #[dT] ty #[.slice dp n cap]).run Pr w = .ok (.tuple #[]) w' ∧ Row w' g t (splice cur off (List.replicate n z)) ∧ Kept (· ≠ g) w w' ∧ w'.heap.size = w.heap.size := by
 by_cases h0 : n = 0
 · subst h0
   refine ⟨w, ?_, ?_, Kept.refl _ _, rfl⟩
   · cases dp <;> simp [Builtin.clear_, run_underlying hu]
   · rw [show splice cur off (List.replicate 0 z) = cur from by simp [splice]]; exact hg
 · obtain rfl := hpos (by omega)
   have hzc : (Builtin.zeroCells z.cells n).toList = List.replicate n z := by
    rw [hz]
    simp [Builtin.zeroCells]
    apply List.ext_getElem
    · simp
    · intro i h1 h2
      simp [Nat.mod_one]
   have hst := run_storeCells_at Pr g off t (List.replicate n z) 0 cur.toArray w hg.eq (by simpa using hfit) (by intro v hv'; rw [List.eq_of_mem_replicate hv']; exact h1)
   simp only [Nat.add_zero] at hst
   refine ⟨w.setRow g (splice cur off (List.replicate n z)).toArray, ?_, ⟨setRow_heap w g _ _ t _ hg.eq⟩, ⟨rfl, rfl, rfl, by simp, fun k hk => setRow_other w g k _ hk⟩, by simp⟩
   obtain ⟨m, rfl⟩ : ∃ m, n = m + 1 := ⟨n - 1, by omega⟩
   simp [Builtin.clear_, run_underlying hu, hv, hzc, hst, splice]
theorem qJq {Pr : Program} (w : World) (dT sT ty : TypeId) (e : TypeId) (hu : Pr.underlying dT = some (.slice e)) (hsz : (Pr.info? e).map (·.size) = some 1)
 (dp sp : Option Addr) (dLen dCap sLen sCap : Nat) (g off : Nat) (cur : List Value) (t : TypeId) (hg : Row w g t cur) (cs : List Value) (hn : cs.length = Nat.min sLen dLen)
 (hpos : 0 < cs.length → dp = some ⟨g, off, none⟩ ∧ ∃ ad, sp = some ad ∧ ∀ (j : Nat) (v : Value), cs[j]? = some v → w.cell? (ad.add j) = some v)
 (hfit : off + cs.length ≤ cur.length) (h1 : ∀ v ∈ cs, v.oneCell' = true) :
 ∃ w', (Builtin.copy_ #[dT, sT] ty #[.slice dp dLen dCap, .slice sp sLen sCap]).run Pr w = .ok (goInt cs.length) w' ∧ Row w' g t (splice cur off cs) ∧ Kept (· ≠ g) w w' ∧ w'.heap.size = w.heap.size := by
 by_cases h0 : cs.length = 0
 · obtain rfl : cs = [] := List.eq_nil_of_length_eq_zero h0
   refine ⟨w, run_copy_none (P := Pr) w dT sT ty e dp sp dLen dCap sLen sCap hu hsz (by simpa using hn.symm), ?_, Kept.refl _ _, rfl⟩
   rw [show splice cur off [] = cur from by simp [splice]]; exact hg
 · obtain ⟨rfl, ad, rfl, hsrc⟩ := hpos (by omega)
   refine ⟨_, run_copy_row (P := Pr) w dT sT ty e g off dLen dCap ad sLen sCap cur.toArray t cs hu hsz hg.eq hn hsrc (by simpa using hfit) h1, ?_, ⟨rfl, rfl, rfl, by simp, fun k hk => setRow_other w g k _ hk⟩, by simp⟩
   have := setRow_heap w g cur.toArray (splice cur off cs).toArray t _ hg.eq
   refine ⟨?_⟩
   simpa [splice] using this
theorem Kept.belowOf {g B : Nat} {w0 w w' : World} (h : Below B w0 w) (k : Kept (· ≠ g) w w') (hB : B ≤ g) : Below B w0 w' :=
 h.trans ⟨k.os, k.tape, k.output, k.size, fun b hb => k.block b (by omega)⟩
theorem q0q (w : World) (T : TypeId) (xs : List Value) : ∃ w0, w.alloc (.cells xs.toArray T) = w0 ∧ Row w0 w.heap.size T xs ∧ Below w.heap.size w w0 ∧ w0.heap.size = w.heap.size + 1 :=
 ⟨_, rfl, q9j _ _ _, (Below.refl _ _).alloc (Nat.le_refl _) _, by simp⟩
theorem Row.range {w : World} {g : Nat} {t : TypeId} {xs : List Value} (h : Row w g t xs) : w.rangeAt g 0 xs := by
 intro j v hv
 rw [Nat.zero_add]
 exact h.cell hv
theorem q1q {Pr : Program} {fn : Func} {p : Tmp} {ty t : TypeId} {tmps : Array Value} {w : World} {b : Nat} {xs : List Value} {d : TypeDesc} (h : fn.results = #[.cell p ty]) (hp : tmps.getD p undef = .pointer (some ⟨b, 0, none⟩))
 (V : Row w b t xs) (hu : Pr.underlying ty = some d) (hd : d.isRow = true) (hi : (Pr.info? ty).map (·.size) = some xs.length) : (results fn tmps).run Pr w = .ok (.agg xs.toArray) w := by
 have hp' : tmps[p]?.getD undef = .pointer (some ⟨b, 0, none⟩) := by simpa using hp
 simp [results, h, hp', asAddr, run_loadVar_mid w b 0 ty xs d V.range hu hd hi]
theorem qCJ {Pr : Program} {fn : Func} {p q : Tmp} {ty t : TypeId} {tmps : Array Value} {w : World} {b : Nat} {xs : List Value} {d : TypeDesc} (h : fn.results = #[.cell p ty, .tmp q]) (hp : tmps.getD p undef = .pointer (some ⟨b, 0, none⟩))
 (V : Row w b t xs) (hu : Pr.underlying ty = some d) (hd : d.isRow = true) (hi : (Pr.info? ty).map (·.size) = some xs.length) : (results fn tmps).run Pr w = .ok (.tuple #[.agg xs.toArray, tmps.getD q undef]) w := by
 have hp' : tmps[p]?.getD undef = .pointer (some ⟨b, 0, none⟩) := by simpa using hp
 simp [results, h, hp', asAddr, run_loadVar_mid w b 0 ty xs d V.range hu hd hi]
end Go.Proofs.Ytoophkmnppoppaa
