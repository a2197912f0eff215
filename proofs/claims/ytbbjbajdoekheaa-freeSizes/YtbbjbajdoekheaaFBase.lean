/-
  Spans in memory: what the calls of layer 6 lean on; the plain package over lists of spans. Conditions: those that each contract names.
-/
import Derived.Test.YtbbjbajdoekheaaRows
import Derived.Test.YtbbjbajdoekheaaESOwn
import Derived.Test.YtbbjbajdoekheaaFAns
import Derived.Test.YtbbjbajdoekheaaRBox
import Derived.Test.YtbbjbajdoekheaaREql
import Derived.Deep.QuietTactic
import Derived.BigQuiet
import Derived.Deep.RegionHeldLaw
import Derived.Deep.DeepCutAuto
import Derived.Shelf.Abstract
import Derived.Lib.AppendZeros
namespace Go.Proofs.Ytbbjbajdoekheaa
open Go.RowKit
set_option linter.unusedVariables false

theorem on {w w1 w2 : World} (h : Below w.heap.size w w1) (k : Below w1.heap.size w1 w2) : Below w.heap.size w w2 := h.trans (k.mono h.size)

theorem ret_flag {b c : Bool} (h : b = true ↔ c = true) : Ending.returned (.bool b) = .returned (.bool c) := by rw [Bool.eq_iff_iff.2 h]

theorem same_drewN {a w : World} {B : Nat} (h : Below B a w) (n : Nat) : Below B a (w.drewN n) := ⟨h.os, h.tape, h.output, h.size, h.block⟩

/-- An operation of a region that yields its value in every world at hand is taken first, the state written out. -/
theorem wpAnyH_takeL {P : Program} {ops : Array Oper} {Q : Exit → Go.Act → World → Prop} {md : Region.Mode} {S : World → Prop} {i k : Nat} {oi : Oper} {v : Value} {fuel : Nat} {listed : Array Bool} {l : List Value} {d : List Deferred} {w : World} (hi : ops[i]? = some oi) (hk : oi.dst = some k)
    (hs : Region.noSelect ops = true) (hf : Region.free md ops listed i = true) (hr : (Region.ready md ops listed).contains i = true) (hQ : ∀ c a w, Q (.panic c) (a.put oi.dst v) w → Q (.panic c) a w) (hy : YieldsIf P ops S oi v ⟨l.toArray, d⟩)
    (hS : S w) (h : wpAnyH P md ops Q S fuel (listed.setIfInBounds i true) ⟨(l.set k v).toArray, d⟩ w) : wpAnyH P md ops Q S (fuel + 1) listed ⟨l.toArray, d⟩ w := by
  refine wpAnyH_take hi hs hf hr hQ hy hS ?_
  have e : Go.Act.put ⟨l.toArray, d⟩ oi.dst v = ⟨(l.set k v).toArray, d⟩ := by rw [hk]; simp [Go.Act.put]
  rw [e]
  exact h

/-- An operation of a region whose guard is not met is passed by. -/
theorem wpAnyH_passL {P : Program} {ops : Array Oper} {Q : Exit → Go.Act → World → Prop} {md : Region.Mode} {S : World → Prop} {i k : Nat} {oi : Oper} {fuel : Nat} {listed : Array Bool} {l : List Value} {d : List Deferred} {w : World} (hi : ops[i]? = some oi) (hk : oi.dst = some k)
    (hs : Region.noSelect ops = true) (hf : Region.free md ops listed i = true) (hr : (Region.ready md ops listed).contains i = true) (hw : Region.wanted oi (yielded ops l.toArray) = false)
    (hQ : ∀ c a w, Q (.panic c) (a.put oi.dst undef) w → Q (.panic c) a w) (hS : S w) (h : wpAnyH P md ops Q S fuel (listed.setIfInBounds i true) ⟨(l.set k undef).toArray, d⟩ w) : wpAnyH P md ops Q S (fuel + 1) listed ⟨l.toArray, d⟩ w :=
  wpAnyH_takeL (v := undef) hi hk hs hf hr hQ (Or.inr ⟨hw, rfl⟩) hS h

theorem max_fact (T : TypeId) : ∀ (x y : Int) (w : World), (Builtin.max_ #[T, T] T #[.int .i64 x, .int .i64 y]).run Try.prog w = .ok (.int .i64 (max x y)) w := by
  intro x y w
  rw [run_max_int2]
  congr 2
  split <;> omega

theorem min_fact (T : TypeId) : ∀ (x y : Int) (w : World), (Builtin.min_ #[T, T] T #[.int .i64 x, .int .i64 y]).run Try.prog w = .ok (.int .i64 (min x y)) w := by
  intro x y w
  rw [run_min_int2]
  congr 2
  split <;> omega

/-- What calls leave that write into the blocks of S alone: all others as they were; what is S's behind them was so, or is new. -/
structure Turns (S S' : Nat → Prop) (w w' : World) : Prop where
  os : w'.os = w.os
  tape : w'.tape = w.tape
  output : w'.output = w.output
  size : w.heap.size ≤ w'.heap.size
  block : ∀ k, k < w.heap.size → ¬ S k → w'.heap[k]? = w.heap[k]?
  place : ∀ k, S' k → S k ∨ w.heap.size ≤ k

theorem Turns.of {S : Nat → Prop} {w w' : World} (h : Below w.heap.size w w') : Turns S S w w' := ⟨h.os, h.tape, h.output, h.size, fun k hk _ => h.block k hk, fun k hk => .inl hk⟩

theorem Turns.trans {S S1 S2 : Nat → Prop} {w w1 w2 : World} (h : Turns S S1 w w1) (k : Turns S1 S2 w1 w2) : Turns S S2 w w2 :=
  ⟨k.os.trans h.os, k.tape.trans h.tape, k.output.trans h.output, Nat.le_trans h.size k.size,
    fun i hi hn => (k.block i (Nat.lt_of_lt_of_le hi h.size) (fun h1 => (h.place i h1).elim hn (fun h2 => by omega))).trans (h.block i hi hn),
    fun i hi => (k.place i hi).elim (h.place i) (fun h2 => .inr (Nat.le_trans h.size h2))⟩

theorem Turns.below {S S' : Nat → Prop} {w w' : World} (h : Turns S S' w w') {N : Nat} (hN : N ≤ w.heap.size) (hS : ∀ k, S k → N ≤ k) : Below N w w' :=
  ⟨h.os, h.tape, h.output, h.size, fun k hk => h.block k (by omega) (fun hs => by have := hS k hs; omega)⟩

theorem Turns.low {S S' : Nat → Prop} {w w' : World} (h : Turns S S' w w') {N : Nat} (hN : N ≤ w.heap.size) (hS : ∀ k, S k → N ≤ k) : ∀ k, S' k → N ≤ k :=
  fun k hk => (h.place k hk).elim (hS k) (fun h1 => by omega)

theorem Turns.cell {S S' : Nat → Prop} {w w' : World} (h : Turns S S' w w') {p : Addr} (hp : p.block < w.heap.size) (hn : ¬ S p.block) : w'.cell? p = w.cell? p := by
  unfold World.cell?
  rw [h.block _ hp hn]

theorem Turns.row {S S' : Nat → Prop} {w w' : World} (h : Turns S S' w w') {b : Nat} {t : TypeId} {xs : List Value} (V : Row w b t xs) (hn : ¬ S b) : Row w' b t xs := V.keep (h.block b V.lt hn)

def ints2 (s : Spn) : List Int := [s.1, s.2]

theorem ints2_eq (s t : Spn) : (ints2 s == ints2 t) = decide (s = t) := by
  rw [Bool.eq_iff_iff, beq_iff_eq, decide_eq_true_eq]
  constructor
  · intro h
    simp only [ints2, List.cons.injEq, and_true] at h
    exact Prod.ext h.1 h.2
  · intro h
    rw [h]

theorem equal_spn (w : World) (s t : Spn) : (Op.equalIn 10000 26 (.agg #[.int .i64 s.1, .int .i64 s.2]) (.agg #[.int .i64 t.1, .int .i64 t.2])).run Try.prog w = .ok (decide (s = t)) w := by
  rw [← ints2_eq]
  exact equal_ints (ti := 3) Try.underlying3 (by kernel_rfl) (by kernel_rfl) 2 (by kernel_rfl) (by kernel_rfl) (by kernel_rfl) w (ints2 s) (ints2 t) rfl rfl

theorem take_next {α : Type} {l m : List α} {j : Nat} (h : l.take j = m.take j) (h1 : j < l.length) (h2 : j < m.length) (e : l[j] = m[j]) : l.take (j + 1) = m.take (j + 1) := by
  rw [List.take_succ_eq_append_getElem h1, List.take_succ_eq_append_getElem h2, h, e]

set_option maxHeartbeats 2000000 in
theorem sameSpns_u (w : World) (P P' : Nat → Prop) (a a' : Option Addr) (n c n' c' : Nat) (l m : List Spn) (hL : rSpns.rd w P [.slice a n c] l) (hM : rSpns.rd w P' [.slice a' n' c'] m) :
    Calls Try.prog 34 #[.slice a n c, .slice a' n' c'] w fun e w' => e = .returned (.bool (decide (l = m))) ∧ Below w.heap.size w w' := by
  obtain ⟨hl, hnc, hnil, hb⟩ := rList_len hL
  obtain ⟨hl', hnc', hnil', hb'⟩ := rList_len hM
  have hn : n ≤ 8796093022000 := by have : n * 16 ≤ 140737488351232 := hb; omega
  have hn' : n' ≤ 8796093022000 := by have : n' * 16 ≤ 140737488351232 := hb'; omega
  have HL : Hid _ := hl
  have HL' : Hid _ := hl'
  have HR : Hid _ := hL
  have HM : Hid _ := hM
  clear hl hl' hnc hnc' hnil hnil' hb hb' hL hM
  obtain ⟨r, hr⟩ : ∃ r, r = decide (l = m) := ⟨_, rfl⟩
  rw [← hr]
  have HD : Hid _ := hr
  clear hr
  have heq := equal_spn
  go_enter Try.func34, Try.ntmps34
  by_cases hnn : n = n'
  · subst hnn
    go_wp2
    go_loopw [5] (fun i wr => ∃ j : Nat, j ≤ n ∧ i = .int .i64 j ∧ Hid (l.take j = m.take j) ∧ Below w.heap.size w wr) (fun i _ => n - (intOf i).toNat)
    case atStart => exact ⟨0, Nat.zero_le _, rfl, rfl, Below.refl _ _⟩
    case round =>
      obtain ⟨j, hj, rfl, HT, bel⟩ := hrel
      by_cases hlt : j < n
      · have hkl : j < l.length := by rw [HL.out]; exact hlt
        have hkm : j < m.length := by rw [HL'.out]; exact hlt
        obtain ⟨g, off, rfl, -, hgl, hat⟩ := rSpns_at (Rep.below HR.out bel) (by omega)
        obtain ⟨c0, c1, -⟩ := hat j hkl
        obtain ⟨g', off', rfl, -, hgl', hat'⟩ := rSpns_at (Rep.below HM.out bel) (by omega)
        obtain ⟨c0', c1', -⟩ := hat' j hkm
        have HN : Hid (l[j] = m[j] → l.take (j + 1) = m.take (j + 1)) := fun e => take_next HT.out hkl hkm e
        have HX : Hid (l[j] ≠ m[j] → l ≠ m) := fun e e2 => e (by subst e2; rfl)
        obtain ⟨X, hX⟩ : ∃ X, X = l[j] := ⟨_, rfl⟩
        obtain ⟨Y, hY⟩ : ∃ Y, Y = m[j] := ⟨_, rfl⟩
        rw [← hX] at c0 c1 HN HX
        rw [← hY] at c0' c1' HN HX
        clear hX hY hat hat'
        have hkn : (j : Int) < (n : Int) := by omega
        by_cases he : X = Y
        · have HN2 : Hid _ := HN.out he
          clear HN HX
          go_wp2_with fail
          go_quiet (fail)
          go_wp2
          go_roundw
          case rel => exact ⟨j + 1, by omega, by go_num, HN2, same_drewN bel nq⟩
          case measure => simp [intOf]; omega
        · have HN2 : Hid (r = false) := HD.out.trans (decide_eq_false (HX.out he))
          clear HN HX
          go_wp2_with fail
          go_quiet (fail)
          go_wp2
          go_ret
          exact ⟨by rw [HN2.out]; rfl, same_drewN bel nq⟩
      · obtain rfl : j = n := by omega
        have HN2 : Hid (r = true) := HD.out.trans (decide_eq_true (by have h := HT.out; rw [List.take_of_length_le (by rw [HL.out]; exact Nat.le_refl _), List.take_of_length_le (by rw [HL'.out]; exact Nat.le_refl _)] at h; exact h))
        go_wp2
        go_ret
        exact ⟨by rw [HN2.out]; rfl, bel⟩
  · have HN2 : Hid (r = false) := HD.out.trans (decide_eq_false (fun e => hnn (by rw [← HL.out, ← HL'.out, e])))
    have hni : (n : Int) ≠ (n' : Int) := by omega
    go_wp2
    go_ret
    exact ⟨by rw [HN2.out]; rfl, Below.refl _ _⟩

/-- 'append(nil, l...)', spans. -/
theorem run_copy_spns {w : World} {P : Nat → Prop} {a : Option Addr} {n c : Nat} {l : List Spn} (h : rSpns.rd w P [.slice a n c] l) (ty : TypeId) :
    ∃ v' w', (Builtin.append_ #[22, 22] ty #[.slice none 0 0, .slice a n c]).run Try.prog w = .ok v' w' ∧ OwnS 26 w' w.heap.size v' l ∧ Below w.heap.size w w' := by
  obtain ⟨ht, i, z, hi, hz, hsize, hby, hzs, hpos⟩ := elem_spn
  obtain ⟨hl, hnc, hnil, hb⟩ := rList_len h
  have hn : n ≤ 8796093022000 := by have : n * 16 ≤ 140737488351232 := hb; omega
  have hrow : w.ownsRow w.heap.size 26 2 (.slice none 0 0) 0 [] := World.ownsRow_nil w w.heap.size 26 2
  cases a with
  | none =>
    obtain rfl := hnil rfl
    obtain rfl : n = 0 := by omega
    obtain rfl : l = [] := List.length_eq_zero_iff.1 hl
    exact ⟨.slice none 0 0, w, run_append_owned_none (P := Try.prog) (w := w) w.heap.size 22 ty 26 i 2 ht hi (.slice none 0 0) 0 [] hrow, OwnS.nil _ _ _, Below.refl _ _⟩
  | some ad =>
    obtain ⟨v', w', hr, k1, k2, -, -⟩ := run_append_own_at (P := Try.prog) w w.heap.size 22 ty 26 i z 2 16 ht hi hz hsize hby hzs (by decide) (.slice none 0 0) 0 [] hrow ad n c (spnCells l) (by rw [spnCells_length, hl])
      (fun j u hj => by
        by_cases h0 : 0 < n
        · exact rSpns_cells h h0 j u hj
        · obtain rfl : n = 0 := by omega
          obtain rfl : l = [] := List.length_eq_zero_iff.1 hl
          simp [spnCells] at hj)
      (fun u hu => by
        obtain ⟨x, hx, hux⟩ := List.mem_flatMap.1 hu
        exact rSpn.one (rSpn_rd.2 ⟨rfl, rSpns_in h x hx⟩ : rSpn.rd w (fun _ => True) _ x) u hux) (by unfold maxLen; omega) (by omega) (Nat.le_refl _)
    rw [Nat.zero_add, List.nil_append] at k1
    exact ⟨v', w', hr, ⟨by rw [hl]; exact k1, rSpns_in h⟩, (Below.refl _ _).grown k2 (Nat.le_refl _) (fun k hk => by cases hk)⟩

theorem copySpns_u (w : World) (P : Nat → Prop) (a : Option Addr) (n c : Nat) (l : List Spn) (hL : rSpns.rd w P [.slice a n c] l) :
    Calls Try.prog 23 #[.slice a n c] w fun e w' => ∃ b, e = .returned b ∧ OwnS 26 w' w.heap.size b l ∧ Below w.heap.size w w' := by
  obtain ⟨v', w', hr, ho, bw⟩ := run_copy_spns hL 22
  have HR : Hid _ := hr
  have HO : Hid (OwnS _ _ _ _ _) := ho
  have BW : Hid (Below _ _ _) := bw
  clear hr ho bw hL
  go_enter Try.func23, Try.ntmps23
  go_wp2_with (at_builtin; refine Lib.wpList_append_run _ rfl _ _ _ _ rfl _ _ rfl rfl _ _ HR.out ?_)
  go_ret
  exact ⟨_, rfl, HO.out, BW.out⟩

/-- A record of two numbers, or of a number and a list, in a variable. -/
theorem Row.two {w : World} {b : Nat} {t : TypeId} {x0 x1 : Value} (V : Row w b t [x0, x1]) : w.cell? ⟨b, 0, none⟩ = some x0 ∧ w.cell? ⟨b, 1, none⟩ = some x1 := ⟨V.cell (j := 0) rfl, V.cell (j := 1) rfl⟩

theorem OwnS.drewN {e : TypeId} {w : World} {base : Nat} {v : Value} {l : List Spn} (h : OwnS e w base v l) (n : Nat) : OwnS e (w.drewN n) base v l := h.keep fun _ _ _ => rfl

theorem OwnS.keep1 {e : TypeId} {w w' : World} {base : Nat} {v : Value} {l : List Spn} (h : OwnS e w base v l) (hk : ∀ b, v.ownBlock = some b → w'.heap[b]? = w.heap[b]?) : OwnS e w' base v l := by
  refine ⟨⟨h.row.1, ?_⟩, h.fit⟩
  rcases h.row.2 with h0 | ⟨g, cap, cur, rfl, g1, g2, g3⟩
  · exact .inl h0
  · exact .inr ⟨g, cap, cur, rfl, g1, by rw [hk g rfl]; exact g2, g3⟩

theorem below_drew_pre0 {w w' : World} (h : Below w.drew.heap.size w.drew w') : Below w.heap.size w w' := ⟨h.os, h.tape, h.output, h.size, h.block⟩

theorem below_drew_pre {w w' : World} (n : Nat) (h : Below (w.drewN n).heap.size (w.drewN n) w') : Below w.heap.size w w' := ⟨h.os, h.tape, h.output, h.size, h.block⟩

theorem below_alloc0 {w w0 : World} (h : Below w.heap.size w w0) (o : Obj) : Below w.heap.size w (w0.alloc o) := h.alloc h.size o

/-- A list that came in, its cells in blocks that were there. -/
theorem rSpns_low {w w1 : World} {P : Nat → Prop} {a : Option Addr} {n c : Nat} {l : List Spn} (h : rSpns.rd w P [.slice a n c] l) (b : Below w.heap.size w w1) : rSpns.rd w1 (fun b => b < w.heap.size) [.slice a n c] l := by
  obtain ⟨a', n', c', e, h1, h2, h3, h4, h5⟩ := Rep.below h b
  refine ⟨a', n', c', e, h1, h2, h3, h4, fun x hx j hj => ?_⟩
  obtain ⟨hp, cj, g1, g2⟩ := h5 x hx j hj
  obtain ⟨a2, n2, c2, e2, -, -, -, -, k5⟩ := h
  simp only [List.cons.injEq, Value.slice.injEq, and_true] at e e2
  exact ⟨Elems.block (by decide) (k5 x (by rw [← hx, ← e.1, e2.1])) j hj, cj, rSpn_rd.2 (rSpn_rd.1 g1), g2⟩

end Go.Proofs.Ytbbjbajdoekheaa
