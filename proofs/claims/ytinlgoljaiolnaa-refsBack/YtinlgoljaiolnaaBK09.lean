/-
  Facts that the proof rests on, part 10. Conditions: those that each of them names.
-/
import Derived.Deep.QuietTactic
import Derived.Laws.StructEq
import Derived.Lib.AppendZeros
import Derived.WalkKit
import Derived.WalkSpells
import Derived.Test.YtinlgoljaiolnaaBK00
import Derived.Test.YtinlgoljaiolnaaBK01
import Derived.Test.YtinlgoljaiolnaaBK02
import Derived.Test.YtinlgoljaiolnaaBK04
import Derived.Test.YtinlgoljaiolnaaBK05
import Derived.Test.YtinlgoljaiolnaaBK07
import Derived.Test.YtinlgoljaiolnaaBK08
namespace Go.Proofs.Ytinlgoljaiolnaa
open Go.RowKit
set_option linter.unusedVariables false
theorem part_of_int {P : Program} {ti : TypeId} {d : IntKind} (hu : P.underlying ti = some (.int d)) (w : World) (xs : Array Value) (k : Nat) (v : Value) (h : xs[k]? = some v) : (part ti xs k).run P w = .ok v w := by
  simp [part, isAgg, run_underlying hu, h]
theorem eqFields_ints {P : Program} {ti : TypeId} (hu : P.underlying ti = some (.int .i64)) (d : Nat) (xs ys : Array Value) (w : World) : ∀ (fs : List Field) (k : Nat) (a b : List Int), a.length = fs.length → b.length = fs.length →
    (fs.map fun f => (f.name != "_", f.type)) = List.replicate fs.length (true, ti) → (fs.map fun f => f.offset) = List.range' k fs.length →
    (∀ i (h : i < a.length), xs[k + i]? = some (.int .i64 a[i])) → (∀ i (h : i < b.length), ys[k + i]? = some (.int .i64 b[i])) → (Op.eqFields (d + 1) xs ys fs).run P w = .ok (a == b) w
  | [], k, a, b, ha, hb, _, _, _, _ => by
    obtain rfl : a = [] := List.length_eq_zero_iff.1 ha
    obtain rfl : b = [] := List.length_eq_zero_iff.1 hb
    simp [Op.eqFields]
  | f :: fs, k, x :: a, y :: b, ha, hb, h1, h2, hx, hy => by
    simp only [List.map_cons, List.length_cons, List.replicate_succ, List.cons.injEq, Prod.mk.injEq, List.range'_succ] at h1 h2
    have hn : f.name ≠ "_" := bne_iff_ne.1 h1.1.1
    have p1 := part_of_int hu w xs k (.int .i64 x) (hx 0 (by simp))
    have p2 := part_of_int hu w ys k (.int .i64 y) (hy 0 (by simp))
    have ih := eqFields_ints hu d xs ys w fs (k + 1) a b (by simpa using ha) (by simpa using hb) h1.2 h2.2
      (fun i h => by have := hx (i + 1) (by simp; omega); rw [show k + (i + 1) = k + 1 + i from by omega] at this; simpa using this)
      (fun i h => by have := hy (i + 1) (by simp; omega); rw [show k + (i + 1) = k + 1 + i from by omega] at this; simpa using this)
    have he := run_equalIn_int (P := P) w d ti .i64 .i64 x y hu
    simp only [Op.eqFields, if_pos hn, h1.1.2, h2.1, Sem.run_bind, p1, p2, he, Result.andThen_ok, Sem.run_ite, ih]
    by_cases e : x = y
    · subst e
      simp
    · have e' : (x == y) = false := beq_eq_false_iff_ne.2 e
      simp [e']
theorem equal_ints {P : Program} {ti t : TypeId} (hu : P.underlying ti = some (.int .i64)) (ht : P.underlying t = some (.struct (P.fieldsOf t))) (hp : P.stoodInHeld t = false) (n : Nat) (hn : (P.fieldsOf t).toList.length = n)
    (h1 : ((P.fieldsOf t).toList.map fun f => (f.name != "_", f.type)) = List.replicate n (true, ti)) (h2 : ((P.fieldsOf t).toList.map fun f => f.offset) = List.range' 0 n)
    (w : World) (a b : List Int) (ha : a.length = n) (hb : b.length = n) :
    (Op.equalIn 10000 t (.agg (a.map (Value.int .i64)).toArray) (.agg (b.map (Value.int .i64)).toArray)).run P w = .ok (a == b) w := by
  subst hn
  rw [run_equalIn_struct w 9999 t _ _ ht hp]
  exact eqFields_ints hu 9998 _ _ w _ 0 a b ha hb h1 h2 (fun i h => by simp [h]) (fun i h => by simp [h])
end Go.Proofs.Ytinlgoljaiolnaa
namespace Go.Proofs.Ytinlgoljaiolnaa
open Go.RowKit
set_option linter.unusedVariables false
def ints3 (s : Ext) : List Int := [s.1, s.2.1, s.2.2]
theorem ints3_eq (s t : Ext) : (ints3 s == ints3 t) = decide (s = t) := by
  rw [Bool.eq_iff_iff, beq_iff_eq, decide_eq_true_eq]
  constructor
  · intro h
    simp only [ints3, List.cons.injEq, and_true] at h
    exact Prod.ext h.1 (Prod.ext h.2.1 h.2.2)
  · intro h
    rw [h]
theorem equal_ext (w : World) (s t : Ext) : (Op.equalIn 10000 80 (.agg #[.int .i64 s.1, .int .i64 s.2.1, .int .i64 s.2.2]) (.agg #[.int .i64 t.1, .int .i64 t.2.1, .int .i64 t.2.2])).run Try.prog w = .ok (decide (s = t)) w := by
  rw [← ints3_eq]
  exact equal_ints (ti := 3) Try.underlying3 (by kernel_rfl) (by kernel_rfl) 3 (by kernel_rfl) (by kernel_rfl) (by kernel_rfl) w (ints3 s) (ints3 t) rfl rfl
theorem take_next {α : Type} {l m : List α} {j : Nat} (h : l.take j = m.take j) (h1 : j < l.length) (h2 : j < m.length) (e : l[j] = m[j]) : l.take (j + 1) = m.take (j + 1) := by
  rw [List.take_succ_eq_append_getElem h1, List.take_succ_eq_append_getElem h2, h, e]
set_option maxHeartbeats 2000000 in
theorem sameExts_u (w : World) (P P' : Nat → Prop) (a a' : Option Addr) (n c n' c' : Nat) (l m : List Ext) (hL : rExts.rd w P [.slice a n c] l) (hM : rExts.rd w P' [.slice a' n' c'] m) :
    Calls Try.prog 48 #[.slice a n c, .slice a' n' c'] w fun e w' => e = .returned (.bool (decide (l = m))) ∧ Below w.heap.size w w' := by
  obtain ⟨hl, hnc, hnil, hb⟩ := rList_len hL
  obtain ⟨hl', hnc', hnil', hb'⟩ := rList_len hM
  have hn : n ≤ 5864062014634 := by have : n * 24 ≤ 140737488351232 := hb; omega
  have hn' : n' ≤ 5864062014634 := by have : n' * 24 ≤ 140737488351232 := hb'; omega
  have HL : Hid _ := hl
  have HL' : Hid _ := hl'
  have HR : Hid _ := hL
  have HM : Hid _ := hM
  clear hl hl' hnc hnc' hnil hnil' hb hb' hL hM
  obtain ⟨r, hr⟩ : ∃ r, r = decide (l = m) := ⟨_, rfl⟩
  rw [← hr]
  have HD : Hid _ := hr
  clear hr
  have heq := equal_ext
  go_enter Try.func48, Try.ntmps48
  by_cases hnn : n = n'
  · subst hnn
    go_wp2
    go_loopw [5] (fun i wr => ∃ j : Nat, j ≤ n ∧ i = .int .i64 j ∧ Hid (l.take j = m.take j) ∧ Below w.heap.size w wr) (fun i _ => n - (intOf i).toNat)
    case atStart => exact ⟨0, Nat.zero_le _, rfl, rfl, Below.refl _ _⟩
    case round =>
      obtain ⟨j, hj, rfl, HT, bel⟩ := hrel
      by_cases hlt : j < n
      · have hkl : j < l.length := by rw [HL.out]; exact hlt
        have hkm : j < m.length := by rw [HL'.out]; exact hlt
        obtain ⟨g, off, rfl, -, hgl, hat⟩ := rExts_at (Rep.below HR.out bel) (by omega)
        obtain ⟨c0, c1, c2, -⟩ := hat j hkl
        obtain ⟨g', off', rfl, -, hgl', hat'⟩ := rExts_at (Rep.below HM.out bel) (by omega)
        obtain ⟨c0', c1', c2', -⟩ := hat' j hkm
        have HN : Hid (l[j] = m[j] → l.take (j + 1) = m.take (j + 1)) := fun e => take_next HT.out hkl hkm e
        have HX : Hid (l[j] ≠ m[j] → l ≠ m) := fun e e2 => e (by subst e2; rfl)
        obtain ⟨X, hX⟩ : ∃ X, X = l[j] := ⟨_, rfl⟩
        obtain ⟨Y, hY⟩ : ∃ Y, Y = m[j] := ⟨_, rfl⟩
        rw [← hX] at c0 c1 c2 HN HX
        rw [← hY] at c0' c1' c2' HN HX
        clear hX hY hat hat'
        have hkn : (j : Int) < (n : Int) := by omega
        by_cases he : X = Y
        · have HN2 : Hid _ := HN.out he
          clear HN HX
          go_wp2_with fail
          go_quiet (fail)
          go_wp2
          go_roundw
          case rel => exact ⟨j + 1, by omega, by go_num, HN2, same_drewN bel nq⟩
          case measure => simp [intOf]; omega
        · have HN2 : Hid (r = false) := HD.out.trans (decide_eq_false (HX.out he))
          clear HN HX
          go_wp2_with fail
          go_quiet (fail)
          go_wp2
          go_ret
          exact ⟨by rw [HN2.out]; rfl, same_drewN bel nq⟩
      · obtain rfl : j = n := by omega
        have HN2 : Hid (r = true) := HD.out.trans (decide_eq_true (by have h := HT.out; rw [List.take_of_length_le (by rw [HL.out]; exact Nat.le_refl _), List.take_of_length_le (by rw [HL'.out]; exact Nat.le_refl _)] at h; exact h))
        go_wp2
        go_ret
        exact ⟨by rw [HN2.out]; rfl, bel⟩
  · have HN2 : Hid (r = false) := HD.out.trans (decide_eq_false (fun e => hnn (by rw [← HL.out, ← HL'.out, e])))
    have hni : (n : Int) ≠ (n' : Int) := by omega
    go_wp2
    go_ret
    exact ⟨by rw [HN2.out]; rfl, Below.refl _ _⟩
end Go.Proofs.Ytinlgoljaiolnaa
namespace Go.Proofs.Ytinlgoljaiolnaa
open Go.RowKit
set_option linter.unusedVariables false
def OwnsQ {α : Type} (A : Rep α) (e : TypeId) (w : World) (base : Nat) (Q : Nat → Prop) (v : Value) (l : List α) : Prop :=
  ∃ xs, w.ownsRow base e A.size v l.length xs ∧ rdAll A w (fun b => Q b ∧ v.ownBlock ≠ some b) xs l
theorem OwnsQ.keep {α : Type} {A : Rep α} {e : TypeId} {w w' : World} {base : Nat} {Q : Nat → Prop} {v : Value} {l : List α} (h : OwnsQ A e w base Q v l) (hk : ∀ b, b < w.heap.size → w'.heap[b]? = w.heap[b]?) : OwnsQ A e w' base Q v l := by
  obtain ⟨xs, h1, h2⟩ := h
  refine ⟨xs, ⟨h1.1, ?_⟩, rdAll_keep (fun b hb hl => hk b hl) h2⟩
  rcases h1.2 with h0 | ⟨g, cap, cur, rfl, g1, g2, g3⟩
  · exact .inl h0
  · exact .inr ⟨g, cap, cur, rfl, g1, by rw [hk g (Array.getElem?_eq_some_iff.1 g2).1]; exact g2, g3⟩
theorem OwnsQ.below {α : Type} {A : Rep α} {e : TypeId} {w w' : World} {base : Nat} {Q : Nat → Prop} {v : Value} {l : List α} (h : OwnsQ A e w base Q v l) (k : Below w.heap.size w w') : OwnsQ A e w' base Q v l := h.keep fun b hl => k.block b hl
theorem OwnsQ.row {α : Type} {A : Rep α} {e : TypeId} {w : World} {base : Nat} {Q : Nat → Prop} {v : Value} {l : List α} (h : OwnsQ A e w base Q v l) : ∀ k, v.ownBlock = some k → base ≤ k ∧ k < w.heap.size := by
  obtain ⟨xs, h1, _⟩ := h
  exact h1.lt
theorem OwnsQ.rd {α : Type} {A : Rep α} {hs : 0 < A.size} {e : TypeId} {w : World} {base : Nat} {Q : Nat → Prop} {v : Value} {l : List α} (h : OwnsQ A e w base Q v l) (hb : l.length * A.bytes ≤ 140737488351232) :
    ∃ a c, v = .slice a l.length c ∧ (rList A hs).rd w (fun b => Q b ∨ base ≤ b) [.slice a l.length c] l := by
  obtain ⟨xs, h1, h2⟩ := h
  exact rd_owned h1 (rdAll_weaken (fun b hb _ => .inl hb.1) h2) rfl hb (fun b e => .inr (h1.lt b e).1)
theorem OwnsQ.slice {α : Type} {A : Rep α} {e : TypeId} {w : World} {base : Nat} {Q : Nat → Prop} {v : Value} {l : List α} (h : OwnsQ A e w base Q v l) : ∃ b d, v = .slice b l.length d := by
  obtain ⟨xs, h1, _⟩ := h
  rcases h1.2 with ⟨rfl, h0⟩ | ⟨g, cap, cur, rfl, _⟩
  · exact ⟨none, 0, by rw [h0]⟩
  · exact ⟨_, _, rfl⟩
end Go.Proofs.Ytinlgoljaiolnaa
namespace Go.Proofs.Ytinlgoljaiolnaa
open Go.RowKit
set_option linter.unusedVariables false
theorem num9_u (n : Int) (w : World) : Calls Try.prog 21 #[.int .i64 n] w fun e w' => e = .returned (.int .i64 n) ∧ w = w' := by
  go_enter Try.func21, Try.ntmps21
  go_wp2
  go_ret
  exact ⟨rfl, rfl⟩
theorem elem_map9 : ElemOf Try.prog 25 77 rMp := elemOf (z := .agg #[.int .i64 0, .slice none 0 0]) Try.underlying25 (by kernel_rfl) rfl rfl rfl (by decide)
end Go.Proofs.Ytinlgoljaiolnaa
namespace Go.Proofs.Ytinlgoljaiolnaa
open Go.RowKit
set_option linter.unusedVariables false
def al9 : List Mpr := [(0, [(0, 3, 4)]), (1, [(9, 3, 4)])]
theorem al9_E : Rf.whoE allS al9 = 0 := by decide +kernel
theorem al9_L : Rf.cntL allS al9 = [(3, 4, 2)] := by decide +kernel
theorem one_exts {w : World} {P : Nat → Prop} {b : Nat} {x : Ext} (hP : P b) (hx : In3 x) (h0 : w.cell? ⟨b, 0, none⟩ = some (.int .i64 x.1)) (h1 : w.cell? ⟨b, 1, none⟩ = some (.int .i64 x.2.1)) (h2 : w.cell? ⟨b, 2, none⟩ = some (.int .i64 x.2.2)) : rExts.rd w P [.slice (some ⟨b, 0, none⟩) 1 1] [x] := by
  refine ⟨_, _, _, rfl, rfl, Nat.le_refl _, (fun e => by cases e), by decide, fun y hy j hj => ?_⟩
  cases hy
  obtain rfl : j = 0 := by simp at hj; omega
  refine ⟨hP, ext3 x, rExt_rd.2 ⟨rfl, hx⟩, fun k v hv => ?_⟩
  rw [Addr.add_lit]
  match k, hv with
  | 0, hv => simp [ext3] at hv; subst hv; simpa using h0
  | 1, hv => simp [ext3] at hv; subst hv; simpa using h1
  | 2, hv => simp [ext3] at hv; subst hv; simpa using h2
theorem two_maps {w : World} {P : Nat → Prop} {b : Nat} {o1 o2 : Int} {v1 v2 : Value} {l1 l2 : List Ext} (hP : P b) (h1 : In64 o1) (h2 : In64 o2) (r1 : rExts.rd w P [v1] l1) (r2 : rExts.rd w P [v2] l2)
    (c0 : w.cell? ⟨b, 0, none⟩ = some (.int .i64 o1)) (c1 : w.cell? ⟨b, 1, none⟩ = some v1) (c2 : w.cell? ⟨b, 2, none⟩ = some (.int .i64 o2)) (c3 : w.cell? ⟨b, 3, none⟩ = some v2) : rMps.rd w P [.slice (some ⟨b, 0, none⟩) 2 2] [(o1, l1), (o2, l2)] := by
  refine ⟨_, _, _, rfl, rfl, Nat.le_refl _, (fun e => by cases e), by decide, fun y hy j hj => ?_⟩
  cases hy
  match j, hj with
  | 0, _ =>
    refine ⟨hP, [.int .i64 o1, v1], ⟨[.int .i64 o1], [v1], rfl, ⟨rfl, h1⟩, r1⟩, fun k v hv => ?_⟩
    rw [Addr.add_lit]
    match k, hv with
    | 0, hv => simp at hv; subst hv; simpa using c0
    | 1, hv => simp at hv; subst hv; simpa using c1
  | 1, _ =>
    refine ⟨hP, [.int .i64 o2, v2], ⟨[.int .i64 o2], [v2], rfl, ⟨rfl, h2⟩, r2⟩, fun k v hv => ?_⟩
    rw [Addr.add_lit]
    match k, hv with
    | 0, hv => simp at hv; subst hv; exact c2
    | 1, hv => simp at hv; subst hv; exact c3
set_option maxHeartbeats 4000000 in
theorem alive9_u (w : World) : Calls Try.prog 26 #[] w fun e w' => e = .returned (.bool true) ∧ Below w.heap.size w w' := by
  obtain ⟨w1, hw1, V1, b1, z1⟩ := boxedRow w 80 [.int .i64 0, .int .i64 3, .int .i64 4]
  obtain ⟨w2, hw2, V2, b2, z2⟩ := boxedRow w1 80 [.int .i64 9, .int .i64 3, .int .i64 4]
  obtain ⟨w3, hw3, V3, b3, z3⟩ := boxedRow w2 77 [.int .i64 0, .slice (some ⟨w.heap.size, 0, none⟩) 1 1, .int .i64 1, .slice (some ⟨w1.heap.size, 0, none⟩) 1 1]
  have U1 := (V1.below b2).below b3
  have U2 := V2.below b3
  have HM : Hid (rMps.rd w3 (fun _ => True) [.slice (some ⟨w2.heap.size, 0, none⟩) 2 2] al9) :=
    two_maps trivial (by unfold In64; decide) (by unfold In64; decide) (one_exts (x := (0, 3, 4)) trivial (by unfold In3 In64; decide) U1.three.1 U1.three.2.1 U1.three.2.2) (one_exts (x := (9, 3, 4)) trivial (by unfold In3 In64; decide) U2.three.1 U2.three.2.1 U2.three.2.2) V3.four.1 V3.four.2.1 V3.four.2.2.1 V3.four.2.2.2
  have B3 : Hid (Below w.heap.size w w3) := on (on b1 b2) b3
  clear U1 U2 V1 V2 V3 b1 b2 b3 z1 z2 z3
  go_enter Try.func26, Try.ntmps26
  go_wp2_with fail
  refine (refsCounts_u _ _ _ _ _ al9 HM.out).mono ?_
  rintro e w4 ⟨b, rfl, ho, b4⟩
  rw [al9_E]
  rw [al9_L] at ho
  obtain ⟨a4, c4, rfl, -, -⟩ := ho.slice
  obtain ⟨g, rfl, -, -, -, hat⟩ := ho.at (by decide)
  obtain ⟨c0, c1, c2, -⟩ := hat 0 (by decide)
  simp only [List.getElem_cons_zero, Nat.zero_mul, Nat.zero_add] at c0 c1 c2
  have HB : Hid (Below w.heap.size w w4) := on B3.out b4
  clear ho hat b4
  go_wp2_with (go_at_call 21; refine (num9_u _ _).mono ?_; rintro e w9 ⟨rfl, rfl⟩)
  go_ret
  exact ⟨rfl, HB.out⟩
end Go.Proofs.Ytinlgoljaiolnaa
namespace Go.Proofs.Ytinlgoljaiolnaa
open Go.RowKit
set_option linter.unusedVariables false
theorem map_rd {w : World} {P : Nat → Prop} {O : Int} {v : Value} {X : List Ext} (hO : In64 O) (h : rExts.rd w P [v] X) : rMp.rd w P [.int .i64 O, v] (O, X) := ⟨[.int .i64 O], [v], rfl, ⟨rfl, hO⟩, h⟩
end Go.Proofs.Ytinlgoljaiolnaa
namespace Go.Proofs.Ytinlgoljaiolnaa
set_option linter.unusedVariables false
namespace Ex
def cnt (f : Int → Option Int) (a : Int) : Nat → Nat
  | 0 => 0
  | n + 1 => cnt f a n + if (f (a + n)).isSome then 1 else 0
theorem cnt_le (f : Int → Option Int) (a : Int) : ∀ n, cnt f a n ≤ n
  | 0 => Nat.le_refl _
  | n + 1 => by have := cnt_le f a n; unfold cnt; split <;> omega
theorem cnt_congr {f g : Int → Option Int} {a : Int} : ∀ {n : Nat}, (∀ v, a ≤ v → v < a + n → (f v).isSome = (g v).isSome) → cnt f a n = cnt g a n
  | 0, _ => rfl
  | n + 1, h => by
    unfold cnt
    rw [cnt_congr (n := n) (fun v h1 h2 => h v h1 (by omega)), h (a + n) (by omega) (by omega)]
theorem cnt_none {f : Int → Option Int} {a : Int} : ∀ {n : Nat}, (∀ v, a ≤ v → v < a + n → f v = none) → cnt f a n = 0
  | 0, _ => rfl
  | n + 1, h => by
    unfold cnt
    rw [cnt_none (n := n) (fun v h1 h2 => h v h1 (by omega)), h (a + n) (by omega) (by omega)]
    rfl
theorem cnt_all {f : Int → Option Int} {a : Int} : ∀ {n : Nat}, (∀ v, a ≤ v → v < a + n → (f v).isSome = true) → cnt f a n = n
  | 0, _ => rfl
  | n + 1, h => by
    unfold cnt
    rw [cnt_all (n := n) (fun v h1 h2 => h v h1 (by omega)), h (a + n) (by omega) (by omega)]
    rfl
theorem cnt_split (f : Int → Option Int) (a : Int) (n : Nat) : ∀ m, cnt f a (n + m) = cnt f a n + cnt f (a + n) m
  | 0 => rfl
  | m + 1 => by
    show cnt f a (n + m) + (if (f (a + ((n + m : Nat) : Int))).isSome then 1 else 0) = cnt f a n + (cnt f (a + n) m + if (f (a + n + m)).isSome then 1 else 0)
    rw [cnt_split f a n m, show a + ((n + m : Nat) : Int) = a + n + m by omega]
    omega
theorem cnt_pos {f : Int → Option Int} {a : Int} : ∀ {n : Nat}, 0 < cnt f a n ↔ ∃ v, a ≤ v ∧ v < a + n ∧ (f v).isSome = true
  | 0 => by
    constructor
    · intro h; exact absurd h (by unfold cnt; omega)
    · rintro ⟨v, h1, h2, -⟩; omega
  | n + 1 => by
    unfold cnt
    constructor
    · intro h
      by_cases c : (f (a + n)).isSome = true
      · exact ⟨a + n, by omega, by omega, c⟩
      · rw [if_neg c] at h
        obtain ⟨v, h1, h2, h3⟩ := cnt_pos.1 (show 0 < cnt f a n by omega)
        exact ⟨v, h1, by omega, h3⟩
    · rintro ⟨v, h1, h2, h3⟩
      by_cases e : v = a + n
      · subst e; rw [if_pos h3]; omega
      · exact Nat.lt_of_lt_of_le (cnt_pos (n := n).2 ⟨v, h1, by omega, h3⟩) (Nat.le_add_right _ _)
def size (l : List Ext) : Int := (l.map (·.2.2)).sum
theorem size_cons (x : Ext) (l : List Ext) : size (x :: l) = x.2.2 + size l := by unfold size; rw [List.map_cons, List.sum_cons]
theorem size_from : ∀ {l : List Ext} {b : Int} {n : Nat}, From b l → last b l ≤ b + n → size l = (cnt (get l) b n : Int)
  | [], b, n, _, _ => by rw [cnt_none (f := get []) (fun v _ _ => rfl)]; rfl
  | x :: l, b, n, ⟨h1, h2, h3, h4⟩, hl => by
    have h5 : x.1 + x.2.2 ≤ last (x.1 + x.2.2) l := h4.loose.last
    simp only [last] at hl
    obtain ⟨p, hp⟩ : ∃ p : Nat, x.1 = b + p := ⟨(x.1 - b).toNat, by omega⟩
    obtain ⟨q, hq⟩ : ∃ q : Nat, x.2.2 = q := ⟨x.2.2.toNat, by omega⟩
    obtain ⟨r, hr⟩ : ∃ r : Nat, n = p + (q + r) := ⟨n - p - q, by omega⟩
    subst hr
    rw [size_cons, cnt_split, cnt_split, cnt_none (n := p) (fun v g1 g2 => ?_), cnt_all (n := q) (fun v g1 g2 => ?_), size_from (n := r) h4 (by omega)]
    · rw [show cnt (get (x :: l)) (b + p + q) r = cnt (get l) (x.1 + x.2.2) r by
        rw [show b + p + q = x.1 + x.2.2 by omega]
        refine cnt_congr (fun v g1 g2 => ?_)
        rw [show get (x :: l) v = get l v from if_neg (by omega)]]
      omega
    · rw [show get (x :: l) v = some (val x v) from if_pos (by omega)]
      rfl
    · rw [show get (x :: l) v = get l v from if_neg (by omega)]
      exact get_low h4.loose (by omega)
theorem size_ok {l : List Ext} (h : Ok l) : size l = (cnt (get l) 0 65536 : Int) := by
  have g := (good_iff l).1 h.2
  exact size_from g.from_ (by have := g.last; omega)
def again (l : List Ext) (x : Ext) : Int := (cnt (get l) x.1 x.2.2.toNat : Int)
theorem again_pos (l : List Ext) (x : Ext) : 0 ≤ again l x := Int.natCast_nonneg _
theorem put_size {l : List Ext} {x : Ext} (h : putE l x = 0) : size (putL l x) = size l + x.2.2 - again l x := by
  obtain ⟨h1, h2, h3⟩ := putE_zero.1 h
  obtain ⟨-, h4, h5⟩ := putL_ok h
  obtain ⟨g1, g2, g3⟩ := h2
  rw [size_ok h4, size_ok h1]
  unfold again
  obtain ⟨p, hp⟩ : ∃ p : Nat, x.1 = 0 + p := ⟨x.1.toNat, by omega⟩
  obtain ⟨q, hq⟩ : ∃ q : Nat, x.2.2 = q := ⟨x.2.2.toNat, by omega⟩
  obtain ⟨r, hr⟩ : ∃ r : Nat, 65536 = p + (q + r) := ⟨65536 - p - q, by omega⟩
  rw [show cnt (get (putL l x)) 0 65536 = cnt (get (putL l x)) 0 (p + (q + r)) by rw [← hr], show cnt (get l) 0 65536 = cnt (get l) 0 (p + (q + r)) by rw [← hr], cnt_split, cnt_split, cnt_split, cnt_split]
  rw [cnt_congr (f := get (putL l x)) (g := get l) (n := p) (fun v k1 k2 => by rw [h5, if_neg (by omega)])]
  rw [cnt_all (f := get (putL l x)) (n := q) (fun v k1 k2 => by rw [h5, if_pos (by omega)]; rfl)]
  rw [cnt_congr (f := get (putL l x)) (g := get l) (n := r) (fun v k1 k2 => by rw [h5, if_neg (by omega)])]
  rw [show x.2.2.toNat = q by omega, show (0 : Int) + p = x.1 by omega]
  omega
theorem from_mem : ∀ {l : List Ext} {b : Int}, From b l → ∀ {z : Ext}, z ∈ l → -1 ≤ z.2.1
  | x :: l, b, ⟨h1, h2, h3, h4⟩, z, hz => by
    rcases List.mem_cons.1 hz with rfl | hz
    · exact h3
    · exact from_mem h4 hz
theorem look_again {l : List Ext} (h : Ok l) {x : Ext} (hx : One x) : (∃ z ∈ look l x.1 x.2.2, z.2.1 ≠ -1) ↔ 0 < again l x := by
  have g := (good_iff l).1 h.2
  obtain ⟨f1, f2, f3, f4⟩ := look_ok g (v := x.1) (n := x.2.2) (by omega)
  unfold again
  rw [show (0 < (cnt (get l) x.1 x.2.2.toNat : Int)) ↔ 0 < cnt (get l) x.1 x.2.2.toNat by omega, cnt_pos]
  constructor
  · rintro ⟨z, hz, hne⟩
    obtain ⟨k1, k2, k3, k4⟩ := get_of_mem f1 hz
    have k5 := k4 z.1 (Int.le_refl _) (by omega)
    rw [f4] at k5
    by_cases c : x.1 ≤ z.1 ∧ z.1 < x.1 + x.2.2
    · rw [if_pos c] at k5
      refine ⟨z.1, c.1, by omega, ?_⟩
      cases hg : get l z.1 with
      | some p => rfl
      | none =>
        unfold at_ at k5
        rw [hg] at k5
        simp only [Option.getD_none, Option.some.injEq] at k5
        unfold val at k5
        rw [if_neg hne] at k5
        have hm := f1.loose
        exfalso
        have h6 : -1 ≤ z.2.1 := from_mem f1 hz
        omega
    · rw [if_neg c] at k5; cases k5
  · rintro ⟨v, h1, h2, h3⟩
    have h4 := f4 v
    rw [if_pos (by omega)] at h4
    obtain ⟨z, hz, k1, k2, k3⟩ := get_mem h4
    refine ⟨z, hz, fun e => ?_⟩
    unfold val at k3
    rw [if_pos e] at k3
    cases hg : get l v with
    | none => rw [hg] at h3; cases h3
    | some p =>
      unfold at_ at k3
      rw [hg] at k3
      have := (g.vals v p hg).1
      simp only [Option.getD_some] at k3
      omega
end Ex
end Go.Proofs.Ytinlgoljaiolnaa
namespace Go.Proofs.Ytinlgoljaiolnaa
set_option linter.unusedVariables false
namespace Rf
def ownN (r : Rfr) : Nat := r.2.2.1.toNat
def extOf (r : Rfr) : Ext := (r.2.2.2, r.1, r.2.1)
abbrev Tab := (Nat → List Ext) × Int
def setT (L : Nat → List Ext) (o : Nat) (X : List Ext) : Nat → List Ext := fun q => if q = o then X else L q
abbrev MayR (r : Rfr) (L : Nat → List Ext) : Prop := 0 ≤ r.2.2.1 ∧ r.2.2.1 ≤ 255 ∧ Ex.putE (L (ownN r)) (extOf r) = 0
def stepR (r : Rfr) (s : Tab) : Option Tab := if MayR r s.1 then some (setT s.1 (ownN r) (Ex.putL (s.1 (ownN r)) (extOf r)), s.2 + r.2.1) else none
def putsR (l : List Rfr) : Option Tab := l.foldl (fun s r => s.bind (stepR r)) (some (fun _ => [], 0))
theorem puts_step {l : List Rfr} {j : Nat} (hj : j < l.length) : putsR (l.take (j + 1)) = (putsR (l.take j)).bind (stepR l[j]) := by
  unfold putsR
  rw [List.take_succ_eq_append_getElem hj, List.foldl_append]
  rfl
theorem fold_none : ∀ l : List Rfr, l.foldl (fun (s : Option Tab) r => s.bind (stepR r)) none = none
  | [] => rfl
  | x :: l => fold_none l
theorem puts_none {l : List Rfr} {j : Nat} (h : putsR (l.take j) = none) : putsR l = none := by
  have e : putsR l = (l.drop j).foldl (fun s r => s.bind (stepR r)) (putsR (l.take j)) := by
    unfold putsR
    rw [← List.foldl_append, List.take_append_drop]
  rw [e, h, fold_none]
theorem puts_next {l : List Rfr} {j : Nat} (hj : j < l.length) {L : Nat → List Ext} {t : Int} (h : putsR (l.take j) = some (L, t)) (hm : MayR l[j] L) : putsR (l.take (j + 1)) = some (setT L (ownN l[j]) (Ex.putL (L (ownN l[j])) (extOf l[j])), t + l[j].2.1) := by
  rw [puts_step hj, h]
  show stepR l[j] (L, t) = _
  unfold stepR
  rw [if_pos hm]
theorem puts_stop {l : List Rfr} {j : Nat} (hj : j < l.length) {L : Nat → List Ext} {t : Int} (h : putsR (l.take j) = some (L, t)) (hm : ¬ MayR l[j] L) : putsR l = none := by
  refine puts_none (j := j + 1) ?_
  rw [puts_step hj, h]
  show stepR l[j] (L, t) = _
  unfold stepR
  rw [if_neg hm]
theorem ok_nil : Ex.Ok [] := ⟨by decide, (fun x hx => by cases hx), trivial⟩
structure TabOk (L : Nat → List Ext) (t : Int) (j : Nat) : Prop where
  ok : ∀ o, Ex.Ok (L o)
  low : 0 ≤ t
  high : t ≤ 65536 * (j : Int)
theorem TabOk.start : TabOk (fun _ => []) 0 0 := ⟨fun _ => ok_nil, by decide, by decide⟩
theorem TabOk.next {L : Nat → List Ext} {t : Int} {j : Nat} (h : TabOk L t j) {r : Rfr} (hm : MayR r L) : TabOk (setT L (ownN r) (Ex.putL (L (ownN r)) (extOf r))) (t + r.2.1) (j + 1) ∧ 1 ≤ r.2.1 ∧ r.2.1 ≤ 65536 := by
  obtain ⟨h1, h2, h3⟩ := hm
  obtain ⟨k1, k2, k3⟩ := Ex.putE_zero.1 h3
  obtain ⟨-, g2, -⟩ := Ex.putL_ok h3
  have hb : 1 ≤ r.2.1 ∧ r.2.1 ≤ 65536 := by
    have e : (extOf r).2.2 = r.2.1 := rfl
    unfold Ex.One Ex.Fits at k2
    rw [e] at k2
    omega
  have hl := h.low
  have hh := h.high
  refine ⟨⟨fun o => ?_, by omega, by omega⟩, hb⟩
  unfold setT
  split
  · exact g2
  · exact h.ok o
theorem puts_ok {l : List Rfr} : ∀ j, j ≤ l.length → ∀ {L : Nat → List Ext} {t : Int}, putsR (l.take j) = some (L, t) → TabOk L t j
  | 0, _, L, t, h => by
    have h' : some ((fun _ => []), (0 : Int)) = some (L, t) := h
    cases h'
    exact TabOk.start
  | j + 1, hj, L, t, h => by
    cases hp : putsR (l.take j) with
    | none => rw [puts_step (by omega), hp] at h; cases h
    | some s =>
      obtain ⟨L', t'⟩ := s
      have ih := puts_ok j (by omega) hp
      by_cases hm : MayR (l[j]'(by omega)) L'
      · rw [puts_next (by omega) hp hm] at h
        cases h
        exact (ih.next hm).1
      · rw [puts_step (by omega), hp] at h
        change stepR (l[j]'(by omega)) (L', t') = _ at h
        unfold stepR at h
        rw [if_neg hm] at h
        cases h
theorem size_bound {l : List Ext} (h : Ex.Ok l) : 0 ≤ Ex.size l ∧ Ex.size l ≤ 65536 := by
  rw [Ex.size_ok h]
  have := Ex.cnt_le (Ex.get l) 0 65536
  omega
theorem size_take {l : List Ext} (h : Ex.Ok l) {k : Nat} (hk : k < l.length) : Ex.size (l.take (k + 1)) = Ex.size (l.take k) + l[k].2.2 := by
  unfold Ex.size
  rw [List.take_succ_eq_append_getElem hk, List.map_append, List.sum_append]
  simp
theorem size_part {l : List Ext} (h : Ex.Ok l) : ∀ k : Nat, 0 ≤ Ex.size (l.take k) ∧ Ex.size (l.take k) ≤ 65536 * (k : Int)
  | 0 => by simp [Ex.size]
  | k + 1 => by
    have ih := size_part h k
    by_cases hk : k < l.length
    · have ho := h.2.1 l[k] (List.getElem_mem hk)
      unfold Ex.One Ex.Fits at ho
      rw [size_take h hk]
      omega
    · rw [List.take_of_length_le (by omega)] at ih ⊢
      omega
def outOf (L : Nat → List Ext) : Nat → List Mpr
  | 0 => []
  | n + 1 => if L n = [] then outOf L n else outOf L n ++ [((n : Int), L n)]
def sizes (L : Nat → List Ext) : Nat → Int
  | 0 => 0
  | n + 1 => sizes L n + Ex.size (L n)
theorem out_len (L : Nat → List Ext) : ∀ n, (outOf L n).length ≤ n
  | 0 => Nat.le_refl _
  | n + 1 => by
    have ih := out_len L n
    unfold outOf
    split
    · omega
    · rw [List.length_append, List.length_singleton]; omega
theorem sizes_bound {L : Nat → List Ext} (h : ∀ o, Ex.Ok (L o)) : ∀ n, 0 ≤ sizes L n ∧ sizes L n ≤ 65536 * (n : Int)
  | 0 => by simp [sizes]
  | n + 1 => by
    have ih := sizes_bound h n
    have := size_bound (h n)
    unfold sizes
    omega
def backE (l : List Rfr) : Int := if 4096 < l.length then 3 else match putsR l with
  | none => 4
  | some s => if 0 < s.2 - sizes s.1 256 then 6 else if 9 < (outOf s.1 256).length then 3 else 0
def backL (l : List Rfr) : List Mpr := if backE l = 0 then (match putsR l with
  | none => []
  | some s => outOf s.1 256) else []
theorem back_many {l : List Rfr} (h : 4096 < l.length) : backE l = 3 ∧ backL l = [] := by
  have e : backE l = 3 := if_pos h
  exact ⟨e, by unfold backL; rw [e]; rfl⟩
theorem back_none {l : List Rfr} (h : ¬ 4096 < l.length) (hp : putsR l = none) : backE l = 4 ∧ backL l = [] := by
  have e : backE l = 4 := by unfold backE; rw [if_neg h, hp]
  exact ⟨e, by unfold backL; rw [e]; rfl⟩
theorem back_some {l : List Rfr} (h : ¬ 4096 < l.length) {L : Nat → List Ext} {t : Int} (hp : putsR l = some (L, t)) :
    backE l = (if 0 < t - sizes L 256 then 6 else if 9 < (outOf L 256).length then 3 else 0) ∧ backL l = if backE l = 0 then outOf L 256 else [] := by
  refine ⟨by unfold backE; rw [if_neg h, hp], ?_⟩
  unfold backL
  rw [hp]
end Rf
end Go.Proofs.Ytinlgoljaiolnaa
namespace Go.Proofs.Ytinlgoljaiolnaa
open Go.RowKit
set_option linter.unusedVariables false
theorem Row.four9 {w : World} {b : Nat} {t : TypeId} {u v y z : Value} (h : Row w b t [u, v, y, z]) : w.cell? ⟨b, 0, none⟩ = some u ∧ w.cell? ⟨b, 1, none⟩ = some v ∧ w.cell? ⟨b, 2, none⟩ = some y ∧ w.cell? ⟨b, 3, none⟩ = some z := ⟨h.cell (j := 0) rfl, h.cell (j := 1) rfl, h.cell (j := 2) rfl, h.cell (j := 3) rfl⟩
end Go.Proofs.Ytinlgoljaiolnaa
namespace Go.Proofs.Ytinlgoljaiolnaa.Ex
set_option linter.unusedVariables false
structure Pieces (ps : List Ext) : Prop where
  loose : Loose 0 ps
  last : Ex.last 0 ps ≤ 65536
  phys : ∀ z ∈ ps, -1 ≤ z.2.1 ∧ z.2.1 ≤ 131072
  len : ps.length ≤ 100000
theorem add_len (l : List Ext) (x : Ext) : (add l x).length ≤ l.length + 1 := by
  unfold add
  split
  · omega
  · split
    · simp
    · split
      · simp
      · simp
theorem addAll_len : ∀ (ps l : List Ext), (addAll l ps).length ≤ l.length + ps.length
  | [], l => by simp [addAll]
  | x :: ps, l => by
    have h1 := addAll_len ps (add l x)
    have h2 := add_len l x
    rw [show addAll l (x :: ps) = addAll (add l x) ps from rfl, List.length_cons]
    omega
theorem add_phys {l : List Ext} {x y : Ext} (h : y ∈ add l x) : ∃ z, (z ∈ l ∨ z = x) ∧ y.2.1 = z.2.1 := by
  unfold add at h
  split at h
  · exact ⟨y, .inl h, rfl⟩
  · rcases List.eq_nil_or_concat l with rfl | ⟨m, u, rfl⟩
    · simp only [List.getLast?_nil, List.mem_singleton] at h
      exact ⟨x, .inr rfl, by rw [h]⟩
    · rw [List.concat_eq_append] at h ⊢
      simp only [List.getLast?_append, List.getLast?_singleton, Option.some_or] at h
      split at h
      · simp only [List.dropLast_concat, List.mem_append, List.mem_singleton] at h
        rcases h with h | rfl
        · exact ⟨y, .inl (by simp [h]), rfl⟩
        · exact ⟨u, .inl (by simp), rfl⟩
      · rcases List.mem_append.1 h with h | h
        · exact ⟨y, .inl h, rfl⟩
        · exact ⟨x, .inr rfl, by rw [List.mem_singleton.1 h]⟩
theorem addAll_phys : ∀ {ps l : List Ext} {y : Ext}, y ∈ addAll l ps → ∃ z, (z ∈ l ∨ z ∈ ps) ∧ y.2.1 = z.2.1
  | [], l, y, h => ⟨y, .inl h, rfl⟩
  | x :: ps, l, y, h => by
    obtain ⟨z, hz, e⟩ := addAll_phys (ps := ps) (l := add l x) h
    rcases hz with hz | hz
    · obtain ⟨t, ht, e2⟩ := add_phys hz
      rcases ht with ht | rfl
      · exact ⟨t, .inl ht, e.trans e2⟩
      · exact ⟨t, .inr (by simp), e.trans e2⟩
    · exact ⟨z, .inr (by simp [hz]), e⟩
theorem Pieces.front {q r : List Ext} (h : Pieces (q ++ r)) : Pieces q := by
  obtain ⟨h1, h2⟩ := Loose_append.1 h.loose
  have h3 := h2.last
  have h4 := h.last
  rw [last_append] at h4
  exact ⟨h1, by omega, fun z hz => h.phys z (by simp [hz]), by have := h.len; rw [List.length_append] at this; omega⟩
theorem Loose.mem : ∀ {l : List Ext} {b : Int}, Loose b l → ∀ {x : Ext}, x ∈ l → b ≤ x.1 ∧ 0 ≤ x.2.2 ∧ x.1 + x.2.2 ≤ Ex.last b l
  | y :: l, b, ⟨h1, h2, h3, h4⟩, x, hx => by
    have hl := h4.last
    rcases List.mem_cons.1 hx with rfl | hx
    · exact ⟨h1, h2, hl⟩
    · obtain ⟨r1, r2, r3⟩ := h4.mem hx
      exact ⟨by omega, r2, r3⟩
theorem Pieces.small {ps : List Ext} (h : Pieces ps) {x : Ext} (hx : x ∈ ps) : (0 ≤ x.1 ∧ x.1 ≤ 65536) ∧ (-1 ≤ x.2.1 ∧ x.2.1 ≤ 131072) ∧ (0 ≤ x.2.2 ∧ x.2.2 ≤ 65536) := by
  obtain ⟨h1, h2, h3⟩ := h.loose.mem hx
  have := h.last
  have := h.phys x hx
  omega
theorem Pieces.made {ps : List Ext} (h : Pieces ps) {x : Ext} (hx : x ∈ addAll [] ps) : (0 ≤ x.1 ∧ x.1 ≤ 65536) ∧ (-1 ≤ x.2.1 ∧ x.2.1 ≤ 131072) ∧ (0 ≤ x.2.2 ∧ x.2.2 ≤ 65536) := by
  obtain ⟨r1, r2, r3, r4⟩ := tidy h.loose
  obtain ⟨h1, h2, h3⟩ := r1.loose.mem hx
  have := h.last
  obtain ⟨z, hz, e⟩ := addAll_phys hx
  have := h.phys z (hz.resolve_left (by simp))
  omega
theorem Pieces.count {ps : List Ext} (h : Pieces ps) : (addAll [] ps).length ≤ 100000 := by
  have h1 := addAll_len ps []
  have h2 := h.len
  simp only [List.length_nil, Nat.zero_add] at h1
  omega
theorem flat_len {f : Ext → List Ext} {k : Nat} (hf : ∀ x, (f x).length ≤ k) : ∀ l : List Ext, (l.flatMap f).length ≤ l.length * k
  | [] => by simp
  | x :: l => by
    have h1 := flat_len hf l
    have h2 := hf x
    rw [List.flatMap_cons, List.length_append, List.length_cons, Nat.add_mul]
    omega
theorem cutOne_low {v n : Int} {e : Ext} {lo hi : Int} (h1 : min (e.1 + e.2.2) (max e.1 v) = lo) (h2 : max e.1 (min (e.1 + e.2.2) (v + n)) = hi) :
    cutOne v n e = if hi ≤ lo then [e] else [(e.1, e.2.1, lo - e.1), (hi, e.2.1 + hi - e.1, e.1 + e.2.2 - hi)] := by
  subst h1 h2
  rfl
theorem cut_pieces {l : List Ext} (h : Ok l) (v n : Int) : Pieces (l.flatMap (cutOne v n)) := by
  have hg := h.good
  have hf := flat_last (f := cutOne v n) (fun x hx c hc => cutOne_loose (good_phys hg hx) c hc) hg.from_
  refine ⟨hf.1, Int.le_trans hf.2 hg.last, fun z hz => ?_, ?_⟩
  · obtain ⟨x, hx, hzx⟩ := List.mem_flatMap.1 hz
    have ho := good_phys hg hx
    unfold One Fits at ho
    unfold cutOne at hzx
    split at hzx
    · simp only [List.mem_singleton] at hzx; subst hzx; omega
    · simp only [List.mem_cons, List.not_mem_nil, or_false] at hzx
      rcases hzx with rfl | rfl <;> simp only <;> omega
  · have h1 := flat_len (f := cutOne v n) (k := 2) (fun x => by unfold cutOne; split <;> simp) l
    have h2 := h.1
    omega
theorem lookPs_phys {en : Int} : ∀ {l : List Ext} {a : Int}, (∀ x ∈ l, One x) → ∀ z ∈ lookPs en a l, -1 ≤ z.2.1 ∧ z.2.1 ≤ 131072
  | [], a, _, z, hz => by
    simp only [lookPs, List.mem_singleton] at hz
    subst hz
    exact ⟨Int.le_refl _, by show (-1 : Int) ≤ 131072; decide⟩
  | e :: l, a, hx, z, hz => by
    have ho := hx e (by simp)
    unfold One Fits at ho
    have hx' : ∀ x ∈ l, One x := fun x hy => hx x (by simp [hy])
    unfold lookPs at hz
    split at hz
    · exact lookPs_phys hx' z hz
    · rcases List.mem_cons.1 hz with rfl | hz
      · exact ⟨Int.le_refl _, by show (-1 : Int) ≤ 131072; decide⟩
      · rcases List.mem_cons.1 hz with rfl | hz
        · simp only; omega
        · exact lookPs_phys hx' z hz
theorem lookPs_len {en : Int} : ∀ (l : List Ext) (a : Int), (lookPs en a l).length ≤ 2 * l.length + 1
  | [], a => by simp [lookPs]
  | e :: l, a => by
    unfold lookPs
    split
    · have := lookPs_len (en := en) l a
      rw [List.length_cons]; omega
    · have := lookPs_len (en := en) l (min (e.1 + e.2.2) en)
      simp only [List.length_cons]; omega
theorem look_pieces {l : List Ext} (h : Ok l) {v n : Int} (hf : Fits v n) : Pieces (lookPs (v + n) v l) := by
  have hg := h.good
  unfold Fits at hf
  obtain ⟨p1, p2, p3⟩ := lookPs_ok (en := v + n) (a := v) hg.from_ (fun x hx => good_phys hg hx) (by omega)
  refine ⟨p1.weaken hf.1, ?_, lookPs_phys (fun x hx => good_phys hg hx), ?_⟩
  · have mono : ∀ {l : List Ext} {b c : Int}, b ≤ c → Ex.last b l ≤ Ex.last c l := by
      intro l b c hbc
      cases l with
      | nil => exact hbc
      | cons y l => exact Int.le_refl _
    have := mono (l := lookPs (v + n) v l) hf.1
    omega
  · have h1 := lookPs_len (en := v + n) l v
    have h2 := h.1
    omega
theorem lookPs_at {en : Int} {l : List Ext} {k : Nat} (hk : k < l.length) {a lo hi : Int} (h1 : max l[k].1 a = lo) (h2 : min (l[k].1 + l[k].2.2) en = hi) :
    lookPs en a (l.drop k) = if hi ≤ lo then lookPs en a (l.drop (k + 1)) else (a, -1, lo - a) :: (lo, l[k].2.1 + lo - l[k].1, hi - lo) :: lookPs en hi (l.drop (k + 1)) := by
  subst h1 h2
  rw [List.drop_eq_getElem_cons hk]
  rfl
theorem flat_at {f : Ext → List Ext} (l : List Ext) (k : Nat) (hk : k < l.length) : l.flatMap f = (l.take k).flatMap f ++ (f l[k] ++ (l.drop (k + 1)).flatMap f) := by
  conv => lhs; rw [← List.take_append_drop k l, List.drop_eq_getElem_cons hk]
  rw [List.flatMap_append, List.flatMap_cons]
theorem flat_next {f : Ext → List Ext} (l : List Ext) (k : Nat) (hk : k < l.length) : (l.take (k + 1)).flatMap f = (l.take k).flatMap f ++ f l[k] := by
  rw [List.take_succ_eq_append_getElem hk, List.flatMap_append]
  simp
end Go.Proofs.Ytinlgoljaiolnaa.Ex
namespace Go.Proofs.Ytinlgoljaiolnaa.Ex
set_option linter.unusedVariables false
theorem ins_mem {x z : Ext} : ∀ {l : List Ext}, z ∈ ins x l → z = x ∨ z ∈ l
  | [], h => by simp only [ins, List.mem_singleton] at h; exact .inl h
  | e :: l, h => by
    unfold ins at h
    split at h
    · rcases List.mem_cons.1 h with rfl | h
      · exact .inr (by simp)
      · rcases ins_mem h with k | k
        · exact .inl k
        · exact .inr (by simp [k])
    · rcases List.mem_cons.1 h with rfl | h
      · exact .inl rfl
      · exact .inr h
theorem ins_len (x : Ext) : ∀ l : List Ext, (ins x l).length = l.length + 1
  | [] => rfl
  | e :: l => by
    unfold ins
    split
    · rw [List.length_cons, ins_len x l, List.length_cons]
    · rw [List.length_cons, List.length_cons]
theorem without_len (l : List Ext) (v n : Int) : (without l v n).length ≤ l.length * 2 := by
  have h1 := addAll_len (l.flatMap (cutOne v n)) []
  have h2 := flat_len (f := cutOne v n) (k := 2) (fun x => by unfold cutOne; split <;> simp) l
  simp only [List.length_nil, Nat.zero_add] at h1
  exact Nat.le_trans h1 h2
theorem put_pieces {l : List Ext} (h : Ok l) {x : Ext} (hx : One x) : Pieces (ins x (without l x.1 x.2.2)) := by
  obtain ⟨w1, w2⟩ := without_ok h.good x.1 x.2.2
  have hx' := hx
  unfold One Fits at hx'
  obtain ⟨r1, r2, r3⟩ := ins_ok hx w1.from_ hx'.2.1.1 (fun u a c => by rw [w2 u, if_pos ⟨a, c⟩])
  refine ⟨r1.loose, r2 65536 (by omega) w1.last, fun z hz => ?_, ?_⟩
  · rcases ins_mem hz with rfl | hz
    · omega
    · have := good_phys w1 hz
      unfold One Fits at this
      omega
  · rw [ins_len]
    have h1 := without_len l x.1 x.2.2
    have h2 := h.1
    omega
theorem ins_at {x : Ext} {l : List Ext} {k : Nat} (hk : k < l.length) : ins x (l.drop k) = if l[k].1 < x.1 then l[k] :: ins x (l.drop (k + 1)) else x :: l.drop k := by
  conv => lhs; rw [List.drop_eq_getElem_cons hk]
  conv => rhs; rw [List.drop_eq_getElem_cons hk]
  rfl
end Go.Proofs.Ytinlgoljaiolnaa.Ex
namespace Go.Proofs.Ytinlgoljaiolnaa.Ex
set_option linter.unusedVariables false
def part (x : Ext) (a b : Int) : List Ext := if max a 0 < min b x.2.2 then [(x.1 + max a 0, x.2.1 + max a 0, min b x.2.2 - max a 0)] else []
def wOne (a b : Int) (x : Ext) : List Ext := part x (a - x.1) (b - x.1)
def within (l : List Ext) (a b : Int) : List Ext := l.flatMap (wOne a b)
structure Bits (ps : List Ext) : Prop where
  pieces : Pieces ps
  one : ∀ z ∈ ps, 1 ≤ z.2.2 ∧ 0 ≤ z.2.1
theorem Bits.front {q r : List Ext} (h : Bits (q ++ r)) : Bits q := ⟨h.pieces.front, fun z hz => h.one z (by simp [hz])⟩
theorem part_len (x : Ext) (a b : Int) : (part x a b).length ≤ 1 := by unfold part; split <;> simp
theorem part_mem {x z : Ext} {a b : Int} (h : z ∈ part x a b) : 1 ≤ z.2.2 ∧ x.2.1 ≤ z.2.1 ∧ z.2.1 + z.2.2 ≤ x.2.1 + x.2.2 := by
  unfold part at h
  split at h
  · simp only [List.mem_singleton] at h
    subst h
    simp only
    omega
  · cases h
theorem wOne_none {a b : Int} {x : Ext} (h : x.1 + x.2.2 ≤ a ∨ b ≤ x.1) : wOne a b x = [] := by
  unfold wOne part
  rw [if_neg (by omega)]
theorem within_none : ∀ {l : List Ext} {c a b : Int}, From c l → b ≤ c → within l a b = []
  | [], _, _, _, _, _ => rfl
  | x :: l, c, a, b, ⟨h1, h2, h3, h4⟩, h => by
    unfold within
    rw [List.flatMap_cons, wOne_none (.inr (by omega))]
    exact within_none (c := x.1 + x.2.2) h4 (by omega)
theorem within_len (l : List Ext) (a b : Int) : (within l a b).length ≤ l.length := by
  have := flat_len (f := wOne a b) (k := 1) (fun x => part_len _ _ _) l
  rw [Nat.mul_one] at this
  exact this
theorem within_mem {l : List Ext} {a b : Int} {z : Ext} (hl : ∀ x ∈ l, One x) (h : z ∈ within l a b) : 1 ≤ z.2.2 ∧ 0 ≤ z.2.1 ∧ z.2.1 + z.2.2 ≤ 65536 := by
  obtain ⟨x, hx, hz⟩ := List.mem_flatMap.1 h
  have h1 := part_mem hz
  have h2 := hl x hx
  unfold One Fits at h2
  omega
theorem within_loose : ∀ {l : List Ext} {c : Int}, From c l → (∀ x ∈ l, One x) → ∀ {d a b : Int}, d ≤ max a c → d ≤ b → Loose d (within l a b) ∧ Ex.last d (within l a b) ≤ b
  | [], c, _, _, d, a, b, h1, h2 => ⟨trivial, h2⟩
  | x :: l, c, ⟨f1, f2, f3, f4⟩, ho, d, a, b, h1, h2 => by
    have ih := fun {d : Int} => within_loose (l := l) (c := x.1 + x.2.2) f4 (fun y hy => ho y (by simp [hy])) (d := d) (a := a) (b := b)
    have hx := ho x (by simp)
    unfold One Fits at hx
    have e : within (x :: l) a b = wOne a b x ++ within l a b := rfl
    rw [e]
    unfold wOne part
    split
    · next hc =>
      obtain ⟨i1, i2⟩ := ih (d := x.1 + min (b - x.1) x.2.2) (by omega) (by omega)
      have e2 : x.1 + max (a - x.1) 0 + (min (b - x.1) x.2.2 - max (a - x.1) 0) = x.1 + min (b - x.1) x.2.2 := by omega
      refine ⟨⟨?_, ?_, ?_, ?_⟩, ?_⟩
      · show d ≤ x.1 + max (a - x.1) 0; omega
      · show 0 ≤ min (b - x.1) x.2.2 - max (a - x.1) 0; omega
      · show -1 ≤ x.2.1 + max (a - x.1) 0; omega
      · show Loose (x.1 + max (a - x.1) 0 + (min (b - x.1) x.2.2 - max (a - x.1) 0)) (within l a b)
        rw [e2]; exact i1
      · show Ex.last (x.1 + max (a - x.1) 0 + (min (b - x.1) x.2.2 - max (a - x.1) 0)) (within l a b) ≤ b
        rw [e2]; exact i2
    · next hc =>
      exact ih (by omega) h2
theorem wOne_get {a b : Int} {e : Ext} (h : One e) (u : Int) : get (wOne a b e) u = if a ≤ u ∧ u < b then get [e] u else none := by
  unfold One Fits at h
  unfold wOne part
  by_cases hc : max (a - e.1) 0 < min (b - e.1) e.2.2
  · rw [if_pos hc]
    simp only [get, val]
    rw [if_neg (by omega : ¬ e.2.1 + max (a - e.1) 0 = -1), if_neg (by omega : ¬ e.2.1 = -1)]
    by_cases c1 : a ≤ u ∧ u < b
    · rw [if_pos c1]
      by_cases c2 : e.1 ≤ u ∧ u < e.1 + e.2.2
      · rw [if_pos c2, if_pos (by omega)]
        congr 1; omega
      · rw [if_neg c2, if_neg (by omega)]
    · rw [if_neg c1, if_neg (by omega)]
  · rw [if_neg hc]
    simp only [get]
    by_cases c1 : a ≤ u ∧ u < b
    · rw [if_pos c1, if_neg (by omega)]
    · rw [if_neg c1]
theorem within_get {l : List Ext} {c a b : Int} (hf : From c l) (ho : ∀ x ∈ l, One x) (u : Int) : get (within l a b) u = if a ≤ u ∧ u < b then get l u else none :=
  flat_get (f := wOne a b) (g := fun v o => if a ≤ v ∧ v < b then o else none) (fun v => by simp) hf (fun x hx v => wOne_get (ho x hx) v) u
theorem bits_good {ps : List Ext} (h : Bits ps) (hp : ∀ z ∈ ps, z.2.1 + z.2.2 ≤ 65536) : Good (addAll [] ps) ∧ ∀ v, get (addAll [] ps) v = get ps v := by
  refine good_tidy h.pieces.loose h.pieces.last (fun v p hv => ?_)
  obtain ⟨x, hx, h1, h2, rfl⟩ := get_mem hv
  have h3 := h.one x hx
  have h4 := hp x hx
  unfold val
  rw [if_neg (by omega)]
  omega
theorem get_out {l : List Ext} (h : Good l) {u : Int} (hu : u < 0 ∨ 65536 ≤ u) : get l u = none := by
  rcases hu with hu | hu
  · exact get_low h.from_.loose hu
  · exact get_high h.from_.loose (Int.le_trans h.last hu)
def putPs (l : List Ext) (x : Ext) : List Ext := within l 0 x.1 ++ (x :: within l (x.1 + x.2.2) 65536)
theorem putPs_bits {l : List Ext} (h : Ok l) {x : Ext} (hx : One x) : Bits (putPs l x) ∧ ∀ z ∈ putPs l x, z.2.1 + z.2.2 ≤ 65536 := by
  have hg := h.good
  unfold One Fits at hx
  have ho := fun x hx => good_phys hg (x := x) hx
  obtain ⟨a1, a2⟩ := within_loose hg.from_ ho (d := 0) (a := 0) (b := x.1) (by omega) (by omega)
  obtain ⟨b1, b2⟩ := within_loose hg.from_ ho (d := x.1 + x.2.2) (a := x.1 + x.2.2) (b := 65536) (by omega) (by omega)
  have hm : ∀ z ∈ putPs l x, 1 ≤ z.2.2 ∧ 0 ≤ z.2.1 ∧ z.2.1 + z.2.2 ≤ 65536 := fun z hz => by
    rcases List.mem_append.1 hz with hz | hz
    · exact within_mem ho hz
    · rcases List.mem_cons.1 hz with rfl | hz
      · omega
      · exact within_mem ho hz
  refine ⟨⟨⟨Loose_append.2 ⟨a1, by omega, by omega, by omega, b1⟩, ?_, fun z hz => ?_, ?_⟩, fun z hz => ?_⟩, fun z hz => (hm z hz).2.2⟩
  · unfold putPs; rw [last_append]; exact b2
  · have := hm z hz; omega
  · have h1 := within_len l 0 x.1
    have h2 := within_len l (x.1 + x.2.2) 65536
    have h3 := h.1
    unfold putPs
    rw [List.length_append, List.length_cons]
    omega
  · have := hm z hz; omega
theorem putPs_eq {l : List Ext} (h : Ok l) {x : Ext} (hx : One x) : addAll [] (putPs l x) = put l x := by
  have hg := h.good
  have ho := fun x hx => good_phys hg (x := x) hx
  obtain ⟨b1, b2⟩ := putPs_bits h hx
  obtain ⟨g1, g2⟩ := bits_good b1 b2
  obtain ⟨w1, w2⟩ := put_ok hg hx
  unfold One Fits at hx
  refine good_unique g1 w1 (fun u => ?_)
  rw [g2, w2]
  unfold putPs
  rw [get_append, within_get hg.from_ ho]
  simp only [get, val]
  rw [within_get hg.from_ ho, if_neg (by omega : ¬ x.2.1 = -1)]
  by_cases c1 : x.1 ≤ u ∧ u < x.1 + x.2.2
  · rw [if_pos c1, if_pos c1, if_neg (by omega)]; rfl
  · rw [if_neg c1, if_neg c1]
    by_cases c2 : 0 ≤ u ∧ u < x.1
    · rw [if_pos c2, if_neg (by omega)]; simp
    · rw [if_neg c2]
      by_cases c3 : x.1 + x.2.2 ≤ u ∧ u < 65536
      · rw [if_pos c3]; rfl
      · rw [if_neg c3, get_out hg (by omega)]; rfl
end Go.Proofs.Ytinlgoljaiolnaa.Ex
