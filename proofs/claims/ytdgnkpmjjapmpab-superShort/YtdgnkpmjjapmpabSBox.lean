/-
  Superblocks in cells: read, laid, answered. Conditions: those that each lemma names.
-/
import Derived.Test.YtdgnkpmjjapmpabSSpec
import Derived.Test.YtdgnkpmjjapmpabRBox
namespace Go.Proofs.Ytdgnkpmjjapmpab
open Go.RowKit
set_option linter.unusedVariables false

theorem rSuper_cells {w : World} {P : Nat → Prop} {cs : List Value} {s : Super} (h : rSuper.rd w P cs s) :
    cs = [.int .i64 s.1, .int .i64 s.2.1, .int .i64 s.2.2.1, .int .i64 s.2.2.2.1, .int .i64 s.2.2.2.2.1, .int .i64 s.2.2.2.2.2.1, .int .i64 s.2.2.2.2.2.2] := by
  obtain ⟨_, _, rfl, ⟨rfl, _⟩, _, _, rfl, ⟨rfl, _⟩, _, _, rfl, ⟨rfl, _⟩, _, _, rfl, ⟨rfl, _⟩, _, _, rfl, ⟨rfl, _⟩, _, _, rfl, ⟨rfl, _⟩, rfl, _⟩ := h
  rfl

theorem rSuper_rd {w : World} {P : Nat → Prop} {cs : List Value} {s : Super} (h : rSuper.rd w P cs s) :
    ∃ a b c d e f g : Int, s = (a, b, c, d, e, f, g) ∧ cs = [.int .i64 a, .int .i64 b, .int .i64 c, .int .i64 d, .int .i64 e, .int .i64 f, .int .i64 g] :=
  ⟨s.1, s.2.1, s.2.2.1, s.2.2.2.1, s.2.2.2.2.1, s.2.2.2.2.2.1, s.2.2.2.2.2.2, rfl, rSuper_cells h⟩

namespace Sup
def atPages (s : Super) : Int := wrap64 (2 + s.2.2.1)
def atData (s : Super) : Int := wrap64 (atPages s + s.2.2.2.1)
def allOf (s : Super) : Int := wrap64 (atData s + s.2.2.2.2.1)
end Sup

theorem results_tmp4 {fn : Func} {t u v x : Tmp} (h : fn.results = #[.tmp t, .tmp u, .tmp v, .tmp x]) (tmps : Array Value) (P : Program) (w : World) :
    (results fn tmps).run P w = .ok (.tuple #[tmps.getD t undef, tmps.getD u undef, tmps.getD v undef, tmps.getD x undef]) w := by
  simp [results, h]

def Sup7 (w : World) (g : Nat) (a b c d e f k : Nat) : Prop := w.cell? ⟨g, 0, none⟩ = some (.int .i64 a) ∧ w.cell? ⟨g, 1, none⟩ = some (.int .i64 b) ∧ w.cell? ⟨g, 2, none⟩ = some (.int .i64 c) ∧ w.cell? ⟨g, 3, none⟩ = some (.int .i64 d) ∧ w.cell? ⟨g, 4, none⟩ = some (.int .i64 e) ∧ w.cell? ⟨g, 5, none⟩ = some (.int .i64 f) ∧ w.cell? ⟨g, 6, none⟩ = some (.int .i64 k)

theorem Row.seven {w : World} {g : Nat} {t : TypeId} {a b c d e f k : Nat} (h : Row w g t [.int .i64 a, .int .i64 b, .int .i64 c, .int .i64 d, .int .i64 e, .int .i64 f, .int .i64 k]) : Sup7 w g a b c d e f k :=
  ⟨h.cell rfl, h.cell rfl, h.cell rfl, h.cell rfl, h.cell rfl, h.cell rfl, h.cell rfl⟩

theorem Row.drew {w : World} {g : Nat} {t : TypeId} {xs : List Value} (h : Row w g t xs) : Row w.drew g t xs := h.keep rfl
theorem Row.alloc {w : World} {g : Nat} {t : TypeId} {xs : List Value} (h : Row w g t xs) (o : Obj) : Row (w.alloc o) g t xs := h.below ((Below.refl _ _).alloc (Nat.le_refl _) _)

theorem u64_nat (n : Nat) (h : n < 18446744073709551616) : IntKind.u64.wrap (n : Int) = (n : Int) := by
  rw [IntKind.wrap_u64]
  omega

theorem alloc_on {w w1 : World} (h : Below w.heap.size w w1) (o : Obj) : Below w.heap.size w (w1.alloc o) := h.alloc h.size o

namespace Sup
theorem decode_no {b : List UInt8} (h : b.length = 64) (hn : ¬ (Crc.openE b = 0 ∧ isHead b = true ∧ isBare b = true)) : decodeE b = 21 ∧ decodeS b = zero := by
  have e : decodeE b = 21 := by unfold decodeE; rw [if_pos h, if_neg hn]
  exact ⟨e, by unfold decodeS; rw [e]; rfl⟩

theorem bare_at {b : List UInt8} (h : isBare b = true) {k : Nat} (hk : 40 ≤ k) (hl : k < (Crc.openL b).length) : (Crc.openL b)[k] = 0 := by
  unfold isBare at h
  have := List.all_eq_true.1 h (Crc.openL b)[k] (by
    rw [List.mem_iff_getElem]
    exact ⟨k - 40, by rw [List.length_drop]; omega, by rw [List.getElem_drop]; congr 1; omega⟩)
  exact beq_iff_eq.1 this

theorem bare_all {b : List UInt8} (h : ∀ j (h : j < (Crc.openL b).length), 40 ≤ j → (Crc.openL b)[j] = 0) : isBare b = true := by
  unfold isBare
  apply List.all_eq_true.2
  intro x hx
  obtain ⟨j, hj, rfl⟩ := List.mem_iff_getElem.1 hx
  rw [List.length_drop] at hj
  rw [List.getElem_drop]
  exact beq_iff_eq.2 (h _ (by omega) (by omega))
end Sup

theorem below_of_drew {w w' : World} (h : Below w.drew.heap.size w.drew w') : Below w.heap.size w w' := ⟨h.os, h.tape, h.output, h.size, h.block⟩

namespace Sup
theorem inner_ok {b : List UInt8} (h : (Crc.openL b).length = 60) : Oct.unpackE widths (inner b) = 0 ∧ (Oct.unpackL widths (inner b)).length = 7 ∧ (inner b).length = 36 := by
  have hil : (inner b).length = 36 := by unfold inner; rw [List.length_take, List.length_drop]; omega
  obtain ⟨u1, u2⟩ := Oct.unpackE_ok (W := widths) (l := inner b) (by decide) allOk_widths (by rw [hil]; exact total_widths)
  exact ⟨u1, by rw [u2, Oct.nums_length]; rfl, hil⟩
end Sup

theorem seven_of {α : Type} {l : List α} (h : l.length = 7) : ∃ a b c d e f g, l = [a, b, c, d, e, f, g] := by
  match l, h with
  | [a, b, c, d, e, f, g], _ => exact ⟨a, b, c, d, e, f, g, rfl⟩

def cells7 (s : Super) : List Value := [.int .i64 s.1, .int .i64 s.2.1, .int .i64 s.2.2.1, .int .i64 s.2.2.2.1, .int .i64 s.2.2.2.2.1, .int .i64 s.2.2.2.2.2.1, .int .i64 s.2.2.2.2.2.2]

/-- A result of seven cells, written whole, and a number beside it. -/
theorem sup_ret {Pr : Program} {fn : Func} {p q : Tmp} {ty t : TypeId} {tmps : Array Value} {w w2 : World} {b : Nat} {d : TypeDesc} {x0 x1 x2 x3 x4 x5 x6 : Value} (V : Row w2 b t [x0, x1, x2, x3, x4, x5, x6]) (bel : Below w.heap.size w w2) (hb : w.heap.size ≤ b)
    (u0 u1 u2 u3 u4 u5 u6 : Value) (err : Int) (h : fn.results = #[.cell p ty, .tmp q]) (hp : tmps.getD p undef = .pointer (some ⟨b, 0, none⟩)) (hq : tmps.getD q undef = .int .i64 err)
    (hu : Pr.underlying ty = some d) (hd : d.isRow = true) (hi : (Pr.info? ty).map (·.size) = some 7) {R : Ending → World → Prop}
    (hR : ∀ w', Row w' b t [u0, u1, u2, u3, u4, u5, u6] → Below w.heap.size w w' → R (.returned (.tuple #[.agg #[u0, u1, u2, u3, u4, u5, u6], .int .i64 err])) w') :
    bodyPost Pr fn R .ret { tmps := tmps, defers := [] } (((((((w2.setCell ⟨b, 0, none⟩ u0).setCell ⟨b, 1, none⟩ u1).setCell ⟨b, 2, none⟩ u2).setCell ⟨b, 3, none⟩ u3).setCell ⟨b, 4, none⟩ u4).setCell ⟨b, 5, none⟩ u5).setCell ⟨b, 6, none⟩ u6) := by
  obtain ⟨w', hw, V', K'⟩ := V.whole7 u0 u1 u2 u3 u4 u5 u6
  rw [hw]
  have hr := results_rowt (Pr := Pr) (fn := fn) h hp V' hu hd hi
  rw [hq] at hr
  exact bodyPost_ret hr rfl (hR w' V' (Kept.belowOf bel K' hb))

/-- A result of seven cells alone, written whole within a statement that draws. -/
theorem sup_ret1 {Pr : Program} {fn : Func} {p : Tmp} {ty t : TypeId} {tmps : Array Value} {w w2 : World} {b : Nat} {d : TypeDesc} {x0 x1 x2 x3 x4 x5 x6 : Value} (V : Row w2 b t [x0, x1, x2, x3, x4, x5, x6]) (bel : Below w.heap.size w w2) (hb : w.heap.size ≤ b)
    (u0 u1 u2 u3 u4 u5 u6 : Value) (h : fn.results = #[.cell p ty]) (hp : tmps.getD p undef = .pointer (some ⟨b, 0, none⟩))
    (hu : Pr.underlying ty = some d) (hd : d.isRow = true) (hi : (Pr.info? ty).map (·.size) = some 7) {R : Ending → World → Prop}
    (hR : ∀ w', Row w' b t [u0, u1, u2, u3, u4, u5, u6] → Below w.heap.size w w' → R (.returned (.agg #[u0, u1, u2, u3, u4, u5, u6])) w') :
    bodyPost Pr fn R .ret { tmps := tmps, defers := [] } (((((((w2.setCell ⟨b, 0, none⟩ u0).setCell ⟨b, 1, none⟩ u1).setCell ⟨b, 2, none⟩ u2).setCell ⟨b, 3, none⟩ u3).setCell ⟨b, 4, none⟩ u4).setCell ⟨b, 5, none⟩ u5).setCell ⟨b, 6, none⟩ u6).drew := by
  obtain ⟨w', hw, V', K'⟩ := V.whole7 u0 u1 u2 u3 u4 u5 u6
  rw [hw]
  have hr := results_row (Pr := Pr) (fn := fn) h hp V'.drew hu hd hi
  exact bodyPost_ret hr rfl (hR w'.drew V'.drew (Kept.belowOf bel K' hb).drew)

/-- .. with two numbers beside it. -/
theorem sup_ret3 {Pr : Program} {fn : Func} {p q r : Tmp} {ty t : TypeId} {tmps : Array Value} {w w2 : World} {b : Nat} {d : TypeDesc} {x0 x1 x2 x3 x4 x5 x6 : Value} (V : Row w2 b t [x0, x1, x2, x3, x4, x5, x6]) (bel : Below w.heap.size w w2) (hb : w.heap.size ≤ b)
    (u0 u1 u2 u3 u4 u5 u6 : Value) (num err : Int) (h : fn.results = #[.cell p ty, .tmp q, .tmp r]) (hp : tmps.getD p undef = .pointer (some ⟨b, 0, none⟩)) (hq : tmps.getD q undef = .int .i64 num) (hr : tmps.getD r undef = .int .i64 err)
    (hu : Pr.underlying ty = some d) (hd : d.isRow = true) (hi : (Pr.info? ty).map (·.size) = some 7) {R : Ending → World → Prop}
    (hR : ∀ w', Row w' b t [u0, u1, u2, u3, u4, u5, u6] → Below w.heap.size w w' → R (.returned (.tuple #[.agg #[u0, u1, u2, u3, u4, u5, u6], .int .i64 num, .int .i64 err])) w') :
    bodyPost Pr fn R .ret { tmps := tmps, defers := [] } (((((((w2.setCell ⟨b, 0, none⟩ u0).setCell ⟨b, 1, none⟩ u1).setCell ⟨b, 2, none⟩ u2).setCell ⟨b, 3, none⟩ u3).setCell ⟨b, 4, none⟩ u4).setCell ⟨b, 5, none⟩ u5).setCell ⟨b, 6, none⟩ u6) := by
  obtain ⟨w', hw, V', K'⟩ := V.whole7 u0 u1 u2 u3 u4 u5 u6
  rw [hw]
  have hx := results_rowtt (Pr := Pr) (fn := fn) h hp V' hu hd hi
  rw [hq, hr] at hx
  exact bodyPost_ret hx rfl (hR w' V' (Kept.belowOf bel K' hb))

theorem openL_length {l : List UInt8} (h : l.length = 64) (hE : Crc.openE l = 0) : (Crc.openL l).length = 60 := by
  rcases Crc.openE_cases l with ⟨g, _, _⟩ | ⟨g1, g2, g3, g4⟩ | ⟨_, _, g, _⟩
  · omega
  · rw [g4, List.length_take]; omega
  · rw [hE] at g; cases g

namespace Sup
/-- Numbers taken as they stand: above all that an int holds they are below zero. -/
def ofW (l : List Nat) : Super := (wrap64 (l.getD 0 0 : Nat), wrap64 (l.getD 1 0 : Nat), wrap64 (l.getD 2 0 : Nat), wrap64 (l.getD 3 0 : Nat), wrap64 (l.getD 4 0 : Nat), wrap64 (l.getD 5 0 : Nat), wrap64 (l.getD 6 0 : Nat))

theorem w_lo {n : Nat} (h : n < 18446744073709551616) (h0 : 0 ≤ wrap64 (n : Int)) (h1 : wrap64 (n : Int) ≤ 1099511627776) : wrap64 (n : Int) = lo n := by
  unfold lo
  unfold wrap64 at *
  omega

theorem lo_w {n : Nat} (h1 : lo n ≤ 1099511627776) : wrap64 (n : Int) = lo n := by
  unfold lo at *
  unfold wrap64
  omega

theorem ofW_eq {l : List Nat} (hl : ∀ v ∈ l, v < 18446744073709551616) (h : ok (ofW l) = true ∨ ok (ofNums l) = true) : ofW l = ofNums l := by
  have g : ∀ k, l.getD k 0 < 18446744073709551616 := by
    intro k
    rw [List.getD_eq_getElem?_getD]
    cases e : l[k]? with
    | none => simp
    | some v => simpa using hl v (List.mem_of_getElem? e)
  rcases h with h | h
  · obtain ⟨⟨a1, a2⟩, ⟨b1, b2⟩, ⟨c1, c2⟩, ⟨d1, d2⟩, ⟨e1, e2⟩, ⟨f1, f2⟩, g1, g2⟩ := ok_iff.1 h
    simp only [ofW] at a1 a2 b1 b2 c1 c2 d1 d2 e1 e2 f1 f2 g1 g2
    simp only [ofW, ofNums]
    rw [w_lo (g 0) a1 a2, w_lo (g 1) b1 (by omega), w_lo (g 2) (by omega) (by omega), w_lo (g 3) (by omega) (by omega), w_lo (g 4) e1 (by omega), w_lo (g 5) f1 f2, w_lo (g 6) g1 (by omega)]
  · obtain ⟨⟨a1, a2⟩, ⟨b1, b2⟩, ⟨c1, c2⟩, ⟨d1, d2⟩, ⟨e1, e2⟩, ⟨f1, f2⟩, g1, g2⟩ := ok_iff.1 h
    simp only [ofNums] at a1 a2 b1 b2 c1 c2 d1 d2 e1 e2 f1 f2 g1 g2
    simp only [ofW, ofNums]
    rw [lo_w a2, lo_w (n := l.getD 1 0) (by omega), lo_w (n := l.getD 2 0) (by omega), lo_w (n := l.getD 3 0) (by omega), lo_w (n := l.getD 4 0) (by omega), lo_w f2, lo_w (n := l.getD 6 0) (by omega)]

theorem ofW_ok {l : List Nat} (hl : ∀ v ∈ l, v < 18446744073709551616) : ok (ofW l) = ok (ofNums l) := by
  rw [Bool.eq_iff_iff]
  exact ⟨fun h => by rw [← ofW_eq hl (.inl h)]; exact h, fun h => by rw [ofW_eq hl (.inr h)]; exact h⟩

theorem unpack_lt {b : List UInt8} (h : (Crc.openL b).length = 60) : ∀ v ∈ Oct.unpackL widths (inner b), v < 18446744073709551616 := by
  have hil : (inner b).length = 36 := by unfold inner; rw [List.length_take, List.length_drop]; omega
  obtain ⟨_, u2⟩ := Oct.unpackE_ok (W := widths) (l := inner b) (by decide) allOk_widths (by rw [hil]; exact total_widths)
  rw [u2]
  exact Oct.nums_lt widths _ 0 allOk_widths

/-- What Decode answers where the sum, the head and the zeros stand, by the numbers as they stand. -/
theorem decode_in {b : List UInt8} (h64 : b.length = 64) (h1 : Crc.openE b = 0) (h2 : isHead b = true) (h3 : isBare b = true) :
    decodeE b = checkE (ofW (Oct.unpackL widths (inner b))) ∧ decodeS b = if ok (ofW (Oct.unpackL widths (inner b))) then ofW (Oct.unpackL widths (inner b)) else zero := by
  have hl := unpack_lt (b := b) (openL_length h64 h1)
  have hE : decodeE b = if ok (read b) then 0 else 4 := by unfold decodeE; rw [if_pos h64, if_pos ⟨h1, h2, h3⟩]
  have hr : read b = ofNums (Oct.unpackL widths (inner b)) := by unfold read; rfl
  rw [hr] at hE
  generalize Oct.unpackL widths (inner b) = l at *
  have hk := ofW_ok hl
  have hS1 : decodeE b = 0 → decodeS b = ofNums l := fun h => by unfold decodeS; rw [if_pos h, hr]
  have hS2 : decodeE b ≠ 0 → decodeS b = zero := fun h => by unfold decodeS; rw [if_neg h]
  unfold checkE
  generalize decodeE b = E at *
  generalize decodeS b = S at *
  cases h : ok (ofNums l)
  · rw [h] at hE hk
    rw [if_neg (by decide)] at hE
    rw [hk, if_neg (by decide), if_neg (by decide)]
    exact ⟨hE, hS2 (by rw [hE]; decide)⟩
  · rw [h] at hE hk
    rw [if_pos rfl] at hE
    rw [hk, if_pos rfl, if_pos rfl, ofW_eq hl (.inr h)]
    exact ⟨hE, hS1 hE⟩
end Sup

end Go.Proofs.Ytdgnkpmjjapmpab
