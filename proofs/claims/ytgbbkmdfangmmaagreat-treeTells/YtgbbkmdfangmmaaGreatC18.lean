/-
  Facts that the proof rests on, part 19. Conditions: those that each of them names.
-/
import Derived.Deep.RegionHeldLaw
import Derived.Lib.Overlaps
import Derived.Test.YtgbbkmdfangmmaaGreatC09
import Derived.Test.YtgbbkmdfangmmaaGreatC15
import Derived.Test.YtgbbkmdfangmmaaGreatC17
namespace Go.Proofs.YtgbbkmdfangmmaaGreat
set_option maxRecDepth 20000
open Go.RowKit
set_option linter.unusedVariables false
theorem held_copy {Pr : Program} {ops : Array Oper} {o : Oper} {l : List Value} {d : List Deferred} {w w' : World} {K' : Go.Act → World → Prop} {Q : Exit → Go.Act → World → Prop} {k : Nat} (hk : o.dst = some k) (hg : Region.wanted o (yielded ops l.toArray) = true)
    (s y : Operand) (ts : Array TypeId) (ho : o.op = .call { callee := .builtin .copy, args := #[s, y], argTypes := ts }) (v1 v2 v' : Value) (h1 : Go.Act.eval ⟨l.toArray, d⟩ s = v1) (h2 : Go.Act.eval ⟨l.toArray, d⟩ y = v2)
    (hr : (Builtin.copy_ ts o.type #[v1, v2]).run Pr w = .ok v' w') (h : K' ⟨(l.set k v').toArray, d⟩ w') : if Region.wanted o (yielded ops l.toArray) = true then Oper.wp Pr o ⟨l.toArray, d⟩ w K' Q else K' (Go.Act.put ⟨l.toArray, d⟩ o.dst undef) w := by
  have e : Go.Act.put ⟨l.toArray, d⟩ o.dst v' = ⟨(l.set k v').toArray, d⟩ := by rw [hk]; simp [Go.Act.put]
  rw [if_pos hg]
  unfold Oper.wp execOp
  simp only [ho, resolve, invoke, builtin, Sem.run_bind, Sem.run_pure, Result.andThen_ok, List.map_toArray, List.map_cons, List.map_nil, h1, h2, hr]
  rw [← e] at h
  exact h
end Go.Proofs.YtgbbkmdfangmmaaGreat
namespace Go.Proofs.YtgbbkmdfangmmaaGreat
set_option maxRecDepth 20000
open Go.RowKit
set_option linter.unusedVariables false
theorem itmCells_take : ∀ (l : List Itm) (i : Nat), itmCells (l.take i) = (itmCells l).take (i * 2)
  | [], i => by simp [itmCells]
  | x :: l, 0 => by simp [itmCells]
  | x :: l, i + 1 => by
    rw [List.take_succ_cons]
    show itm2 x ++ itmCells (l.take i) = (itm2 x ++ itmCells l).take ((i + 1) * 2)
    rw [itmCells_take l i, show (i + 1) * 2 = (itm2 x).length + i * 2 by simp [itm2]; omega, List.take_append, List.take_of_length_le (Nat.le_add_right _ _), Nat.add_sub_cancel_left]
theorem itmCells_drop (l : List Itm) (i : Nat) : itmCells (l.drop i) = (itmCells l).drop (i * 2) := by
  by_cases h : i ≤ l.length
  · have h1 : itmCells l = itmCells (l.take i) ++ itmCells (l.drop i) := by rw [← itmCells_append, List.take_append_drop]
    have h2 : (itmCells (l.take i)).length = i * 2 := by rw [itmCells_length, List.length_take]; omega
    rw [h1, ← h2]
    exact List.drop_left.symm
  · rw [List.drop_of_length_le (by omega), List.drop_of_length_le (by rw [itmCells_length]; omega)]
    rfl
structure RepI (w : World) (base g n cap : Nat) (l : List Itm) (cur : List Value) : Prop where
  row : Row w g 29 cur
  size : cur.length = cap * 2
  le : n ≤ cap
  most : cap ≤ maxLen
  base_ : base ≤ g
  cells : cur.take (n * 2) = itmCells l
  len : l.length = n
theorem RepI.own {w : World} {base g n cap : Nat} {l : List Itm} {cur : List Value} (h : RepI w base g n cap l cur) : OwnI 29 w base (.slice (some ⟨g, 0, none⟩) n cap) l :=
  ⟨⟨itmCells_length l, .inr ⟨g, cap, cur.toArray, by rw [h.len], h.base_, h.row.eq, by rw [h.len]; exact h.le, h.most, by simpa using h.size, by rw [h.len]; simpa using h.cells⟩⟩⟩
theorem OwnI.repI {w : World} {base g n cap : Nat} {l : List Itm} (h : OwnI 29 w base (.slice (some ⟨g, 0, none⟩) n cap) l) : ∃ cur, RepI w base g n cap l cur := by
  rcases h.row.2 with ⟨e, h0⟩ | ⟨g2, cap2, cur, e, g1, g2', g3, g4, g5, g6⟩
  · cases e
  · simp only [Value.slice.injEq, Option.some.injEq, Addr.mk.injEq, and_true] at e
    obtain ⟨rfl, rfl, rfl⟩ := e
    exact ⟨cur.toList, ⟨by simpa using g2'⟩, by simpa using g5, g3, g4, g1, g6, rfl⟩
theorem itmCells_gt : ∀ (m : List Itm) (q : Nat), (itmCells m)[q]? = (m[q / 2]?).bind (fun x => (itm2 x)[q % 2]?)
  | [], q => by simp [itmCells]
  | x :: m, 0 => by simp [itmCells, itm2]
  | x :: m, 1 => by simp [itmCells, itm2]
  | x :: m, q + 2 => by
    show (itm2 x ++ itmCells m)[q + 2]? = _
    rw [List.getElem?_append_right (by simp [itm2]), show q + 2 - (itm2 x).length = q by simp [itm2], itmCells_gt m q, show (q + 2) / 2 = q / 2 + 1 by omega, show (q + 2) % 2 = q % 2 by omega, List.getElem?_cons_succ]
theorem itmCells_one (m : List Itm) : ∀ v ∈ itmCells m, v.oneCell' = true := by
  intro v hv
  simp only [itmCells, List.mem_flatMap] at hv
  obtain ⟨x, -, hx⟩ := hv
  simp only [itm2, List.mem_cons, List.not_mem_nil, or_false] at hx
  rcases hx with rfl | rfl <;> rfl
theorem rItms_src {w W : World} {P : Nat → Prop} {vb vo n c : Nat} {m : List Itm} (h : rItms.rd w P [.slice (some ⟨vb, vo, none⟩) n c] m) (hk : W.heap[vb]? = w.heap[vb]?) : ∀ (q : Nat) (u : Value), (itmCells m)[q]? = some u → W.cell? ((⟨vb, vo, none⟩ : Addr).add q) = some u := by
  intro q u hu
  have hq : q / 2 < m.length := by
    rw [itmCells_gt] at hu
    rcases Nat.lt_or_ge (q / 2) m.length with k | k
    · exact k
    · rw [List.getElem?_eq_none k] at hu
      cases hu
  have hn : m.length = n := (rList_len h).1
  obtain ⟨b, off, e, -, -, hat⟩ := rItms_at h (by omega)
  simp only [Option.some.injEq, Addr.mk.injEq, and_true] at e
  obtain ⟨rfl, rfl⟩ := e
  rw [itmCells_gt, List.getElem?_eq_getElem hq] at hu
  simp only [Option.bind_some] at hu
  obtain ⟨c0, c1⟩ := hat (q / 2) hq
  have hcell : ∀ p : Addr, p.block = vb → W.cell? p = w.cell? p := fun p hp => by unfold World.cell?; rw [hp, hk]
  rw [Addr.add_lit, hcell _ rfl]
  rcases Nat.mod_two_eq_zero_or_one q with k | k
  · rw [k] at hu
    simp only [itm2, List.getElem?_cons_zero] at hu
    rw [show vo + q = vo + q / 2 * 2 by omega, c0]
    exact hu
  · rw [k] at hu
    simp only [itm2, List.getElem?_cons_succ, List.getElem?_cons_zero] at hu
    rw [show vo + q = vo + q / 2 * 2 + 1 by omega, c1]
    exact hu
theorem own_of_rowI {w : World} {base g n cap : Nat} {L : List Itm} {cur : List Value} (h : Row w g 29 cur) (hs : cur.length = cap * 2) (hm : cap ≤ maxLen) (hb : base ≤ g) (hl : L.length = n) (hn : n ≤ cap) (hc : cur.take (n * 2) = itmCells L) : OwnI 29 w base (.slice (some ⟨g, 0, none⟩) n cap) L :=
  (RepI.mk h hs hn hm hb hc hl).own
namespace Tr
def insOf (l : List Itm) (i : Nat) (m : List Itm) : List Itm := l.take i ++ m ++ l.drop i
end Tr
set_option maxHeartbeats 1000000 in
theorem insert_end (w : World) (base : Nat) (a : Option Addr) (n cap : Nat) (l : List Itm) (hO : OwnI 29 w base (.slice a n cap) l) (P : Nat → Prop) (vb vo n' c' : Nat) (m : List Itm) (hV : rItms.rd w P [.slice (some ⟨vb, vo, none⟩) n' c'] m) (hp' : 0 < n') (hn : n ≤ 1000) (hn' : n' ≤ 1000) (hb : base ≤ w.heap.size) :
    Calls Tryz.prog 44 #[.slice a n cap, .int .i64 (n : Int), .slice (some ⟨vb, vo, none⟩) n' c'] w fun e w' => ∃ ra rn rc, e = .returned (.slice ra rn rc) ∧ OwnI 29 w' base (.slice ra rn rc) (Tr.insOf l n m) ∧ Grew w w' (.slice a n cap) (.slice ra rn rc) := by
  obtain ⟨x, y, e0, hnc, hnil⟩ := hO.slice
  simp only [Value.slice.injEq] at e0
  obtain ⟨rfl, hl, rfl⟩ := e0
  have hml : m.length = n' := (rList_len hV).1
  have HI : Hid (Tr.insOf l n m = l ++ m) := by
    unfold Hid Tr.insOf
    rw [List.take_of_length_le (by omega), List.drop_of_length_le (by omega), List.append_nil]
  obtain ⟨v5, w5, hr5, ho5, g5⟩ := run_append_itms hO hV (by omega) hb 35
  obtain ⟨ra, rc, rfl, -⟩ := ho5.slice
  obtain ⟨rn, hrn⟩ : ∃ rn, (l ++ m).length = rn := ⟨_, rfl⟩
  rw [hrn] at hr5 ho5 g5
  have HRun : Hid _ := hr5
  have HO : Hid (OwnI 29 w5 base (.slice ra rn rc) (Tr.insOf l n m)) := by rw [HI.out]; exact ho5
  have HG : Hid _ := g5
  have hz : ((n' : Int) == 0) = false := beq_eq_false_iff_ne.2 (by omega)
  have hz2 : (n : Int) ≤ (n : Int) := Int.le_refl _
  have hz3 : (n : Int) ≤ (cap : Int) := by omega
  clear hr5 ho5 g5 hrn hO hV HI hl hml
  by_cases hcn : cap = n
  · subst hcn
    go_enter Tryz.func44, Tryz.ntmps44
    go_wp2_with (at_builtin; refine Lib.wpList_append_run _ rfl _ _ _ _ rfl _ _ rfl rfl _ _ HRun.out ?_)
    go_ret
    exact ⟨ra, rn, rc, rfl, HO.out, HG.out⟩
  · go_enter Tryz.func44, Tryz.ntmps44
    go_wp2_with (at_builtin; refine Lib.wpList_append_run _ rfl _ _ _ _ rfl _ _ rfl rfl _ _ HRun.out ?_)
    go_ret
    exact ⟨ra, rn, rc, rfl, HO.out, HG.out⟩
end Go.Proofs.YtgbbkmdfangmmaaGreat
namespace Go.Proofs.YtgbbkmdfangmmaaGreat
set_option maxRecDepth 20000
open Go.RowKit
set_option linter.unusedVariables false
set_option maxHeartbeats 1000000 in
theorem insert_grow (w : World) (base g n cap i : Nat) (l : List Itm) (cur : List Value) (hR : RepI w base g n cap l cur) (P : Nat → Prop) (vb vo n' c' : Nat) (m : List Itm) (hV : rItms.rd w P [.slice (some ⟨vb, vo, none⟩) n' c'] m) (hvg : vb ≠ g) (hp' : 0 < n') (p tot : Nat) (hjp : n - i = p) (hj : i < n) (htot : tot = i + n' + p) (hn : n ≤ 1000) (hn' : n' ≤ 1000) (hb : base ≤ w.heap.size) (hcase : cap < tot) :
    Calls Tryz.prog 44 #[.slice (some ⟨g, 0, none⟩) n cap, .int .i64 (i : Int), .slice (some ⟨vb, vo, none⟩) n' c'] w fun e w' => ∃ ra rn rc, e = .returned (.slice ra rn rc) ∧ OwnI 29 w' base (.slice ra rn rc) (Tr.insOf l i m) ∧ Grew w w' (.slice (some ⟨g, 0, none⟩) n cap) (.slice ra rn rc) := by
  have hcap := hR.le
  have hml : m.length = n' := (rList_len hV).1
  have hzz : ((n' : Int) == 0) = false := beq_eq_false_iff_ne.2 (by omega)
  have hz0 : ((i : Int) == (n : Int)) = false := beq_eq_false_iff_ne.2 (by omega)
  have hz2 : (i : Int) ≤ (i : Int) := by omega
  have hz3 : (i : Int) ≤ (cap : Int) := by omega
  have hz4 : (i : Int) ≤ (cap : Int) := by omega
  have hz5 : (i : Int) ≤ (n : Int) := by omega
  have hne3 : ¬ (cap = i) := by omega
  have hne4 : ¬ (cap = i) := by omega
  obtain ⟨q, hq⟩ : ∃ q, q = i + n' := ⟨_, rfl⟩
  have hw1 : IntKind.i64.wrap ((i : Int) + (n' : Int)) = (q : Int) := by rw [IntKind.wrap_i64]; omega
  have hw2 : IntKind.i64.wrap ((n : Int) + (n' : Int)) = (tot : Int) := by rw [IntKind.wrap_i64]; omega
  have hcl : (itmCells m).length = n' * 2 := by rw [itmCells_length, hml]
  have hdl : (itmCells (l.drop i)).length = p * 2 := by rw [itmCells_length, List.length_drop, hR.len, hjp]
  have hct : cur.take (i * 2) = itmCells (l.take i) := by rw [itmCells_take, ← hR.cells, List.take_take, Nat.min_eq_left (by omega)]
  have hlL : (Tr.insOf l i m).length = tot := by unfold Tr.insOf; rw [List.length_append, List.length_append, List.length_take, List.length_drop, hR.len, hml]; omega
  have hcL : itmCells (Tr.insOf l i m) = cur.take (i * 2) ++ itmCells m ++ itmCells (l.drop i) := by unfold Tr.insOf; rw [itmCells_append, itmCells_append, hct]
  have hjc : ∀ (k : Nat) (u : Value), (itmCells (l.drop i))[k]? = some u → cur[i * 2 + k]? = some u := fun k u hu => by
    rw [itmCells_drop, ← hR.cells, List.getElem?_drop, List.getElem?_take] at hu
    split at hu
    · exact hu
    · cases hu
  obtain ⟨r, hr0⟩ : ∃ r, r = n' + p := ⟨_, rfl⟩
  have hw3 : IntKind.i64.wrap ((tot : Int) - (i : Int)) = (r : Int) := by rw [IntKind.wrap_i64]; omega
  have hir : i + r = tot := by omega
  have hgt : (tot : Int) > (cap : Int) := by omega
  obtain ⟨ht, ti, tz, hti, htz, hsize, hby, hzs, hpos⟩ := elem_itm
  have hsz2 : ti.size = 2 := hsize
  have hby2 : ti.bytes = 16 := hby
  have hzs2 : tz.cells.size = 2 := hzs
  have hol : (cur.take (i * 2)).length = i * 2 := by rw [List.length_take, hR.size]; omega
  have hrun := Lib.run_append_grow_zeros (P := Tryz.prog) w 35 3 35 29 ti tz .i64 .i64 ht Tryz.underlying3 hti htz (some ⟨g, 0, none⟩) i cap (cur.take (i * 2)) (run_firstCells_some (P := Tryz.prog) w.drew ti.size i ⟨g, 0, none⟩ i cap (cur.take (i * 2)) (by rw [hol, hsz2]) (fun k u hu => by
      rw [Addr.add_lit, Nat.zero_add]
      refine (hR.row.keep (w' := w.drew) rfl).cell ?_
      rw [List.getElem?_take] at hu
      split at hu
      · exact hu
      · cases hu)) r (by omega) (by omega) (by omega) (by omega) (by rw [hby2]; omega) (growslice_fits (by omega) (by rw [hby2]; omega))
  rw [hir] at hrun
  obtain ⟨cap2, hcap2⟩ : ∃ cap2, cap2 = grownCap w tot cap 29 := ⟨_, rfl⟩
  rw [← hcap2] at hrun
  have hc2 : tot ≤ cap2 := by rw [hcap2]; exact grownCap_ge _ _ _ _
  have hc3 : cap2 ≤ maxLen := by rw [hcap2]; exact grownCap_le_maxLen _ _ _ _ (by unfold maxLen; omega)
  obtain ⟨cur5, hcur5⟩ : ∃ cur5 : List Value, cur5 = ((cur.take (i * 2)).toArray ++ Builtin.zeroCells tz.cells r ++ Builtin.zeroCells tz.cells (cap2 - tot)).toList := ⟨_, rfl⟩
  have hl5 : cur5.length = cap2 * 2 := by
    rw [hcur5, Array.length_toList, Array.size_append, Array.size_append, size_zeroCells, size_zeroCells, hzs2, List.size_toArray, hol]
    omega
  have ht5 : cur5.take (i * 2) = cur.take (i * 2) := by
    rw [hcur5, Array.toList_append, Array.toList_append, List.append_assoc]
    rw [List.take_append_of_le_length (by simp [hR.size]; omega)]
    simp [List.take_take]
  obtain ⟨w5, hw5⟩ : ∃ w5, w.drew.alloc (.cells ((cur.take (i * 2)).toArray ++ Builtin.zeroCells tz.cells r ++ Builtin.zeroCells tz.cells (cap2 - tot)) 29) = w5 := ⟨_, rfl⟩
  rw [hw5] at hrun
  have R5 : Row w5 w.heap.size 29 cur5 := by
    rw [← hw5, hcur5]
    have := row_new w.drew 29 ((cur.take (i * 2)).toArray ++ Builtin.zeroCells tz.cells r ++ Builtin.zeroCells tz.cells (cap2 - tot)).toList
    rw [Array.toArray_toList] at this
    exact this
  have b5 : Below w.heap.size w w5 := by rw [← hw5]; exact ((Below.refl _ _).drew).alloc (Nat.le_refl _) _
  have hgw : g < w.heap.size := hR.row.lt
  have hvw : vb < w.heap.size := by
    obtain ⟨b, off, e, -, h, -⟩ := rItms_at hV hp'
    simp only [Option.some.injEq, Addr.mk.injEq, and_true] at e
    rw [e.1]; exact h
  obtain ⟨w6, hr6, R6, K6, S6⟩ := copy_run2 (Pr := Tryz.prog) w5 35 35 3 29 Tryz.underlying35 (by kernel_rfl) (some ⟨w.heap.size, i * 2, none⟩) (some ⟨vb, vo, none⟩) (tot - i) (cap2 - i) n' c' w.heap.size (i * 2) cur5 _ R5 (itmCells m) (by rw [hcl, show Nat.min n' (tot - i) = n' from Nat.min_eq_left (by omega)]) (fun _ => ⟨rfl, _, rfl, rItms_src hV (b5.block vb hvw)⟩) (by rw [hcl, hl5]; omega) (itmCells_one m)
  have hl6 : (splice cur5 (i * 2) (itmCells m)).length = cap2 * 2 := by rw [length_splice _ _ _ (by rw [hcl, hl5]; omega), hl5]
  have b6 : Below w.heap.size w w6 := Kept.belowOf b5 K6 (Nat.le_refl _)
  have Rg : Row w6.drew g 29 cur := (hR.row.below (w' := w6) b6).keep rfl
  obtain ⟨w7, hr7, R7, K7, S7⟩ := copy_run2 (Pr := Tryz.prog) w6.drew 35 35 3 29 Tryz.underlying35 (by kernel_rfl) (some ⟨w.heap.size, q * 2, none⟩) (some ⟨g, i * 2, none⟩) (tot - q) (cap2 - q) p (cap - i) w.heap.size (q * 2) _ _ (R6.keep (w' := w6.drew) rfl) (itmCells (l.drop i)) (by rw [hdl, show Nat.min p (tot - q) = p from Nat.min_eq_left (by omega)]) (fun _ => ⟨rfl, _, rfl, fun k u hu => by rw [Addr.add_lit]; exact Rg.cell (hjc k u hu)⟩) (by rw [hdl, hl6]; omega) (itmCells_one _)
  have HO : Hid (OwnI 29 w7 base (.slice (some ⟨w.heap.size, 0, none⟩) tot cap2) (Tr.insOf l i m)) := by
    refine own_of_rowI R7 ?_ hc3 hb hlL hc2 ?_
    · rw [length_splice _ _ _ (by rw [hdl, hl6]; omega), hl6]
    · rw [hcL, show tot * 2 = q * 2 + (itmCells (l.drop i)).length by rw [hdl]; omega, take_splice (by rw [hl6]; omega), show q * 2 = i * 2 + (itmCells m).length by rw [hcl]; omega, take_splice (by rw [hl5]; omega), ht5]
  have HG : Hid (Grew w w7 (.slice (some ⟨g, 0, none⟩) n cap) (.slice (some ⟨w.heap.size, 0, none⟩) tot cap2)) := by
    have b7 : Below w.heap.size w w7 := Kept.belowOf b6.drew K7 (Nat.le_refl _)
    refine ⟨⟨b7.os, b7.tape, b7.output, b7.size, fun x hx _ => b7.block x hx⟩, fun b e => .inr ?_⟩
    cases e
    exact Nat.le_refl _
  have HRun : Hid _ := hrun
  have HC7 : Hid _ := hr7
  have hti1 : (tot : Int) ≤ (cap2 : Int) := by omega
  have hqt : q < tot := by omega
  have hne1 : ¬ (cap2 = q) := by omega
  have hne2 : ¬ (cap2 = i) := by omega
  have hit : i < tot := by omega
  have hqi : (q : Int) ≤ (tot : Int) := by omega
  have hii : (i : Int) ≤ (tot : Int) := by omega
  clear ht hti htz hsize hby hzs hpos hsz2 hby2 hzs2 hrun hr7 hw5 hcur5 ht5 hl5 R5 R6 R7 K6 K7 S6 S7 Rg b5 b6 hl6 hc3 hcap2 hol hR hV hcl hdl hct hlL hcL hjc hml htot hq hr0 hir hgw hvw hcase
  go_enter Tryz.func44, Tryz.ntmps44
  go_wp2_with (at_builtin; refine Lib.wpList_append_run _ rfl _ _ _ _ rfl _ _ rfl rfl _ _ HRun.out ?_)
  refine wp_region_held_drew (S := (fun _ : World => True)) (by kernel_rfl) (trivial) (fun hHeld => ?_)
  refine wpAnyH_takeL (i := 0) (v := ?_) rfl rfl (by kernel_rfl) (by kernel_rfl) (by kernel_rfl) (fun _ _ _ h => h) (Or.inl ⟨by rfl, ?_⟩) (by assumption) ?_
  rotate_left
  · intro w hSw
    try dsimp only at hSw
    go_simp
    all_goals with_reducible rfl
  simp only [List.set_cons_zero, List.set_cons_succ]
  refine wpAnyH_takeL (i := 1) (v := ?_) rfl rfl (by kernel_rfl) (by kernel_rfl) (by kernel_rfl) (fun _ _ _ h => h) (Or.inl ⟨by rfl, ?_⟩) (by assumption) ?_
  rotate_left
  · intro w hSw
    try dsimp only at hSw
    go_simp
    all_goals with_reducible rfl
  simp only [List.set_cons_zero, List.set_cons_succ]
  refine wpAnyH_takeL (i := 2) (v := ?_) rfl rfl (by kernel_rfl) (by kernel_rfl) (by kernel_rfl) (fun _ _ _ h => h) (Or.inl ⟨by rfl, ?_⟩) (by assumption) ?_
  rotate_left
  · intro w hSw
    try dsimp only at hSw
    go_simp
    all_goals with_reducible rfl
  simp only [List.set_cons_zero, List.set_cons_succ]
  refine wpAnyH_takeL (i := 3) (v := ?_) rfl rfl (by kernel_rfl) (by kernel_rfl) (by kernel_rfl) (fun _ _ _ h => h) (Or.inl ⟨by rfl, ?_⟩) (by assumption) ?_
  rotate_left
  · intro w hSw
    try dsimp only at hSw
    go_simp
    all_goals with_reducible rfl
  simp only [List.set_cons_zero, List.set_cons_succ]
  refine wpAnyH_takeL (i := 4) (v := ?_) rfl rfl (by kernel_rfl) (by kernel_rfl) (by kernel_rfl) (fun _ _ _ h => h) (Or.inl ⟨by rfl, ?_⟩) (by assumption) ?_
  rotate_left
  · intro w hSw
    try dsimp only at hSw
    go_simp
    all_goals with_reducible rfl
  simp only [List.set_cons_zero, List.set_cons_succ]
  refine wpAnyH_takeL (i := 5) (v := ?_) rfl rfl (by kernel_rfl) (by kernel_rfl) (by kernel_rfl) (fun _ _ _ h => h) (Or.inl ⟨by rfl, ?_⟩) (by assumption) ?_
  rotate_left
  · intro w hSw
    try dsimp only at hSw
    go_simp
    all_goals with_reducible rfl
  simp only [List.set_cons_zero, List.set_cons_succ]
  refine wpAnyH_takeL (i := 6) (v := ?_) rfl rfl (by kernel_rfl) (by kernel_rfl) (by kernel_rfl) (fun _ _ _ h => h) (Or.inl ⟨by rfl, ?_⟩) (by assumption) ?_
  rotate_left
  · intro w hSw
    try dsimp only at hSw
    go_simp
    all_goals with_reducible rfl
  simp only [List.set_cons_zero, List.set_cons_succ]
  refine wpAnyH_takeL (i := 7) (v := ?_) rfl rfl (by kernel_rfl) (by kernel_rfl) (by kernel_rfl) (fun _ _ _ h => h) (Or.inl ⟨by rfl, ?_⟩) (by assumption) ?_
  rotate_left
  · intro w hSw
    try dsimp only at hSw
    go_simp
    all_goals with_reducible rfl
  simp only [List.set_cons_zero, List.set_cons_succ]
  refine wpAnyH_ready (rs := [8]) (by kernel_rfl) (by simp) ?_
  refine AllReadyH.cons rfl (fun K hK => ?_) ?_
  · refine held_copy rfl rfl (.tmp 50) (.tmp 53) _ rfl (.slice (some ⟨w.heap.size, q * 2, none⟩) (tot - q) (cap2 - q)) (.slice (some ⟨g, i * 2, none⟩) p (cap - i)) _ rfl rfl HC7.out ?_
    refine hK.out _ _ ?_ (fun hHeld => ?_)
    · try dsimp only
      all_goals trivial
    clear hK K
    refine wpAnyH_done (by kernel_rfl) ?_ _
    clear hHeld
    go_wp2
    go_ret
    exact ⟨_, _, _, rfl, HO.out, HG.out⟩
  exact AllReadyH.nil
end Go.Proofs.YtgbbkmdfangmmaaGreat
namespace Go.Proofs.YtgbbkmdfangmmaaGreat
set_option maxRecDepth 20000
open Go.RowKit
set_option linter.unusedVariables false
set_option maxHeartbeats 1000000 in
theorem insert_up (w : World) (base g n cap i : Nat) (l : List Itm) (cur : List Value) (hR : RepI w base g n cap l cur) (P : Nat → Prop) (vb vo n' c' : Nat) (m : List Itm) (hV : rItms.rd w P [.slice (some ⟨vb, vo, none⟩) n' c'] m) (hvg : vb ≠ g) (cv : List Value) (hVr : Row w vb 29 cv) (hp' : 0 < n') (p tot : Nat) (hjp : n - i = p) (hj : i < n) (htot : tot = i + n' + p) (hn : n ≤ 1000) (hn' : n' ≤ 1000) (hb : base ≤ w.heap.size) (hcase : tot ≤ cap) :
    Calls Tryz.prog 44 #[.slice (some ⟨g, 0, none⟩) n cap, .int .i64 (i : Int), .slice (some ⟨vb, vo, none⟩) n' c'] w fun e w' => ∃ ra rn rc, e = .returned (.slice ra rn rc) ∧ OwnI 29 w' base (.slice ra rn rc) (Tr.insOf l i m) ∧ Grew w w' (.slice (some ⟨g, 0, none⟩) n cap) (.slice ra rn rc) := by
  have hcap := hR.le
  have hml : m.length = n' := (rList_len hV).1
  have hzz : ((n' : Int) == 0) = false := beq_eq_false_iff_ne.2 (by omega)
  have hz0 : ((i : Int) == (n : Int)) = false := beq_eq_false_iff_ne.2 (by omega)
  have hz2 : (i : Int) ≤ (i : Int) := by omega
  have hz3 : (i : Int) ≤ (cap : Int) := by omega
  have hz4 : (i : Int) ≤ (cap : Int) := by omega
  have hz5 : (i : Int) ≤ (n : Int) := by omega
  have hne3 : ¬ (cap = i) := by omega
  have hne4 : ¬ (cap = i) := by omega
  obtain ⟨q, hq⟩ : ∃ q, q = i + n' := ⟨_, rfl⟩
  have hw1 : IntKind.i64.wrap ((i : Int) + (n' : Int)) = (q : Int) := by rw [IntKind.wrap_i64]; omega
  have hw2 : IntKind.i64.wrap ((n : Int) + (n' : Int)) = (tot : Int) := by rw [IntKind.wrap_i64]; omega
  have hcl : (itmCells m).length = n' * 2 := by rw [itmCells_length, hml]
  have hdl : (itmCells (l.drop i)).length = p * 2 := by rw [itmCells_length, List.length_drop, hR.len, hjp]
  have hct : cur.take (i * 2) = itmCells (l.take i) := by rw [itmCells_take, ← hR.cells, List.take_take, Nat.min_eq_left (by omega)]
  have hlL : (Tr.insOf l i m).length = tot := by unfold Tr.insOf; rw [List.length_append, List.length_append, List.length_take, List.length_drop, hR.len, hml]; omega
  have hcL : itmCells (Tr.insOf l i m) = cur.take (i * 2) ++ itmCells m ++ itmCells (l.drop i) := by unfold Tr.insOf; rw [itmCells_append, itmCells_append, hct]
  have hjc : ∀ (k : Nat) (u : Value), (itmCells (l.drop i))[k]? = some u → cur[i * 2 + k]? = some u := fun k u hu => by
    rw [itmCells_drop, ← hR.cells, List.getElem?_drop, List.getElem?_take] at hu
    split at hu
    · exact hu
    · cases hu
  have hngt : ¬ ((tot : Int) > (cap : Int)) := by omega
  have hwd : (tot : Int) ≤ (cap : Int) := by omega
  have hqj : ¬ ((q : Int) ≤ (i : Int)) := by omega
  have R0 : Row w g 29 cur := hR.row.keep rfl
  have HR0 : Hid _ := R0
  obtain ⟨w5, hr5, R5, K5, S5⟩ := copy_run2 (Pr := Tryz.prog) w.drew 35 35 3 29 Tryz.underlying35 (by kernel_rfl) (some ⟨g, q * 2, none⟩) (some ⟨g, i * 2, none⟩) (tot - q) (cap - q) (tot - i) (cap - i) g (q * 2) cur _ (R0.keep (w' := w.drew) rfl) (itmCells (l.drop i)) (by rw [hdl, show Nat.min (tot - i) (tot - q) = p from (by rw [show Nat.min (tot - i) (tot - q) = tot - q from Nat.min_eq_right (by omega)]; omega)]) (fun _ => ⟨rfl, _, rfl, fun k u hu => by
      rw [Addr.add_lit]
      exact (R0.keep (w' := w.drew) rfl).cell (hjc k u hu)⟩) (by rw [hdl, hR.size]; omega) (itmCells_one _)
  have hl5 : (splice cur (q * 2) (itmCells (l.drop i))).length = cap * 2 := by rw [length_splice _ _ _ (by rw [hdl, hR.size]; omega), hR.size]
  obtain ⟨w6, hr6, R6, K6, S6⟩ := copy_run2 (Pr := Tryz.prog) w5 35 35 3 29 Tryz.underlying35 (by kernel_rfl) (some ⟨g, i * 2, none⟩) (some ⟨vb, vo, none⟩) (tot - i) (cap - i) n' c' g (i * 2) _ _ R5 (itmCells m) (by rw [hcl, show Nat.min n' (tot - i) = n' from Nat.min_eq_left (by omega)]) (fun _ => ⟨rfl, _, rfl, rItms_src hV (K5.block vb hvg)⟩) (by rw [hcl, hl5]; omega) (itmCells_one m)
  have hl6 : (splice (splice cur (q * 2) (itmCells (l.drop i))) (i * 2) (itmCells m)).length = cap * 2 := by rw [length_splice _ _ _ (by rw [hcl, hl5]; omega), hl5]
  have HO : Hid (OwnI 29 w6 base (.slice (some ⟨g, 0, none⟩) tot cap) (Tr.insOf l i m)) := by
    refine own_of_rowI R6 hl6 hR.most hR.base_ hlL (by omega) ?_
    rw [hcL]
    have e1 : (splice cur (q * 2) (itmCells (l.drop i))).take (i * 2) = cur.take (i * 2) := take_splice_lt (by omega) (by rw [hR.size]; omega)
    have e2 : (splice cur (q * 2) (itmCells (l.drop i))).drop (q * 2) = itmCells (l.drop i) ++ cur.drop (q * 2 + (itmCells (l.drop i)).length) := drop_splice (by rw [hR.size]; omega)
    conv => lhs; rw [splice, e1, show i * 2 + (itmCells m).length = q * 2 by rw [hcl]; omega, e2]
    have e3 : (cur.take (i * 2) ++ itmCells m ++ itmCells (l.drop i)).length = tot * 2 := by rw [List.length_append, List.length_append, List.length_take, hR.size, hcl, hdl]; omega
    rw [← e3]
    simp only [← List.append_assoc]
    exact List.take_left
  have HG : Hid (Grew w w6 (.slice (some ⟨g, 0, none⟩) n cap) (.slice (some ⟨g, 0, none⟩) tot cap)) := by
    refine ⟨⟨K6.os.trans K5.os, K6.tape.trans K5.tape, K6.output.trans K5.output, Nat.le_trans K5.size K6.size, fun x hx hne => ?_⟩, fun b e => .inl e⟩
    have hxg : x ≠ g := fun e => hne (by rw [e]; rfl)
    exact (K6.block x hxg).trans (K5.block x hxg)
  have HC5 : Hid _ := hr5
  have hqi : (q : Int) ≤ (tot : Int) := by omega
  have hii : (i : Int) ≤ (tot : Int) := by omega
  have hqt : q < tot := by omega
  have hit : i < tot := by omega
  have hne1 : ¬ (cap = q) := by omega
  have hsb : w.shape? g = some (29, cap * 2) := by
    unfold World.shape?
    rw [R0.eq, ← hR.size]
    rfl
  have hsa : w.shape? vb = some (29, cv.length) := by
    unfold World.shape?
    rw [hVr.eq]
    rfl
  have hov : (callFunc 70 #[.slice (some ⟨vb, vo, none⟩) n' c', .slice (some ⟨g, q * 2, none⟩) (tot - q) (cap - q)]).run Tryz.prog w = .ok (.value (.bool false)) w := by
    rw [run_callFunc_extern Tryz.func70 (by kernel_rfl) (by kernel_rfl) (by kernel_rfl) (e := Extern.SlicesOverlaps.overlaps #[35, 35] #[4]) (by kernel_rfl),
      Lib.run_overlaps_apart w 35 4 29 Tryz.underlying35 2 (fun w => by kernel_rfl) ⟨vb, vo, none⟩ ⟨g, q * 2, none⟩ n' c' (tot - q) (cap - q) hvg _ _ _ _ hsa hsb (by omega) (hVr.frozen _) (hVr.frozen _)]
    rfl
  clear hsa hsb hVr
  clear hr5 R0 R5 R6 K5 K6 S5 S6 hl5 hl6 hR hV hcl hdl hct hlL hcL hjc hml htot hq hcase
  go_enter Tryz.func44, Tryz.ntmps44
  go_wp2_with fail
  refine wp_region_held_drew (S := (fun _ : World => True)) (by kernel_rfl) (trivial) (fun hHeld => ?_)
  refine wpAnyH_takeL (i := 0) (v := ?_) rfl rfl (by kernel_rfl) (by kernel_rfl) (by kernel_rfl) (fun _ _ _ h => h) (Or.inl ⟨by rfl, ?_⟩) (by assumption) ?_
  rotate_left
  · intro w hSw
    try dsimp only at hSw
    go_simp
    all_goals with_reducible rfl
  simp only [List.set_cons_zero, List.set_cons_succ]
  refine wpAnyH_takeL (i := 1) (v := ?_) rfl rfl (by kernel_rfl) (by kernel_rfl) (by kernel_rfl) (fun _ _ _ h => h) (Or.inl ⟨by rfl, ?_⟩) (by assumption) ?_
  rotate_left
  · intro w hSw
    try dsimp only at hSw
    go_simp
    all_goals with_reducible rfl
  simp only [List.set_cons_zero, List.set_cons_succ]
  refine wpAnyH_takeL (i := 2) (v := ?_) rfl rfl (by kernel_rfl) (by kernel_rfl) (by kernel_rfl) (fun _ _ _ h => h) (Or.inl ⟨by rfl, ?_⟩) (by assumption) ?_
  rotate_left
  · intro w hSw
    try dsimp only at hSw
    go_simp
    all_goals with_reducible rfl
  simp only [List.set_cons_zero, List.set_cons_succ]
  refine wpAnyH_takeL (i := 3) (v := ?_) rfl rfl (by kernel_rfl) (by kernel_rfl) (by kernel_rfl) (fun _ _ _ h => h) (Or.inl ⟨by rfl, ?_⟩) (by assumption) ?_
  rotate_left
  · intro w hSw
    try dsimp only at hSw
    go_simp
    all_goals with_reducible rfl
  simp only [List.set_cons_zero, List.set_cons_succ]
  refine wpAnyH_takeL (i := 4) (v := ?_) rfl rfl (by kernel_rfl) (by kernel_rfl) (by kernel_rfl) (fun _ _ _ h => h) (Or.inl ⟨by rfl, ?_⟩) (by assumption) ?_
  rotate_left
  · intro w hSw
    try dsimp only at hSw
    go_simp
    all_goals with_reducible rfl
  simp only [List.set_cons_zero, List.set_cons_succ]
  refine wpAnyH_takeL (i := 5) (v := ?_) rfl rfl (by kernel_rfl) (by kernel_rfl) (by kernel_rfl) (fun _ _ _ h => h) (Or.inl ⟨by rfl, ?_⟩) (by assumption) ?_
  rotate_left
  · intro w hSw
    try dsimp only at hSw
    go_simp
    all_goals with_reducible rfl
  simp only [List.set_cons_zero, List.set_cons_succ]
  refine wpAnyH_takeL (i := 6) (v := ?_) rfl rfl (by kernel_rfl) (by kernel_rfl) (by kernel_rfl) (fun _ _ _ h => h) (Or.inl ⟨by rfl, ?_⟩) (by assumption) ?_
  rotate_left
  · intro w hSw
    try dsimp only at hSw
    go_simp
    all_goals with_reducible rfl
  simp only [List.set_cons_zero, List.set_cons_succ]
  refine wpAnyH_takeL (i := 7) (v := ?_) rfl rfl (by kernel_rfl) (by kernel_rfl) (by kernel_rfl) (fun _ _ _ h => h) (Or.inl ⟨by rfl, ?_⟩) (by assumption) ?_
  rotate_left
  · intro w hSw
    try dsimp only at hSw
    go_simp
    all_goals with_reducible rfl
  simp only [List.set_cons_zero, List.set_cons_succ]
  refine wpAnyH_ready (rs := [8]) (by kernel_rfl) (by simp) ?_
  refine AllReadyH.cons rfl (fun K hK => ?_) ?_
  · refine held_copy rfl rfl (.tmp 73) (.tmp 76) _ rfl (.slice (some ⟨g, q * 2, none⟩) (tot - q) (cap - q)) (.slice (some ⟨g, i * 2, none⟩) (tot - i) (cap - i)) _ rfl rfl HC5.out ?_
    refine hK.out _ _ ?_ (fun hHeld => ?_)
    · try dsimp only
      all_goals trivial
    clear hK K
    refine wpAnyH_done (by kernel_rfl) ?_ _
    clear hHeld
    go_wp2
    go_ret
    exact ⟨_, _, _, rfl, HO.out, HG.out⟩
  exact AllReadyH.nil
end Go.Proofs.YtgbbkmdfangmmaaGreat
namespace Go.Proofs.YtgbbkmdfangmmaaGreat
set_option maxRecDepth 20000
open Go.RowKit
set_option linter.unusedVariables false
theorem insert_u (w : World) (base : Nat) (a : Option Addr) (n cap i : Nat) (l : List Itm) (hO : OwnI 29 w base (.slice a n cap) l) (P : Nat → Prop) (vb n' c' : Nat) (m : List Itm) (hV : rItms.rd w P [.slice (some ⟨vb, 0, none⟩) n' c'] m) (hvg : (Value.slice a n cap).ownBlock ≠ some vb) (cv : List Value) (hVr : Row w vb 29 cv) (hp' : 0 < n') (hi : i ≤ n) (hn : n ≤ 1000) (hn' : n' ≤ 1000) (hb : base ≤ w.heap.size) :
    Calls Tryz.prog 44 #[.slice a n cap, .int .i64 (i : Int), .slice (some ⟨vb, 0, none⟩) n' c'] w fun e w' => ∃ ra rn rc, e = .returned (.slice ra rn rc) ∧ OwnI 29 w' base (.slice ra rn rc) (Tr.insOf l i m) ∧ Grew w w' (.slice a n cap) (.slice ra rn rc) := by
  by_cases h1 : i = n
  · subst h1
    exact insert_end w base a i cap l hO P vb 0 n' c' m hV hp' hn hn' hb
  obtain ⟨g, rfl⟩ : ∃ g, a = some ⟨g, 0, none⟩ := by
    rcases hO.row.2 with ⟨e, h0⟩ | ⟨g, c2, cur, e, -⟩
    · simp only [Value.slice.injEq] at e; omega
    · simp only [Value.slice.injEq] at e
      exact ⟨g, e.1⟩
  have hv : vb ≠ g := fun e => hvg (by rw [e]; rfl)
  obtain ⟨cur, hR⟩ := hO.repI
  by_cases h2 : cap < i + n' + (n - i)
  · exact insert_grow w base g n cap i l cur hR P vb 0 n' c' m hV hv hp' (n - i) _ rfl (by omega) rfl hn hn' hb h2
  · exact insert_up w base g n cap i l cur hR P vb 0 n' c' m hV hv cv hVr hp' (n - i) _ rfl (by omega) rfl hn hn' hb (by omega)
theorem RepI.set {w : World} {base g n cap : Nat} {l : List Itm} {cur : List Value} (h : RepI w base g n cap l cur) {i : Nat} (hi : i < n) (x : Itm) :
    RepI ((w.setCell ⟨g, i * 2, none⟩ (.int .u64 (x.1.toNat : Int))).setCell ⟨g, i * 2 + 1, none⟩ (.int .u64 (x.2.toNat : Int))) base g n cap (l.set i x) ((cur.set (i * 2) (.int .u64 (x.1.toNat : Int))).set (i * 2 + 1) (.int .u64 (x.2.toNat : Int))) := by
  have hl := h.len
  refine ⟨(h.row.set _ _).set _ _, by rw [List.length_set, List.length_set]; exact h.size, h.le, h.most, h.base_, ?_, by rw [List.length_set]; exact hl⟩
  rw [List.take_set, List.take_set, h.cells, itmCells_set1 l i (by omega) x.1, itmCells_set2 _ i (by rw [List.length_set]; omega) x.2]
  congr 1
  simp [List.set_set]
theorem rise_up {l : List Itm} (h : Lf.rise l = true) : Tr.Up l := Tr.up_of_rise h
set_option maxHeartbeats 1000000 in
theorem put1_turner (x : Itm) (bx B : Nat) (hb : bx < B) : Turner (Tr.putT x) 41 #[.pointer (some ⟨bx, 0, none⟩)] B (fun w => Row w bx 29 [.int .u64 (x.1.toNat : Int), .int .u64 (x.2.toNat : Int)]) := by
  refine ⟨enters_of Tryz.func41 (by kernel_rfl) rfl, (fun l h => Nat.le_trans (Tr.putT_few x l) (by omega)), (fun h k => h.keep (k.block _ hb)), ?_⟩
  intro w base a n c l hJ hB hbase hO hl3 hrise
  have hup := rise_up hrise
  have HX : Hid (Row w bx 29 [.int .u64 (x.1.toNat : Int), .int .u64 (x.2.toNat : Int)]) := hJ
  have HO : Hid _ := hO
  have HU : Hid (Tr.Up l) := hup
  have hn : n = l.length := by obtain ⟨p, q, e, -⟩ := hO.slice; simp only [Value.slice.injEq] at e; exact e.2.1
  have HN : Hid (n = l.length) := hn
  have hn3 : n ≤ 3 := by omega
  obtain ⟨x0, x1⟩ := HX.out.two
  have hc := bin_u w (fun b => base ≤ b) a n c l (hO.rd (by omega)) (by omega) hup x.1
  have HB : Hid (B ≤ base ∧ base ≤ w.heap.size ∧ bx < B) := ⟨hB, hbase, hb⟩
  show Calls Tryz.prog 41 #[.slice a n c, .pointer (some ⟨bx, 0, none⟩)] w _
  obtain ⟨i, hi⟩ : ∃ i, i = Tr.cnt x.1 l := ⟨_, rfl⟩
  have HI : Hid (i = Tr.cnt x.1 l) := hi
  rw [← hi] at hc
  have hin : i ≤ n := by rw [hi, hn]; exact Tr.cnt_le _ _
  cases hh : Tr.has x.1 l with
  | true =>
    rw [hh] at hc
    obtain ⟨hj, -⟩ := (Tr.has_iff hup).1 hh
    have hlt : i < n := by rw [hi, hn]; exact hj
    have HP : Hid (l.set i x = Tr.putT x l) := by unfold Hid; rw [hi]; exact Tr.putT_old hup hh
    have hiz : (i : Int) < (n : Int) := by omega
    have hi0 : (0 : Int) ≤ (i : Int) := Int.natCast_nonneg _
    obtain ⟨g, rfl⟩ : ∃ g, a = some ⟨g, 0, none⟩ := by
      rcases hO.row.2 with ⟨e, h0⟩ | ⟨g, c2, cur, e, -⟩
      · simp only [Value.slice.injEq] at e; omega
      · simp only [Value.slice.injEq] at e
        exact ⟨g, e.1⟩
    clear hJ hO hup hi hn hh hj hrise hl3 hB hbase hb
    go_enter Tryz.func41, Tryz.ntmps41
    go_wp2_with fail
    go_at_call 42
    refine hc.mono ?_
    rintro e w2 ⟨rfl, b2⟩
    obtain ⟨cur, R2⟩ := (HO.out.below b2).repI
    have HR2 : Hid (RepI w2 base g n c l cur) := R2
    have HR3 : Hid _ := R2.set hlt x
    have HG : Hid (Grew w ((w2.setCell ⟨g, i * 2, none⟩ (.int .u64 (x.1.toNat : Int))).setCell ⟨g, i * 2 + 1, none⟩ (.int .u64 (x.2.toNat : Int))) (.slice (some ⟨g, 0, none⟩) n c) (.slice (some ⟨g, 0, none⟩) n c)) := by
      have K : Kept (· ≠ g) w2 ((w2.setCell ⟨g, i * 2, none⟩ (.int .u64 (x.1.toNat : Int))).setCell ⟨g, i * 2 + 1, none⟩ (.int .u64 (x.2.toNat : Int))) := ((Kept.refl _ w2).setCell (p := ⟨g, i * 2, none⟩) (fun h => h rfl) _).setCell (p := ⟨g, i * 2 + 1, none⟩) (fun h => h rfl) _
      refine ⟨⟨K.os.trans b2.os, K.tape.trans b2.tape, K.output.trans b2.output, Nat.le_trans b2.size K.size, fun q hq hne => ?_⟩, fun b e => .inl e⟩
      have hqg : q ≠ g := fun e => hne (by rw [e]; rfl)
      exact (K.block q hqg).trans (b2.block q hq)
    obtain ⟨z0, z1⟩ := (HX.out.below b2).two
    have f0 := R2.row.frozen (i * 2)
    have f1 := R2.row.frozen (i * 2 + 1)
    have hlen : i * 2 + 1 < cur.length := by rw [R2.size]; have := R2.le; omega
    obtain ⟨y0, hy0⟩ : ∃ y, w2.cell? ⟨g, i * 2, none⟩ = some y := ⟨_, R2.row.cell (List.getElem?_eq_getElem (by omega))⟩
    obtain ⟨y1, hy1⟩ : ∃ y, w2.cell? ⟨g, i * 2 + 1, none⟩ = some y := ⟨_, R2.row.cell (List.getElem?_eq_getElem hlen)⟩
    clear b2 R2 x0 x1 hc hlen
    go_wp2
    go_ret
    exact ⟨_, _, _, rfl, by rw [← HP.out]; exact HR3.out.own, HG.out⟩
  | false =>
    rw [hh] at hc
    have HP : Hid (Tr.insOf l i [x] = Tr.putT x l) := by unfold Hid; rw [hi]; exact Tr.putT_new hup hh
    clear hJ hO hup hi hn hh hrise hl3 hB hbase hb
    go_enter Tryz.func41, Tryz.ntmps41
    go_wp2_with fail
    go_at_call 42
    refine hc.mono ?_
    rintro e w2 ⟨rfl, b2⟩
    obtain ⟨w3, hw3, V3r, b3, z3⟩ := boxedRow w2 29 [.int .u64 (x.1.toNat : Int), .int .u64 (x.2.toNat : Int)]
    have V3 : Hid (Row w3 w2.heap.size 29 [.int .u64 (x.1.toNat : Int), .int .u64 (x.2.toNat : Int)]) := V3r
    have HO3 : Hid (OwnI 29 w3 base (.slice a n c) l) := (HO.out.below b2).below b3
    have HOV : Hid (OwnI 29 w3 w2.heap.size (.slice (some ⟨w2.heap.size, 0, none⟩) 1 1) [x]) := OwnI.ofRow (l := [x]) V3r rfl (Nat.le_refl _) (by omega)
    have HV : Hid ((Value.slice a n c).ownBlock ≠ some w2.heap.size) := fun e => by have := ((HO.out.below b2).row.lt _ e).2; omega
    have HB3 : Hid (Below w.heap.size w w3) := on b2 b3
    have HNb : Hid (∀ b, (Value.slice a n c).ownBlock = some b → b < w.heap.size) := fun b e => (HO.out.row.lt b e).2
    obtain ⟨z0, z1⟩ := (HX.out.below b2).two
    clear b2 b3 V3r z3 x0 x1 hc
    go_wp2_with fail
    go_at_call 44
    refine (insert_u w3 base a n c i l HO3.out _ w2.heap.size 1 1 [x] (HOV.out.rd (by simp)) HV.out _ V3.out (by omega) hin (by omega) (by omega) (by have := HB.out; have := HB3.out.size; omega)).mono ?_
    rintro e w4 ⟨ra, rn, rc, rfl, ho, gr⟩
    have HG : Hid (Grew w w4 (.slice a n c) (.slice ra rn rc)) := by
      have b3 := HB3.out
      refine ⟨⟨gr.grown.os.trans b3.os, gr.grown.tape.trans b3.tape, gr.grown.output.trans b3.output, Nat.le_trans b3.size gr.grown.size, fun q hq hne => (gr.grown.block q (by have := b3.size; omega) hne).trans (b3.block q hq)⟩, fun b e => ?_⟩
      rcases gr.place b e with k | k
      · exact .inl k
      · exact .inr (by have := b3.size; omega)
    have HO4 : Hid _ := ho
    clear ho gr
    go_wp2
    go_ret
    exact ⟨_, _, _, rfl, by rw [← HP.out]; exact HO4.out, HG.out⟩
end Go.Proofs.YtgbbkmdfangmmaaGreat
namespace Go.Proofs.YtgbbkmdfangmmaaGreat
set_option maxRecDepth 20000
open Go.RowKit
set_option linter.unusedVariables false
attribute [local go_sem] Oper.semAt_some
set_option maxHeartbeats 4000000 in
theorem chg_leaf {T : List Itm → List Itm} {key : UInt64} {f : Nat} {bs : Array Value} {B : Nat} {J : World → Prop} (hT : Turner T f bs B J) (w : World) (g base : Nat) (v : Value) (s : Pgs) (hW : Wr w g base v s (.int .u64 (key.toNat : Int)) (.func (.func f) #[] bs)) (hJ : J w) (hB : B ≤ g ∧ B ≤ base) (fr : UInt64) (p : Int) (hp1 : 1 ≤ p) (hp2 : p ≤ 2049) (nd : Nod) (hnd : Tr.nodeE s p = .ok nd) (hk : nd.2 = []) :
    Calls Tryz.prog 82 #[.pointer (some ⟨g, 0, none⟩), .agg #[.int .u64 (fr.toNat : Int), .int .i64 p]] w fun e w' => ChgDone (.ok (s, (T nd.1, []))) g base v (.int .u64 (key.toNat : Int)) (.func (.func f) #[] bs) w e w' := by
  have HKn : Hid (nd.2 = []) := hk
  clear hk
  obtain ⟨pa, pc, rfl, hpl, hpn⟩ := hW.pgs.slice
  obtain ⟨w1, hw1, V1, b1, z1⟩ := boxedRow w 149 [.int .u64 (fr.toNat : Int), .int .i64 p]
  obtain ⟨w2, hw2, V2r, b2, z2⟩ := boxedRow w1 129 [.slice none 0 0, .slice none 0 0]
  have HT : Hid (Turner T f bs B J) := hT
  have B2 : Hid (Below w.heap.size w w2) := on b1 b2
  have V2 : Hid (Row w2 w1.heap.size 129 [.slice none 0 0, .slice none 0 0]) := V2r
  have V1b : Hid (Row w2 w.heap.size 149 [.int .u64 (fr.toNat : Int), .int .i64 p]) := V1.below b2
  have W2 : Hid (Wr w2 g base (.slice pa s.length pc) s (.int .u64 (key.toNat : Int)) (.func (.func f) #[] bs)) := hW.below B2.out
  have HW0 : Hid (Wr w g base (.slice pa s.length pc) s (.int .u64 (key.toNat : Int)) (.func (.func f) #[] bs)) := hW
  have HZ : Hid (w1.heap.size = w.heap.size + 1) := z1
  have HZ2 : Hid (w2.heap.size = w.heap.size + 2) := by unfold Hid; omega
  have HOk : Hid (Lf.Ok nd) := Tr.nodeE_ok hnd
  have HNd : Hid (Tr.nodeE s p = .ok nd) := hnd
  have HJ0 : Hid (J w) := hJ
  have HB : Hid (B ≤ g ∧ B ≤ base) := hB
  have HGw : Hid (g < w.heap.size) := hW.row.lt
  have HSee : Hid (∀ W', Below w2.heap.size w2 W' → W'.cell? ⟨g, 0, none⟩ = some (.slice pa s.length pc) ∧ W'.cell? ⟨w.heap.size, 1, none⟩ = some (.int .i64 p)) := by
    intro W' b'
    exact ⟨(W2.out.row.below b').cell (j := 0) rfl, (V1b.out.below b').cell (j := 1) rfl⟩
  have HRd : Hid (∀ W', Below w2.heap.size w2 W' → rSectors.rd W' (fun b => base ≤ b) [.slice pa s.length pc] s) := fun W' b' => Rep.below (W2.out.pgs.rd hW.few) b'
  have h0 : -9223372036854775808 ≤ p := by omega
  have h1 : p ≤ 9223372036854775807 := by omega
  clear hW hpl hpn V1 V2r b1 b2 z1 z2 hT hnd hJ hB hp1 hp2
  go_enter Tryz.func82, Tryz.ntmps82
  go_wp2_with fail
  go_cut [5] (fun t wx => ∃ nb ia il ic ka kl kc, t = .pointer (some ⟨nb, 0, none⟩) ∧ Hid (w2.heap.size ≤ nb) ∧ Hid (Row wx nb 88 [.slice ia il ic, .slice ka kl kc]) ∧ Hid (OwnI 29 wx w2.heap.size (.slice ia il ic) nd.1) ∧ Hid (OwnK 3 wx w2.heap.size (.slice ka kl kc) nd.2) ∧ Hid (Below w2.heap.size w2 wx))
  case first =>
    refine wp_region_held_drew (S := (fun w' : World => w'.cell? ⟨g, 0, none⟩ = some (.slice pa s.length pc) ∧ w'.cell? ⟨w.heap.size, 1, none⟩ = some (.int .i64 p))) (by kernel_rfl) (HSee.out _ (Below.refl _ _).drew) (fun hHeld => ?_)
    refine wpAnyH_takeL (i := 0) (v := ?_) rfl rfl (by kernel_rfl) (by kernel_rfl) (by kernel_rfl) (fun _ _ _ h => h) (Or.inl ⟨by rfl, ?_⟩) (by assumption) ?_
    rotate_left
    · intro w hSw
      try dsimp only at hSw
      go_simp
      all_goals with_reducible rfl
    simp only [List.set_cons_zero, List.set_cons_succ]
    refine wpAnyH_takeL (i := 1) (v := ?_) rfl rfl (by kernel_rfl) (by kernel_rfl) (by kernel_rfl) (fun _ _ _ h => h) (Or.inl ⟨by rfl, ?_⟩) (by assumption) ?_
    rotate_left
    · intro w hSw
      try dsimp only at hSw
      go_simp
      all_goals with_reducible rfl
    simp only [List.set_cons_zero, List.set_cons_succ]
    refine wpAnyH_takeL (i := 2) (v := ?_) rfl rfl (by kernel_rfl) (by kernel_rfl) (by kernel_rfl) (fun _ _ _ h => h) (Or.inl ⟨by rfl, ?_⟩) (by assumption) ?_
    rotate_left
    · intro w hSw
      try dsimp only at hSw
      go_simp
      all_goals with_reducible rfl
    simp only [List.set_cons_zero, List.set_cons_succ]
    refine wpAnyH_takeL (i := 3) (v := ?_) rfl rfl (by kernel_rfl) (by kernel_rfl) (by kernel_rfl) (fun _ _ _ h => h) (Or.inl ⟨by rfl, ?_⟩) (by assumption) ?_
    rotate_left
    · intro w hSw
      try dsimp only at hSw
      go_simp
      all_goals with_reducible rfl
    simp only [List.set_cons_zero, List.set_cons_succ]
    refine wpAnyH_takeL (i := 4) (v := ?_) rfl rfl (by kernel_rfl) (by kernel_rfl) (by kernel_rfl) (fun _ _ _ h => h) (Or.inl ⟨by rfl, ?_⟩) (by assumption) ?_
    rotate_left
    · intro w hSw
      try dsimp only at hSw
      go_simp
      all_goals with_reducible rfl
    simp only [List.set_cons_zero, List.set_cons_succ]
    refine wpAnyH_takeL (i := 5) (v := ?_) rfl rfl (by kernel_rfl) (by kernel_rfl) (by kernel_rfl) (fun _ _ _ h => h) (Or.inl ⟨by rfl, ?_⟩) (by assumption) ?_
    rotate_left
    · intro w hSw
      try dsimp only at hSw
      go_simp
      all_goals with_reducible rfl
    simp only [List.set_cons_zero, List.set_cons_succ]
    refine wpAnyH_ready (rs := [6, 7]) (by kernel_rfl) (by simp) ?_
    refine AllReadyH.cons rfl (fun K hK => ?_) ?_
    · go_simp
      go_at_call 85
      refine Calls.mono (nodeT_u _ _ pa pc s (HRd.out _ ((Below.refl _ _).drew)) p h0 h1) ?_
      rintro e w3 ⟨hb3, hok, -⟩
      have b3 : Below w2.heap.size w2 w3 := on ((Below.refl _ _).drew) hb3
      obtain ⟨ia, il, ic, ka, kl, kc, rfl, hI3, hK3⟩ := hok nd HNd.out
      have HB3 : Hid (Below w2.heap.size w2 w3) := b3
      have HI3 : Hid _ := hI3
      have HK3 : Hid _ := hK3
      clear hok hI3 hK3 b3 hb3
      go_simp
      refine hK.out _ _ ?_ (fun hHeld => ?_)
      · try dsimp only
        exact HSee.out _ HB3.out
      clear hK K
      refine wpAnyH_ready (rs := [7]) (by kernel_rfl) (by simp) ?_
      refine AllReadyH.cons rfl (fun K hK => ?_) ?_
      · go_simp
        refine hK.out _ _ ?_ (fun hHeld => ?_)
        · try dsimp only
          exact HSee.out _ (below_alloc0 HB3.out _)
        clear hK K
        refine wpAnyH_ready (rs := [8]) (by kernel_rfl) (by simp) ?_
        refine AllReadyH.cons rfl (fun K hK => ?_) ?_
        · go_simp
          refine hK.out _ _ ?_ (fun hHeld => ?_)
          · try dsimp only
            exact HSee.out _ (below_alloc0 HB3.out _)
          clear hK K
          refine wpAnyH_done (by kernel_rfl) ?_ _
          clear hHeld
          go_wp2_with fail
          go_meet
          exact ⟨w3.heap.size, ia, il, ic, ka, kl, kc, rfl, HB3.out.size, row_new _ _ _, HI3.out.below ((Below.refl _ w3).alloc (Nat.le_refl _) _), HK3.out.below ((Below.refl _ w3).alloc (Nat.le_refl _) _), below_alloc0 HB3.out _⟩
        exact AllReadyH.nil
      exact AllReadyH.nil
    refine AllReadyH.cons rfl (fun K hK => ?_) ?_
    · have BZ : Hid (Below w2.heap.size w2 (w2.alloc (.cells #[.slice none 0 0, .slice none 0 0] 88)).drew) := ((Below.refl _ w2).alloc (Nat.le_refl _) _).drew
      have VZ : Hid (Row (w2.alloc (.cells #[.slice none 0 0, .slice none 0 0] 88)).drew w2.heap.size 88 [.slice none 0 0, .slice none 0 0]) := (row_new w2 _ _).keep rfl
      obtain ⟨wZ, hwZ⟩ : ∃ wZ, wZ = (w2.alloc (.cells #[.slice none 0 0, .slice none 0 0] 88)).drew := ⟨_, rfl⟩
      rw [← hwZ] at BZ VZ
      go_simp
      rw [← hwZ]
      clear hwZ
      refine hK.out _ _ ?_ (fun hHeld => ?_)
      · try dsimp only
        exact HSee.out _ BZ.out
      clear hK K
      refine wpAnyH_ready (rs := [6]) (by kernel_rfl) (by simp) ?_
      refine AllReadyH.cons rfl (fun K hK => ?_) ?_
      · go_simp
        go_at_call 85
        refine Calls.mono (nodeT_u _ _ pa pc s (HRd.out _ (BZ.out)) p h0 h1) ?_
        rintro e w3 ⟨hb3, hok, -⟩
        have b3 : Below w2.heap.size w2 w3 := on (BZ.out) hb3
        obtain ⟨ia, il, ic, ka, kl, kc, rfl, hI3, hK3⟩ := hok nd HNd.out
        have HB3 : Hid (Below w2.heap.size w2 w3) := b3
        have VC : Hid (Row w3 w2.heap.size 88 [.slice none 0 0, .slice none 0 0]) := VZ.out.below hb3
        have hlt : Hid (w2.heap.size < wZ.heap.size) := VZ.out.lt
        have HI3 : Hid _ := hI3
        have HK3 : Hid _ := hK3
        obtain ⟨g0, g1⟩ := VC.out.two
        have g2 := VC.out.frozen 0
        have g3 := VC.out.frozen 1
        clear hok hI3 hK3 b3 hb3
        go_simp
        refine hK.out _ _ ?_ (fun hHeld => ?_)
        · try dsimp only
          exact HSee.out _ HB3.out
        clear hK K
        refine wpAnyH_ready (rs := [8]) (by kernel_rfl) (by simp) ?_
        refine AllReadyH.cons rfl (fun K hK => ?_) ?_
        · go_simp
          refine hK.out _ _ ?_ (fun hHeld => ?_)
          · try dsimp only
            exact HSee.out _ ((HB3.out.setCell (p := ⟨w2.heap.size, 0, none⟩) (Nat.le_refl _) _).setCell (p := ⟨w2.heap.size, 1, none⟩) (Nat.le_refl _) _)
          clear hK K
          refine wpAnyH_done (by kernel_rfl) ?_ _
          clear hHeld
          go_wp2_with fail
          go_meet
          obtain ⟨w9, hw9, V9, K9⟩ := VC.out.whole2 (.slice ia il ic) (.slice ka kl kc)
          rw [hw9]
          exact ⟨w2.heap.size, ia, il, ic, ka, kl, kc, rfl, Nat.le_refl _, V9, (HI3.out.keptL K9 hlt.out).mono (Nat.le_of_lt hlt.out), (HK3.out.keptL K9 hlt.out).mono (Nat.le_of_lt hlt.out), Kept.belowOf HB3.out K9 (Nat.le_refl _)⟩
        exact AllReadyH.nil
      exact AllReadyH.nil
    exact AllReadyH.nil
  case rest =>
    obtain ⟨nb, ia, il, ic, ka, kl, kc, rfl, HNb, RN, HI, HK, HB3⟩ := hcut
    obtain ⟨w3, hw3⟩ : ∃ w3, w3 = wc := ⟨_, rfl⟩
    subst hw3
    obtain ⟨r0, r1⟩ := (V1b.out.below HB3.out).two
    obtain ⟨q0, q1⟩ := RN.out.two
    have HKL : Hid (kl = nd.2.length) := by obtain ⟨x, y, e, -⟩ := HK.out.slice; simp only [Value.slice.injEq] at e; exact e.2.1
    clear HSee HRd V1b
    go_wp2_with fail
    go_at_call 104
    refine Calls.mono (contentOf_u _ w2.heap.size ia ka il ic kl kc nd.1 nd.2 fr HI.out HK.out HOk.out.few (Tr.shape HOk.out) HB3.out.size) ?_
    rintro e w4 ⟨ca, cn, cc, da, dn, dc, rfl, hC4, b4⟩
    obtain ⟨w5, hw5, V5r, b5, z5⟩ := boxedRow w4 129 [.slice ca cn cc, .slice da dn dc]
    have B5 : Hid (Below w2.heap.size w2 w5) := on (on HB3.out b4) b5
    have HC5 : Hid (IsCnt w5 w2.heap.size (.slice ca cn cc) (.slice da dn dc) (Tr.contOf nd fr)) := hC4.below b5
    have RN5 : Hid (Row w5 nb 88 [.slice ia il ic, .slice ka kl kc]) := (RN.out.below b4).below b5
    have HI5 : Hid (OwnI 29 w5 w2.heap.size (.slice ia il ic) nd.1) := (HI.out.below b4).below b5
    have V5 : Hid (Row w5 w4.heap.size 129 [.slice ca cn cc, .slice da dn dc]) := V5r
    have HZ5 : Hid (w2.heap.size ≤ w4.heap.size ∧ w5.heap.size = w4.heap.size + 1) := ⟨(on HB3.out b4).size, z5⟩
    clear r0 r1 q0 q1 RN HI HK HB3 hC4 b4 b5 V5r z5
    obtain ⟨q0, q1⟩ := RN5.out.two
    go_wp2_with fail
    go_at_call 60
    refine (isLeafT_u _ _ _ _ _).mono ?_
    rintro e w6 ⟨rfl, b6⟩
    have B6 : Hid (Below w2.heap.size w2 w6) := on B5.out b6
    have HC6 : Hid (IsCnt w6 w2.heap.size (.slice ca cn cc) (.slice da dn dc) (Tr.contOf nd fr)) := HC5.out.below b6
    have RN6 : Hid (Row w6 nb 88 [.slice ia il ic, .slice ka kl kc]) := RN5.out.below b6
    have HI6 : Hid (OwnI 29 w6 w2.heap.size (.slice ia il ic) nd.1) := HI5.out.below b6
    have V6 : Hid (Row w6 w4.heap.size 129 [.slice ca cn cc, .slice da dn dc]) := V5.out.below b6
    have R6 : Hid (Row w6 w1.heap.size 129 [.slice none 0 0, .slice none 0 0]) := V2.out.below B6.out
    have W6 : Hid (Wr w6 g base (.slice pa s.length pc) s (.int .u64 (key.toNat : Int)) (.func (.func f) #[] bs)) := W2.out.below B6.out
    have HB0 : Hid (Below w.heap.size w w6) := on B2.out B6.out
    have HJ6 : Hid (J w6) := HT.out.stay HJ0.out ((WTurn.of (g := g) HB0.out).under HW0.out HB.out)
    clear q0 q1 b6 B5 HC5 RN5 HI5 V5 W2 V2 hw5 hw1 hw2
    obtain rfl : kl = 0 := by rw [HKL.out, HKn.out]; rfl
    have HCI : Hid (OwnI 29 w6 w2.heap.size (.slice ca cn cc) nd.1) := by have h := HC6.out.items; rw [Tr.contOf_leaf fr HKn.out] at h; exact h
    have HSee4 : Hid (∀ W', Below w6.heap.size w6 W' → W'.cell? ⟨g, 2, none⟩ = some (.func (.func f) #[] bs) ∧ W'.cell? ⟨w4.heap.size, 0, none⟩ = some (.slice ca cn cc)) := fun W' b' => ⟨(W6.out.row.below b').cell (j := 2) rfl, (V6.out.below b').cell (j := 0) rfl⟩
    have eg := HT.out.enters
    clear HC6 RN6 HI6
    go_wp2_with fail
    refine wp_region_held_drew (S := (fun w' : World => w'.cell? ⟨g, 2, none⟩ = some (.func (.func f) #[] bs) ∧ w'.cell? ⟨w4.heap.size, 0, none⟩ = some (.slice ca cn cc))) (by kernel_rfl) (HSee4.out _ (Below.refl _ _).drew) (fun hHeld => ?_)
    refine wpAnyH_takeL (i := 0) (v := ?_) rfl rfl (by kernel_rfl) (by kernel_rfl) (by kernel_rfl) (fun _ _ _ h => h) (Or.inl ⟨by rfl, ?_⟩) (by assumption) ?_
    rotate_left
    · intro w hSw
      try dsimp only at hSw
      go_simp
      all_goals with_reducible rfl
    simp only [List.set_cons_zero, List.set_cons_succ]
    refine wpAnyH_takeL (i := 1) (v := ?_) rfl rfl (by kernel_rfl) (by kernel_rfl) (by kernel_rfl) (fun _ _ _ h => h) (Or.inl ⟨by rfl, ?_⟩) (by assumption) ?_
    rotate_left
    · intro w hSw
      try dsimp only at hSw
      go_simp
      all_goals with_reducible rfl
    simp only [List.set_cons_zero, List.set_cons_succ]
    refine wpAnyH_takeL (i := 2) (v := ?_) rfl rfl (by kernel_rfl) (by kernel_rfl) (by kernel_rfl) (fun _ _ _ h => h) (Or.inl ⟨by rfl, ?_⟩) (by assumption) ?_
    rotate_left
    · intro w hSw
      try dsimp only at hSw
      go_simp
      all_goals with_reducible rfl
    simp only [List.set_cons_zero, List.set_cons_succ]
    refine wpAnyH_takeL (i := 3) (v := ?_) rfl rfl (by kernel_rfl) (by kernel_rfl) (by kernel_rfl) (fun _ _ _ h => h) (Or.inl ⟨by rfl, ?_⟩) (by assumption) ?_
    rotate_left
    · intro w hSw
      try dsimp only at hSw
      go_simp
      all_goals with_reducible rfl
    simp only [List.set_cons_zero, List.set_cons_succ]
    refine wpAnyH_takeL (i := 4) (v := ?_) rfl rfl (by kernel_rfl) (by kernel_rfl) (by kernel_rfl) (fun _ _ _ h => h) (Or.inl ⟨by rfl, ?_⟩) (by assumption) ?_
    rotate_left
    · intro w hSw
      try dsimp only at hSw
      go_simp
      all_goals with_reducible rfl
    simp only [List.set_cons_zero, List.set_cons_succ]
    refine wpAnyH_takeL (i := 5) (v := ?_) rfl rfl (by kernel_rfl) (by kernel_rfl) (by kernel_rfl) (fun _ _ _ h => h) (Or.inl ⟨by rfl, ?_⟩) (by assumption) ?_
    rotate_left
    · intro w hSw
      try dsimp only at hSw
      go_simp
      all_goals with_reducible rfl
    simp only [List.set_cons_zero, List.set_cons_succ]
    refine wpAnyH_ready (rs := [6]) (by kernel_rfl) (by simp) ?_
    refine AllReadyH.cons rfl (fun K hK => ?_) ?_
    · go_simp
      go_at_fn f
      refine Calls.mono (HT.out.call (w := w6.drew) (HT.out.stay HJ6.out ((Below.refl _ _).drew)) (base := w2.heap.size) (by have := HB.out; have := HGw.out; have := B2.out.size; omega) B6.out.size (HCI.out.below (Below.refl _ _).drew) HOk.out.few HOk.out.rises) ?_
      rintro e w7 ⟨ra, rn, rc, rfl, ho, gr⟩
      have tk : TK [29] w6 w7 := (TK.of (Below.refl _ _).drew _).trans (TK.grewI (HCI.out.below (Below.refl _ _).drew) gr)
      have bb : Below w2.heap.size w6.drew w7 := (HCI.out.below (Below.refl _ _).drew).base_below B6.out.size gr
      have HC7 : Hid (OwnI 29 w7 w2.heap.size (.slice ra rn rc) (T nd.1)) := ho
      have R7 : Hid (Row w7 w1.heap.size 129 [.slice none 0 0, .slice none 0 0]) := R6.out.tk tk (by decide)
      have W7 : Hid (Wr w7 g base (.slice pa s.length pc) s (.int .u64 (key.toNat : Int)) (.func (.func f) #[] bs)) := W6.out.tk tk (by decide) (by decide) (by decide)
      have V7 : Hid (Row w7 w4.heap.size 129 [.slice ca cn cc, .slice da dn dc]) := V6.out.tk tk (by decide)
      have B7 : Hid (Below w.heap.size w w7) := HB0.out.drew.trans (bb.mono B2.out.size)
      have hS7 : w7.cell? ⟨g, 2, none⟩ = some (.func (.func f) #[] bs) ∧ w7.cell? ⟨w4.heap.size, 0, none⟩ = some (.slice ca cn cc) := ⟨W7.out.row.cell (j := 2) rfl, V7.out.cell (j := 0) rfl⟩
      obtain ⟨g0, g1⟩ := R7.out.two
      have g2 := R7.out.frozen 0
      have g3 := R7.out.frozen 1
      have HS8 : Hid (∀ u u', ((w7.setCell ⟨w1.heap.size, 0, none⟩ u).setCell ⟨w1.heap.size, 1, none⟩ u').cell? ⟨g, 2, none⟩ = some (.func (.func f) #[] bs) ∧ ((w7.setCell ⟨w1.heap.size, 0, none⟩ u).setCell ⟨w1.heap.size, 1, none⟩ u').cell? ⟨w4.heap.size, 0, none⟩ = some (.slice ca cn cc)) := fun u u' => by
        obtain ⟨w8, hw8, V8, K8⟩ := R7.out.whole2 u u'
        rw [hw8]
        exact ⟨(W7.out.row.keep (K8.block g (by have := HGw.out; have := HZ.out; show g ≠ w1.heap.size; omega))).cell (j := 2) rfl, (V7.out.keep (K8.block _ (by have := HZ.out; have := HZ2.out; have := HZ5.out; show w4.heap.size ≠ w1.heap.size; omega))).cell (j := 0) rfl⟩
      clear ho gr tk bb
      go_simp
      refine hK.out _ _ ?_ (fun hHeld => ?_)
      · try dsimp only
        exact hS7
      clear hK K
      refine wpAnyH_takeL (i := 7) (v := ?_) rfl rfl (by kernel_rfl) (by kernel_rfl) (by kernel_rfl) (fun _ _ _ h => h) (Or.inl ⟨by rfl, ?_⟩) (by assumption) ?_
      rotate_left
      · intro w hSw
        try dsimp only at hSw
        go_simp
        all_goals with_reducible rfl
      simp only [List.set_cons_zero, List.set_cons_succ]
      refine wpAnyH_ready (rs := [8]) (by kernel_rfl) (by simp) ?_
      refine AllReadyH.cons rfl (fun K hK => ?_) ?_
      · go_simp
        refine hK.out _ _ ?_ (fun hHeld => ?_)
        · try dsimp only
          exact HS8.out _ _
        clear hK K
        refine wpAnyH_done (by kernel_rfl) ?_ _
        clear hHeld
        go_wp2
        exact st_retT R7.out _ _ rfl rfl Tryz.underlying129 rfl (by kernel_rfl) (fun w' k' => ChgDone.yes rfl rfl ⟨(HC7.out.mono (by have := B2.out.size; exact this)).tk (TK.box R7.out k') (by decide), OwnB.nil _ _ _⟩ (W7.out.tk (TK.box R7.out k') (by decide) (by decide) (by decide)) (WTurn.of (Kept.belowOf B7.out k' (by have := HZ.out; omega))))
      exact AllReadyH.nil
    exact AllReadyH.nil
end Go.Proofs.YtgbbkmdfangmmaaGreat
namespace Go.Proofs.YtgbbkmdfangmmaaGreat
set_option maxRecDepth 20000
open Go.RowKit
set_option linter.unusedVariables false
theorem lenAt_of {w : World} {p : Addr} {a : Option Addr} {n c : Nat} (h : w.cell? p = some (.slice a n c)) : lenAt w p = n := by
  unfold lenAt
  rw [h]
theorem RootI.stop {k : Nat} {s : Pgs} {cn : Cnt} {g base b : Nat} {v kv tv : Value} {w wr : World} {kj : Nat} {sj : Pgs} {cj : Cnt} {vj : Value} {a a' : Option Addr} {n c n' c' : Nat} (h : RootI k s cn g base b v kv tv w wr kj sj cj vj a a' n c n' c') (hm : ¬ (0 < n ∨ 1 < n')) : Tr.rootOf k s cn = .ok (sj, (cj.2.head?.map (·.2)).getD 0) := by
  have hp := h.fuel.pos
  obtain ⟨j, rfl⟩ : ∃ j, kj = j + 1 := ⟨kj - 1, by omega⟩
  rw [← h.same]
  unfold Tr.rootOf
  rw [if_neg (fun e => hm (e.imp (fun e => by rw [← h.len.1]; exact List.length_pos_iff.2 e) (fun e => by rw [← h.len.2.1]; exact e)))]
theorem RootI.err {k : Nat} {s : Pgs} {cn : Cnt} {g base b : Nat} {v kv tv : Value} {w wr : World} {kj : Nat} {sj : Pgs} {cj : Cnt} {vj : Value} {a a' : Option Addr} {n c n' c' : Nat} (h : RootI k s cn g base b v kv tv w wr kj sj cj vj a a' n c n' c') (hm : cj.1 ≠ [] ∨ 1 < cj.2.length) {x : Int} (hy : Tr.lay sj cj = .error x) : Tr.rootOf k s cn = .error x := by
  have hp := h.fuel.pos
  obtain ⟨j, rfl⟩ : ∃ j, kj = j + 1 := ⟨kj - 1, by omega⟩
  rw [← h.same]
  unfold Tr.rootOf
  rw [if_pos hm]
  simp only [hy]
set_option maxHeartbeats 600000 in
theorem rootOf_u (w : World) (g base : Nat) (v : Value) (s : Pgs) (kv tv : Value) (hW : Wr w g base v s kv tv) (a a' : Option Addr) (n c n' c' : Nat) (cn : Cnt) (B : Nat) (hC : IsCnt w B (.slice a n c) (.slice a' n' c') cn) (hpg : ∀ b ∈ cn.2, 1 ≤ b.2 ∧ b.2 ≤ 2049) (k : Nat) (hF : Tr.Fuel k cn) (hn : n ≤ 1000) (hn' : n' ≤ 1000) :
    Calls Tryz.prog 67 #[.pointer (some ⟨g, 0, none⟩), .agg #[.slice a n c, .slice a' n' c']] w fun e w' => RootDone k s cn g base v kv tv w e w' := by
  obtain ⟨w1, hw1, V1, b1, z1⟩ := boxedRow w 129 [.slice a n c, .slice a' n' c']
  have e1 : n = cn.1.length := by obtain ⟨x, y, e, -⟩ := hC.items.slice; simp only [Value.slice.injEq] at e; exact e.2.1
  have e2 : n' = cn.2.length := by obtain ⟨x, y, e, -⟩ := hC.kids.slice; simp only [Value.slice.injEq] at e; exact e.2.1
  have HI0 : Hid (RootI k s cn g base w.heap.size v kv tv w w1 k s cn v a a' n c n' c') := ⟨V1, (hC.below b1).mono (Nat.zero_le _), hW.below b1, WTurn.of b1, rfl, hF, hpg, e1.symm, e2.symm, hn, hn'⟩
  clear hW hC hpg hF V1 b1 z1 e1 e2 hn hn'
  go_enter Tryz.func67, Tryz.ntmps67
  go_wp2
  go_loopw [] (fun wr => ∃ (kj : Nat) (sj : Pgs) (cj : Cnt) (vj : Value) (a a' : Option Addr) (n c n' c' : Nat), Hid (RootI k s cn g base w.heap.size v kv tv w wr kj sj cj vj a a' n c n' c')) (fun wr => 2 * lenAt wr ⟨w.heap.size, 0, none⟩ + lenAt wr ⟨w.heap.size, 1, none⟩)
  case atStart => exact ⟨k, s, cn, v, a, a', n, c, n', c', HI0⟩
  case round =>
    clear HI0 hw1
    obtain ⟨kj, sj, cj, vj, ia, ka, il, ic, kl, kc, HI⟩ := hrel
    obtain ⟨q0, q1⟩ := HI.out.row.two
    have hn : il ≤ 1000 := HI.out.len.2.2.1
    have hn' : kl ≤ 1000 := HI.out.len.2.2.2
    by_cases hm : 0 < il ∨ 1 < kl
    · have HM : Hid (cj.1 ≠ [] ∨ 1 < cj.2.length) := hm.imp (fun e e' => by rw [← HI.out.len.1, e'] at e; cases e) (fun e => by rw [HI.out.len.2.1]; exact e)
      have HR : Hid _ := HI.out.cnt.rd (by rw [HI.out.len.1]; omega) (by rw [HI.out.len.2.1]; omega)
      have hdec : (il : Int) > 0 ∨ (¬ ((il : Int) > 0) ∧ (kl : Int) > 1) := by omega
      have HLY : Hid _ := lay_u wr g base vj sj kv tv HI.out.wr_ _ ia ka il ic kl kc cj.1 cj.2 HR.out.1 HR.out.2 (HI.out.cnt.apartW HI.out.wr_) hn hn' (fun b hb => by have := HI.out.pages b hb; omega)
      clear HR hm
      rcases hdec with hz | ⟨hz, hz'⟩
      · go_wp2_with fail
        go_at_call 81
        refine Calls.mono HLY.out ?_
        rintro e w5 hdone
        rcases hy : Tr.lay sj (cj.1, cj.2) with x | ⟨s5, bs⟩
        · obtain ⟨rfl, t5⟩ := hdone.1 x hy
          exact ⟨rfl, RootDone.no (HI.out.err HM.out hy) (HI.out.turn.trans (WTurn.mk t5 (v' := vj) (fun b e => .inl e))).turn⟩
        obtain ⟨oa, om, oc, v5, rfl, ho, hW5, t5, -⟩ := hdone.2 s5 bs hy
        obtain ⟨R5, hlt, k5, hI5⟩ := HI.out.next (Nat.le_refl _) HM.out hy ho hW5 t5
        obtain ⟨p0, p1⟩ := R5.two
        have f0 := R5.frozen 0
        have f1 := R5.frozen 1
        have HI5 : Hid _ := hI5
        have HMs : Hid (2 * lenAt ((w5.setCell ⟨w.heap.size, 0, none⟩ (.slice none 0 0)).setCell ⟨w.heap.size, 1, none⟩ (.slice oa om oc)) ⟨w.heap.size, 0, none⟩ + lenAt ((w5.setCell ⟨w.heap.size, 0, none⟩ (.slice none 0 0)).setCell ⟨w.heap.size, 1, none⟩ (.slice oa om oc)) ⟨w.heap.size, 1, none⟩ < 2 * lenAt wr ⟨w.heap.size, 0, none⟩ + lenAt wr ⟨w.heap.size, 1, none⟩) := by
          unfold Hid
          rw [lenAt_of q0, lenAt_of q1, lenAt_of (hI5.row.cell (j := 0) rfl), lenAt_of (hI5.row.cell (j := 1) rfl)]
          omega
        clear R5 hI5 ho hW5 t5 hdone hlt
        go_wp2
        go_roundw
        case rel => exact ⟨k5, s5, _, v5, _, _, _, _, _, _, HI5⟩
        case measure => exact HMs.out
      · obtain rfl : il = 0 := by omega
        clear hz
        go_wp2_with fail
        go_at_call 81
        refine Calls.mono HLY.out ?_
        rintro e w5 hdone
        rcases hy : Tr.lay sj (cj.1, cj.2) with x | ⟨s5, bs⟩
        · obtain ⟨rfl, t5⟩ := hdone.1 x hy
          exact ⟨rfl, RootDone.no (HI.out.err HM.out hy) (HI.out.turn.trans (WTurn.mk t5 (v' := vj) (fun b e => .inl e))).turn⟩
        obtain ⟨oa, om, oc, v5, rfl, ho, hW5, t5, -⟩ := hdone.2 s5 bs hy
        obtain ⟨R5, hlt, k5, hI5⟩ := HI.out.next (Nat.le_refl _) HM.out hy ho hW5 t5
        obtain ⟨p0, p1⟩ := R5.two
        have f0 := R5.frozen 0
        have f1 := R5.frozen 1
        have HI5 : Hid _ := hI5
        have HMs : Hid (2 * lenAt ((w5.setCell ⟨w.heap.size, 0, none⟩ (.slice none 0 0)).setCell ⟨w.heap.size, 1, none⟩ (.slice oa om oc)) ⟨w.heap.size, 0, none⟩ + lenAt ((w5.setCell ⟨w.heap.size, 0, none⟩ (.slice none 0 0)).setCell ⟨w.heap.size, 1, none⟩ (.slice oa om oc)) ⟨w.heap.size, 1, none⟩ < 2 * lenAt wr ⟨w.heap.size, 0, none⟩ + lenAt wr ⟨w.heap.size, 1, none⟩) := by
          unfold Hid
          rw [lenAt_of q0, lenAt_of q1, lenAt_of (hI5.row.cell (j := 0) rfl), lenAt_of (hI5.row.cell (j := 1) rfl)]
          omega
        clear R5 hI5 ho hW5 t5 hdone hlt
        go_wp2
        go_roundw
        case rel => exact ⟨k5, s5, _, v5, _, _, _, _, _, _, HI5⟩
        case measure => exact HMs.out
    · have HS : Hid _ := HI.out.stop hm
      have hz : ¬ ((il : Int) > 0) := by omega
      have hz' : ¬ ((kl : Int) > 1) := by omega
      by_cases h0 : kl = 0
      · subst h0
        have hc : cj.2 = [] := List.length_eq_zero_iff.1 HI.out.len.2.1
        have HS0 : Hid (Tr.rootOf k s cn = .ok (sj, 0)) := by have h := HS.out; rw [hc] at h; exact h
        clear HS hc hm
        go_wp2
        go_ret
        exact RootDone.yes HS0.out rfl HI.out.wr_ HI.out.turn
      · have h1 : kl = 1 := by omega
        obtain ⟨b, off, rfl, -, -, hat⟩ := rBrns_at (HI.out.cnt.rd (by rw [HI.out.len.1]; omega) (by rw [HI.out.len.2.1]; omega)).2 (by omega)
        have hlen : 0 < cj.2.length := by rw [HI.out.len.2.1]; omega
        have hp := (hat 0 hlen).2
        rw [Nat.zero_mul, Nat.add_zero] at hp
        obtain ⟨q, hq⟩ : ∃ q, q = cj.2[0].2 := ⟨_, rfl⟩
        rw [← hq] at hp
        have HS1 : Hid (Tr.rootOf k s cn = .ok (sj, q)) := by
          have h := HS.out
          rw [List.head?_eq_getElem?, List.getElem?_eq_getElem hlen] at h
          rw [hq]
          exact h
        subst h1
        clear HS hat hq hm h0 hlen
        go_wp2
        go_ret
        exact RootDone.yes HS1.out rfl HI.out.wr_ HI.out.turn
end Go.Proofs.YtgbbkmdfangmmaaGreat
namespace Go.Proofs.YtgbbkmdfangmmaaGreat
set_option maxRecDepth 20000
open Go.RowKit
set_option linter.unusedVariables false
set_option maxHeartbeats 2000000 in
theorem turnedF_u {T : List Itm → List Itm} {key : UInt64} {f : Nat} {bs : Array Value} {B : Nat} {J : World → Prop} (hT : Turner T f bs B J) (w : World) (g base : Nat) (v : Value) (s : Pgs) (hW : Wr w g base v s (.int .u64 (key.toNat : Int)) (.func (.func f) #[] bs)) (hJ : J w) (hB : B ≤ g ∧ B ≤ base) (root : Int) (h0 : 0 ≤ root) (h1 : root ≤ 2049) (hlf : root ≠ 0 → ∃ nd, Tr.nodeE s root = .ok nd ∧ nd.2 = []) (hne : Tr.turned T key s root 16 ≠ .error 9) :
    Calls Tryz.prog 68 #[.pointer (some ⟨g, 0, none⟩), .int .i64 root] w fun e w' => ChgDone (Tr.turned T key s root 16) g base v (.int .u64 (key.toNat : Int)) (.func (.func f) #[] bs) w e w' := by
  obtain ⟨w1, hw1, V1r, b1, z1⟩ := boxedRow w 129 [.slice none 0 0, .slice none 0 0]
  have HT : Hid _ := hT
  have V1 : Hid (Row w1 w.heap.size 129 [.slice none 0 0, .slice none 0 0]) := V1r
  have B1 : Hid (Below w.heap.size w w1) := b1
  have W1 : Hid (Wr w1 g base v s (.int .u64 (key.toNat : Int)) (.func (.func f) #[] bs)) := hW.below b1
  have HJ1 : Hid (J w1) := hT.stay hJ ((WTurn.of (g := g) (v := v) b1).under hW hB)
  have HB : Hid (B ≤ g ∧ B ≤ base) := hB
  have HGw : Hid (g < w.heap.size) := hW.row.lt
  by_cases hr : root = 0
  · subst hr
    have e : Tr.turned T key s 0 16 = .ok (s, (T [], [])) := if_pos rfl
    rw [e]
    have eg := hT.enters
    have t2 := W1.out.row.cell (j := 2) rfl
    clear e hne hlf hT hW hJ hB V1r b1 h0 h1
    go_enter Tryz.func68, Tryz.ntmps68
    go_wp2_with fail
    go_at_fn f
    refine Calls.mono (HT.out.call HJ1.out (base := w1.heap.size) (by have := HB.out; have := HGw.out; have := B1.out.size; omega) (Nat.le_refl _) (OwnI.nil _ _ _) (by simp) rfl) ?_
    rintro e w2 ⟨ra, rn, rc, rfl, ho, gr⟩
    have tk : TK [29] w1 w2 := TK.grewI (OwnI.nil _ _ w1.heap.size) gr
    have bb : Below w1.heap.size w1 w2 := (OwnI.nil 29 w1 w1.heap.size).base_below (Nat.le_refl _) gr
    have HC2 : Hid (OwnI 29 w2 w.heap.size (.slice ra rn rc) (T [])) := ho.mono B1.out.size
    have R2 : Hid (Row w2 w.heap.size 129 [.slice none 0 0, .slice none 0 0]) := V1.out.tk tk (by decide)
    have W2 : Hid (Wr w2 g base v s (.int .u64 (key.toNat : Int)) (.func (.func f) #[] bs)) := W1.out.tk tk (by decide) (by decide) (by decide)
    have B2 : Hid (Below w.heap.size w w2) := on B1.out bb
    obtain ⟨g0, g1⟩ := R2.out.two
    have g2 := R2.out.frozen 0
    have g3 := R2.out.frozen 1
    clear ho gr tk bb
    go_wp2
    exact st_retT R2.out _ _ rfl rfl Tryz.underlying129 rfl (by kernel_rfl) (fun w' k' => ChgDone.yes rfl rfl ⟨HC2.out.tk (TK.box R2.out k') (by decide), OwnB.nil _ _ _⟩ (W2.out.tk (TK.box R2.out k') (by decide) (by decide) (by decide)) (WTurn.of (Kept.belowOf B2.out k' (Nat.le_refl _))))
  · have e : Tr.turned T key s root 16 = Tr.change T key 16 s (0, root) := if_neg hr
    rw [e] at hne ⊢
    obtain ⟨nd, hnd, hnk⟩ := hlf hr
    have hch : Tr.change T key 16 s (0, root) = .ok (s, (T nd.1, [])) := by
      show Tr.change T key (15 + 1) s (0, root) = _
      unfold Tr.change
      simp only [hnd]
      rw [if_pos hnk]
    have hc := chg_leaf hT w1 g base v s W1.out HJ1.out hB 0 root (by omega) h1 nd hnd hnk
    rw [← hch] at hc
    clear hch hnd hnk
    rw [show ((0 : UInt64).toNat : Int) = 0 from rfl] at hc
    have HC : Hid _ := hc
    have hrz : (root == 0) = false := beq_eq_false_iff_ne.2 hr
    clear e hne hlf hT hW hJ hB V1r b1 h0 h1 hc
    generalize Tr.change T key 16 s (0, root) = R at *
    go_enter Tryz.func68, Tryz.ntmps68
    go_wp2_with fail
    go_at_call 82
    refine Calls.mono HC.out ?_
    rintro e w2 hd
    rcases R with x | ⟨s2, cn⟩
    · obtain ⟨rfl, t2⟩ := hd.1 x rfl
      exact ⟨rfl, ChgDone.no rfl (Turn.trans (Turn.of B1.out) t2)⟩
    · obtain ⟨ca, n, c, da, n', c', v2, rfl, hC2, hW2, t2⟩ := hd.2 s2 cn rfl
      have tk : TK [125, 72] w1 w2 := TK.turn W1.out t2.turn
      have R2 : Hid (Row w2 w.heap.size 129 [.slice none 0 0, .slice none 0 0]) := V1.out.tk tk (by decide)
      have HC2 : Hid (IsCnt w2 w.heap.size (.slice ca n c) (.slice da n' c') cn) := hC2.mono B1.out.size
      have W2 : Hid (Wr w2 g base v2 s2 (.int .u64 (key.toNat : Int)) (.func (.func f) #[] bs)) := hW2
      have HT2 : Hid (WTurn g v w v2 w2) := (WTurn.of B1.out).trans t2
      obtain ⟨g0, g1⟩ := R2.out.two
      have g2 := R2.out.frozen 0
      have g3 := R2.out.frozen 1
      clear hd hC2 hW2 t2 tk
      go_wp2
      exact st_retT R2.out _ _ rfl rfl Tryz.underlying129 rfl (by kernel_rfl) (fun w' k' => ChgDone.yes rfl rfl (HC2.out.tk (TK.box R2.out k') (by decide) (by decide)) (W2.out.tk (TK.box R2.out k') (by decide) (by decide) (by decide)) (HT2.out.low (Kept.belowOf (Below.refl _ _) k' (Nat.le_refl _))))
end Go.Proofs.YtgbbkmdfangmmaaGreat
