/-
  Facts that the proof rests on, part 39. Conditions: those that each of them names.
-/
import Derived.Deep.RegionHeldLaw
import Derived.Lib.Overlaps
import Derived.Test.YtkbmadoaomoojaaGreatK14
import Derived.Test.YtkbmadoaomoojaaGreatK28
import Derived.Test.YtkbmadoaomoojaaGreatK30
import Derived.Test.YtkbmadoaomoojaaGreatK37
namespace Go.Proofs.YtkbmadoaomoojaaGreat
set_option maxRecDepth 20000
open Go.RowKit
set_option linter.unusedVariables false
theorem held_copy {Pr : Program} {ops : Array Oper} {o : Oper} {l : List Value} {d : List Deferred} {w w' : World} {K' : Go.Act → World → Prop} {Q : Exit → Go.Act → World → Prop} {k : Nat} (hk : o.dst = some k) (hg : Region.wanted o (yielded ops l.toArray) = true)
 (s y : Operand) (ts : Array TypeId) (ho : o.op = .call { callee := .builtin .copy, args := #[s, y], argTypes := ts }) (v1 v2 v' : Value) (h1 : Go.Act.eval ⟨l.toArray, d⟩ s = v1) (h2 : Go.Act.eval ⟨l.toArray, d⟩ y = v2)
 (hr : (Builtin.copy_ ts o.type #[v1, v2]).run Pr w = .ok v' w') (h : K' ⟨(l.set k v').toArray, d⟩ w') : if Region.wanted o (yielded ops l.toArray) = true then Oper.wp Pr o ⟨l.toArray, d⟩ w K' Q else K' (Go.Act.put ⟨l.toArray, d⟩ o.dst undef) w := by
 have e : Go.Act.put ⟨l.toArray, d⟩ o.dst v' = ⟨(l.set k v').toArray, d⟩ := by rw [hk]; simp [Go.Act.put]
 rw [if_pos hg]
 unfold Oper.wp execOp
 simp only [ho, resolve, invoke, builtin, Sem.run_bind, Sem.run_pure, Result.andThen_ok, List.map_toArray, List.map_cons, List.map_nil, h1, h2, hr]
 rw [← e] at h
 exact h
theorem itmCells_take : ∀ (l : List Itm) (i : Nat), itmCells (l.take i) = (itmCells l).take (i * 2)
 | [], i => by simp [itmCells]
 | x :: l, 0 => by simp [itmCells]
 | x :: l, i + 1 => by
   rw [List.take_succ_cons]
   show itm2 x ++ itmCells (l.take i) = (itm2 x ++ itmCells l).take ((i + 1) * 2)
   rw [itmCells_take l i, show (i + 1) * 2 = (itm2 x).length + i * 2 by simp [itm2]; omega, List.take_append, List.take_of_length_le (Nat.le_add_right _ _), Nat.add_sub_cancel_left]
theorem itmCells_drop (l : List Itm) (i : Nat) : itmCells (l.drop i) = (itmCells l).drop (i * 2) := by
 by_cases h : i ≤ l.length
 · have h1 : itmCells l = itmCells (l.take i) ++ itmCells (l.drop i) := by rw [← itmCells_append, List.take_append_drop]
   have h2 : (itmCells (l.take i)).length = i * 2 := by rw [itmCells_length, List.length_take]; omega
   rw [h1, ← h2]
   exact List.drop_left.symm
 · rw [List.drop_of_length_le (by omega), List.drop_of_length_le (by rw [itmCells_length]; omega)]
   rfl
structure RepI (w : World) (base g n cap : Nat) (l : List Itm) (cur : List Value) : Prop where
 row : Row w g 45 cur
 size : cur.length = cap * 2
 le : n ≤ cap
 most : cap ≤ maxLen
 base_ : base ≤ g
 cells : cur.take (n * 2) = itmCells l
 len : l.length = n
theorem RepI.own {w : World} {base g n cap : Nat} {l : List Itm} {cur : List Value} (h : RepI w base g n cap l cur) : OwnI 45 w base (.slice (some ⟨g, 0, none⟩) n cap) l :=
 ⟨⟨itmCells_length l, .inr ⟨g, cap, cur.toArray, by rw [h.len], h.base_, h.row.eq, by rw [h.len]; exact h.le, h.most, by simpa using h.size, by rw [h.len]; simpa using h.cells⟩⟩⟩
theorem OwnI.repI {w : World} {base g n cap : Nat} {l : List Itm} (h : OwnI 45 w base (.slice (some ⟨g, 0, none⟩) n cap) l) : ∃ cur, RepI w base g n cap l cur := by
 rcases h.row.2 with ⟨e, h0⟩ | ⟨g2, cap2, cur, e, g1, g2', g3, g4, g5, g6⟩
 · cases e
 · simp only [Value.slice.injEq, Option.some.injEq, Addr.mk.injEq, and_true] at e
   obtain ⟨rfl, rfl, rfl⟩ := e
   exact ⟨cur.toList, ⟨by simpa using g2'⟩, by simpa using g5, g3, g4, g1, g6, rfl⟩
theorem itmCells_gt : ∀ (m : List Itm) (q : Nat), (itmCells m)[q]? = (m[q / 2]?).bind (fun x => (itm2 x)[q % 2]?)
 | [], q => by simp [itmCells]
 | x :: m, 0 => by simp [itmCells, itm2]
 | x :: m, 1 => by simp [itmCells, itm2]
 | x :: m, q + 2 => by
   show (itm2 x ++ itmCells m)[q + 2]? = _
   rw [List.getElem?_append_right (by simp [itm2]), show q + 2 - (itm2 x).length = q by simp [itm2], itmCells_gt m q, show (q + 2) / 2 = q / 2 + 1 by omega, show (q + 2) % 2 = q % 2 by omega, List.getElem?_cons_succ]
theorem itmCells_one (m : List Itm) : ∀ v ∈ itmCells m, v.oneCell' = true := by
 intro v hv
 simp only [itmCells, List.mem_flatMap] at hv
 obtain ⟨x, -, hx⟩ := hv
 simp only [itm2, List.mem_cons, List.not_mem_nil, or_false] at hx
 rcases hx with rfl | rfl <;> rfl
theorem rItms_src {w W : World} {P : Nat → Prop} {vb vo n c : Nat} {m : List Itm} (h : rItms.rd w P [.slice (some ⟨vb, vo, none⟩) n c] m) (hk : W.heap[vb]? = w.heap[vb]?) : ∀ (q : Nat) (u : Value), (itmCells m)[q]? = some u → W.cell? ((⟨vb, vo, none⟩ : Addr).add q) = some u := by
 intro q u hu
 have hq : q / 2 < m.length := by
  rw [itmCells_gt] at hu
  rcases Nat.lt_or_ge (q / 2) m.length with k | k
  · exact k
  · rw [List.getElem?_eq_none k] at hu
    cases hu
 have hn : m.length = n := (rList_len h).1
 obtain ⟨b, off, e, -, -, hat⟩ := rItms_at h (by omega)
 simp only [Option.some.injEq, Addr.mk.injEq, and_true] at e
 obtain ⟨rfl, rfl⟩ := e
 rw [itmCells_gt, List.getElem?_eq_getElem hq] at hu
 simp only [Option.bind_some] at hu
 obtain ⟨c0, c1⟩ := hat (q / 2) hq
 have hcell : ∀ p : Addr, p.block = vb → W.cell? p = w.cell? p := fun p hp => by unfold World.cell?; rw [hp, hk]
 rw [Addr.add_lit, hcell _ rfl]
 rcases Nat.mod_two_eq_zero_or_one q with k | k
 · rw [k] at hu
   simp only [itm2, List.getElem?_cons_zero] at hu
   rw [show vo + q = vo + q / 2 * 2 by omega, c0]
   exact hu
 · rw [k] at hu
   simp only [itm2, List.getElem?_cons_succ, List.getElem?_cons_zero] at hu
   rw [show vo + q = vo + q / 2 * 2 + 1 by omega, c1]
   exact hu
theorem own_of_rowI {w : World} {base g n cap : Nat} {L : List Itm} {cur : List Value} (h : Row w g 45 cur) (hs : cur.length = cap * 2) (hm : cap ≤ maxLen) (hb : base ≤ g) (hl : L.length = n) (hn : n ≤ cap) (hc : cur.take (n * 2) = itmCells L) : OwnI 45 w base (.slice (some ⟨g, 0, none⟩) n cap) L :=
 (RepI.mk h hs hn hm hb hc hl).own
namespace Tr
def insOf (l : List Itm) (i : Nat) (m : List Itm) : List Itm := l.take i ++ m ++ l.drop i
end Tr
set_option maxHeartbeats 1000000 in
theorem insert_end (w : World) (base : Nat) (a : Option Addr) (n cap : Nat) (l : List Itm) (hO : OwnI 45 w base (.slice a n cap) l) (P : Nat → Prop) (vb vo n' c' : Nat) (m : List Itm) (hV : rItms.rd w P [.slice (some ⟨vb, vo, none⟩) n' c'] m) (hp' : 0 < n') (hn : n ≤ 1000) (hn' : n' ≤ 1000) (hb : base ≤ w.heap.size) :
 Calls Tryz.prog 38 #[.slice a n cap, .int .i64 (n : Int), .slice (some ⟨vb, vo, none⟩) n' c'] w fun e w' => ∃ ra rn rc, e = .returned (.slice ra rn rc) ∧ OwnI 45 w' base (.slice ra rn rc) (Tr.insOf l n m) ∧ Grew w w' (.slice a n cap) (.slice ra rn rc) := by
 obtain ⟨x, y, e0, hnc, hnil⟩ := hO.slice
 simp only [Value.slice.injEq] at e0
 obtain ⟨rfl, hl, rfl⟩ := e0
 have hml : m.length = n' := (rList_len hV).1
 have HI : Hid (Tr.insOf l n m = l ++ m) := by
  unfold Hid Tr.insOf
  rw [List.take_of_length_le (by omega), List.drop_of_length_le (by omega), List.append_nil]
 obtain ⟨v5, w5, hr5, ho5, g5⟩ := run_append_itms hO hV (by omega) hb 36
 obtain ⟨ra, rc, rfl, -⟩ := ho5.slice
 obtain ⟨rn, hrn⟩ : ∃ rn, (l ++ m).length = rn := ⟨_, rfl⟩
 rw [hrn] at hr5 ho5 g5
 have HRun : Hid _ := hr5
 have HO : Hid (OwnI 45 w5 base (.slice ra rn rc) (Tr.insOf l n m)) := by rw [HI.out]; exact ho5
 have HG : Hid _ := g5
 have hz : ((n' : Int) == 0) = false := beq_eq_false_iff_ne.2 (by omega)
 have hz2 : (n : Int) ≤ (n : Int) := Int.le_refl _
 have hz3 : (n : Int) ≤ (cap : Int) := by omega
 clear hr5 ho5 g5 hrn hO hV HI hl hml
 by_cases hcn : cap = n
 · subst hcn
   go_enter Tryz.func38, Tryz.ntmps38
   go_wp2_with (at_builtin; refine Lib.wpList_append_run _ rfl _ _ _ _ rfl _ _ rfl rfl _ _ HRun.out ?_)
   go_ret
   exact ⟨ra, rn, rc, rfl, HO.out, HG.out⟩
 · go_enter Tryz.func38, Tryz.ntmps38
   go_wp2_with (at_builtin; refine Lib.wpList_append_run _ rfl _ _ _ _ rfl _ _ rfl rfl _ _ HRun.out ?_)
   go_ret
   exact ⟨ra, rn, rc, rfl, HO.out, HG.out⟩
set_option maxHeartbeats 1000000 in
theorem insert_grow (w : World) (base g n cap i : Nat) (l : List Itm) (cur : List Value) (hR : RepI w base g n cap l cur) (P : Nat → Prop) (vb vo n' c' : Nat) (m : List Itm) (hV : rItms.rd w P [.slice (some ⟨vb, vo, none⟩) n' c'] m) (hvg : vb ≠ g) (hp' : 0 < n') (p tot : Nat) (hjp : n - i = p) (hj : i < n) (htot : tot = i + n' + p) (hn : n ≤ 1000) (hn' : n' ≤ 1000) (hb : base ≤ w.heap.size) (hcase : cap < tot) :
 Calls Tryz.prog 38 #[.slice (some ⟨g, 0, none⟩) n cap, .int .i64 (i : Int), .slice (some ⟨vb, vo, none⟩) n' c'] w fun e w' => ∃ ra rn rc, e = .returned (.slice ra rn rc) ∧ OwnI 45 w' base (.slice ra rn rc) (Tr.insOf l i m) ∧ Grew w w' (.slice (some ⟨g, 0, none⟩) n cap) (.slice ra rn rc) := by
 have hcap := hR.le
 have hml : m.length = n' := (rList_len hV).1
 have hzz : ((n' : Int) == 0) = false := beq_eq_false_iff_ne.2 (by omega)
 have hz0 : ((i : Int) == (n : Int)) = false := beq_eq_false_iff_ne.2 (by omega)
 have hz2 : (i : Int) ≤ (i : Int) := by omega
 have hz3 : (i : Int) ≤ (cap : Int) := by omega
 have hz4 : (i : Int) ≤ (cap : Int) := by omega
 have hz5 : (i : Int) ≤ (n : Int) := by omega
 have hne3 : ¬ (cap = i) := by omega
 have hne4 : ¬ (cap = i) := by omega
 obtain ⟨q, hq⟩ : ∃ q, q = i + n' := ⟨_, rfl⟩
 have hw1 : IntKind.i64.wrap ((i : Int) + (n' : Int)) = (q : Int) := by rw [IntKind.wrap_i64]; omega
 have hw2 : IntKind.i64.wrap ((n : Int) + (n' : Int)) = (tot : Int) := by rw [IntKind.wrap_i64]; omega
 have hcl : (itmCells m).length = n' * 2 := by rw [itmCells_length, hml]
 have hdl : (itmCells (l.drop i)).length = p * 2 := by rw [itmCells_length, List.length_drop, hR.len, hjp]
 have hct : cur.take (i * 2) = itmCells (l.take i) := by rw [itmCells_take, ← hR.cells, List.take_take, Nat.min_eq_left (by omega)]
 have hlL : (Tr.insOf l i m).length = tot := by unfold Tr.insOf; rw [List.length_append, List.length_append, List.length_take, List.length_drop, hR.len, hml]; omega
 have hcL : itmCells (Tr.insOf l i m) = cur.take (i * 2) ++ itmCells m ++ itmCells (l.drop i) := by unfold Tr.insOf; rw [itmCells_append, itmCells_append, hct]
 have hjc : ∀ (k : Nat) (u : Value), (itmCells (l.drop i))[k]? = some u → cur[i * 2 + k]? = some u := fun k u hu => by
  rw [itmCells_drop, ← hR.cells, List.getElem?_drop, List.getElem?_take] at hu
  split at hu
  · exact hu
  · cases hu
 obtain ⟨r, hr0⟩ : ∃ r, r = n' + p := ⟨_, rfl⟩
 have hw3 : IntKind.i64.wrap ((tot : Int) - (i : Int)) = (r : Int) := by rw [IntKind.wrap_i64]; omega
 have hir : i + r = tot := by omega
 have hgt : (tot : Int) > (cap : Int) := by omega
 obtain ⟨ht, ti, tz, hti, htz, hsize, hby, hzs, hpos⟩ := elem_itm
 have hsz2 : ti.size = 2 := hsize
 have hby2 : ti.bytes = 16 := hby
 have hzs2 : tz.cells.size = 2 := hzs
 have hol : (cur.take (i * 2)).length = i * 2 := by rw [List.length_take, hR.size]; omega
 have hrun := Lib.run_append_grow_zeros (P := Tryz.prog) w 36 3 36 45 ti tz .i64 .i64 ht Tryz.underlying3 hti htz (some ⟨g, 0, none⟩) i cap (cur.take (i * 2)) (run_firstCells_some (P := Tryz.prog) w.drew ti.size i ⟨g, 0, none⟩ i cap (cur.take (i * 2)) (by rw [hol, hsz2]) (fun k u hu => by
  rw [Addr.add_lit, Nat.zero_add]
  refine (hR.row.keep (w' := w.drew) rfl).cell ?_
  rw [List.getElem?_take] at hu
  split at hu
  · exact hu
  · cases hu)) r (by omega) (by omega) (by omega) (by omega) (by rw [hby2]; omega) (growslice_fits (by omega) (by rw [hby2]; omega))
 rw [hir] at hrun
 obtain ⟨cap2, hcap2⟩ : ∃ cap2, cap2 = grownCap w tot cap 45 := ⟨_, rfl⟩
 rw [← hcap2] at hrun
 have hc2 : tot ≤ cap2 := by rw [hcap2]; exact grownCap_ge _ _ _ _
 have hc3 : cap2 ≤ maxLen := by rw [hcap2]; exact grownCap_le_maxLen _ _ _ _ (by unfold maxLen; omega)
 obtain ⟨cur5, hcur5⟩ : ∃ cur5 : List Value, cur5 = ((cur.take (i * 2)).toArray ++ Builtin.zeroCells tz.cells r ++ Builtin.zeroCells tz.cells (cap2 - tot)).toList := ⟨_, rfl⟩
 have hl5 : cur5.length = cap2 * 2 := by
  rw [hcur5, Array.length_toList, Array.size_append, Array.size_append, size_zeroCells, size_zeroCells, hzs2, List.size_toArray, hol]
  omega
 have ht5 : cur5.take (i * 2) = cur.take (i * 2) := by
  rw [hcur5, Array.toList_append, Array.toList_append, List.append_assoc]
  rw [List.take_append_of_le_length (by simp [hR.size]; omega)]
  simp [List.take_take]
 obtain ⟨w5, hw5⟩ : ∃ w5, w.drew.alloc (.cells ((cur.take (i * 2)).toArray ++ Builtin.zeroCells tz.cells r ++ Builtin.zeroCells tz.cells (cap2 - tot)) 45) = w5 := ⟨_, rfl⟩
 rw [hw5] at hrun
 have R5 : Row w5 w.heap.size 45 cur5 := by
  rw [← hw5, hcur5]
  have := row_new w.drew 45 ((cur.take (i * 2)).toArray ++ Builtin.zeroCells tz.cells r ++ Builtin.zeroCells tz.cells (cap2 - tot)).toList
  rw [Array.toArray_toList] at this
  exact this
 have b5 : Below w.heap.size w w5 := by rw [← hw5]; exact ((Below.refl _ _).drew).alloc (Nat.le_refl _) _
 have hgw : g < w.heap.size := hR.row.lt
 have hvw : vb < w.heap.size := by
  obtain ⟨b, off, e, -, h, -⟩ := rItms_at hV hp'
  simp only [Option.some.injEq, Addr.mk.injEq, and_true] at e
  rw [e.1]; exact h
 obtain ⟨w6, hr6, R6, K6, S6⟩ := copy_run2 (Pr := Tryz.prog) w5 36 36 3 45 Tryz.underlying36 (by kernel_rfl) (some ⟨w.heap.size, i * 2, none⟩) (some ⟨vb, vo, none⟩) (tot - i) (cap2 - i) n' c' w.heap.size (i * 2) cur5 _ R5 (itmCells m) (by rw [hcl, show Nat.min n' (tot - i) = n' from Nat.min_eq_left (by omega)]) (fun _ => ⟨rfl, _, rfl, rItms_src hV (b5.block vb hvw)⟩) (by rw [hcl, hl5]; omega) (itmCells_one m)
 have hl6 : (splice cur5 (i * 2) (itmCells m)).length = cap2 * 2 := by rw [length_splice _ _ _ (by rw [hcl, hl5]; omega), hl5]
 have b6 : Below w.heap.size w w6 := Kept.belowOf b5 K6 (Nat.le_refl _)
 have Rg : Row w6.drew g 45 cur := (hR.row.below (w' := w6) b6).keep rfl
 obtain ⟨w7, hr7, R7, K7, S7⟩ := copy_run2 (Pr := Tryz.prog) w6.drew 36 36 3 45 Tryz.underlying36 (by kernel_rfl) (some ⟨w.heap.size, q * 2, none⟩) (some ⟨g, i * 2, none⟩) (tot - q) (cap2 - q) p (cap - i) w.heap.size (q * 2) _ _ (R6.keep (w' := w6.drew) rfl) (itmCells (l.drop i)) (by rw [hdl, show Nat.min p (tot - q) = p from Nat.min_eq_left (by omega)]) (fun _ => ⟨rfl, _, rfl, fun k u hu => by rw [Addr.add_lit]; exact Rg.cell (hjc k u hu)⟩) (by rw [hdl, hl6]; omega) (itmCells_one _)
 have HO : Hid (OwnI 45 w7 base (.slice (some ⟨w.heap.size, 0, none⟩) tot cap2) (Tr.insOf l i m)) := by
  refine own_of_rowI R7 ?_ hc3 hb hlL hc2 ?_
  · rw [length_splice _ _ _ (by rw [hdl, hl6]; omega), hl6]
  · rw [hcL, show tot * 2 = q * 2 + (itmCells (l.drop i)).length by rw [hdl]; omega, take_splice (by rw [hl6]; omega), show q * 2 = i * 2 + (itmCells m).length by rw [hcl]; omega, take_splice (by rw [hl5]; omega), ht5]
 have HG : Hid (Grew w w7 (.slice (some ⟨g, 0, none⟩) n cap) (.slice (some ⟨w.heap.size, 0, none⟩) tot cap2)) := by
  have b7 : Below w.heap.size w w7 := Kept.belowOf b6.drew K7 (Nat.le_refl _)
  refine ⟨⟨b7.os, b7.tape, b7.output, b7.size, fun x hx _ => b7.block x hx⟩, fun b e => .inr ?_⟩
  cases e
  exact Nat.le_refl _
 have HRun : Hid _ := hrun
 have HC7 : Hid _ := hr7
 have hti1 : (tot : Int) ≤ (cap2 : Int) := by omega
 have hqt : q < tot := by omega
 have hne1 : ¬ (cap2 = q) := by omega
 have hne2 : ¬ (cap2 = i) := by omega
 have hit : i < tot := by omega
 have hqi : (q : Int) ≤ (tot : Int) := by omega
 have hii : (i : Int) ≤ (tot : Int) := by omega
 clear ht hti htz hsize hby hzs hpos hsz2 hby2 hzs2 hrun hr7 hw5 hcur5 ht5 hl5 R5 R6 R7 K6 K7 S6 S7 Rg b5 b6 hl6 hc3 hcap2 hol hR hV hcl hdl hct hlL hcL hjc hml htot hq hr0 hir hgw hvw hcase
 go_enter Tryz.func38, Tryz.ntmps38
 go_wp2_with (at_builtin; refine Lib.wpList_append_run _ rfl _ _ _ _ rfl _ _ rfl rfl _ _ HRun.out ?_)
 refine wp_region_held_drew (S := (fun _ : World => True)) (by kernel_rfl) (trivial) (fun hH => ?_)
 refine tkM 0 _ rfl rfl ?_; simp only [sz, ss]
 refine tkM 1 _ rfl rfl ?_; simp only [sz, ss]
 refine tkM 2 _ rfl rfl ?_; simp only [sz, ss]
 refine tkM 3 _ rfl rfl ?_; simp only [sz, ss]
 refine tkM 4 _ rfl rfl ?_; simp only [sz, ss]
 refine tkM 5 _ rfl rfl ?_; simp only [sz, ss]
 refine tkM 6 _ rfl rfl ?_; simp only [sz, ss]
 refine tkM 7 _ rfl rfl ?_; simp only [sz, ss]
 refine r1L 8 rfl fun K hK => ?_
 · refine held_copy rfl rfl (.tmp 50) (.tmp 53) _ rfl (.slice (some ⟨w.heap.size, q * 2, none⟩) (tot - q) (cap2 - q)) (.slice (some ⟨g, i * 2, none⟩) p (cap - i)) _ rfl rfl HC7.out ?_
   refine hK.out _ _ ?_ (fun hH => ?_)
   · try dsimp only
     all_goals trivial
   clear hK K
   refine wpAnyH_done (by kernel_rfl) ?_ _
   clear hH
   go_wp2
   go_ret
   exact ⟨_, _, _, rfl, HO.out, HG.out⟩
set_option maxHeartbeats 1000000 in
theorem insert_up (w : World) (base g n cap i : Nat) (l : List Itm) (cur : List Value) (hR : RepI w base g n cap l cur) (P : Nat → Prop) (vb vo n' c' : Nat) (m : List Itm) (hV : rItms.rd w P [.slice (some ⟨vb, vo, none⟩) n' c'] m) (hvg : vb ≠ g) (cv : List Value) (hVr : Row w vb 45 cv) (hp' : 0 < n') (p tot : Nat) (hjp : n - i = p) (hj : i < n) (htot : tot = i + n' + p) (hn : n ≤ 1000) (hn' : n' ≤ 1000) (hb : base ≤ w.heap.size) (hcase : tot ≤ cap) :
 Calls Tryz.prog 38 #[.slice (some ⟨g, 0, none⟩) n cap, .int .i64 (i : Int), .slice (some ⟨vb, vo, none⟩) n' c'] w fun e w' => ∃ ra rn rc, e = .returned (.slice ra rn rc) ∧ OwnI 45 w' base (.slice ra rn rc) (Tr.insOf l i m) ∧ Grew w w' (.slice (some ⟨g, 0, none⟩) n cap) (.slice ra rn rc) := by
 have hcap := hR.le
 have hml : m.length = n' := (rList_len hV).1
 have hzz : ((n' : Int) == 0) = false := beq_eq_false_iff_ne.2 (by omega)
 have hz0 : ((i : Int) == (n : Int)) = false := beq_eq_false_iff_ne.2 (by omega)
 have hz2 : (i : Int) ≤ (i : Int) := by omega
 have hz3 : (i : Int) ≤ (cap : Int) := by omega
 have hz4 : (i : Int) ≤ (cap : Int) := by omega
 have hz5 : (i : Int) ≤ (n : Int) := by omega
 have hne3 : ¬ (cap = i) := by omega
 have hne4 : ¬ (cap = i) := by omega
 obtain ⟨q, hq⟩ : ∃ q, q = i + n' := ⟨_, rfl⟩
 have hw1 : IntKind.i64.wrap ((i : Int) + (n' : Int)) = (q : Int) := by rw [IntKind.wrap_i64]; omega
 have hw2 : IntKind.i64.wrap ((n : Int) + (n' : Int)) = (tot : Int) := by rw [IntKind.wrap_i64]; omega
 have hcl : (itmCells m).length = n' * 2 := by rw [itmCells_length, hml]
 have hdl : (itmCells (l.drop i)).length = p * 2 := by rw [itmCells_length, List.length_drop, hR.len, hjp]
 have hct : cur.take (i * 2) = itmCells (l.take i) := by rw [itmCells_take, ← hR.cells, List.take_take, Nat.min_eq_left (by omega)]
 have hlL : (Tr.insOf l i m).length = tot := by unfold Tr.insOf; rw [List.length_append, List.length_append, List.length_take, List.length_drop, hR.len, hml]; omega
 have hcL : itmCells (Tr.insOf l i m) = cur.take (i * 2) ++ itmCells m ++ itmCells (l.drop i) := by unfold Tr.insOf; rw [itmCells_append, itmCells_append, hct]
 have hjc : ∀ (k : Nat) (u : Value), (itmCells (l.drop i))[k]? = some u → cur[i * 2 + k]? = some u := fun k u hu => by
  rw [itmCells_drop, ← hR.cells, List.getElem?_drop, List.getElem?_take] at hu
  split at hu
  · exact hu
  · cases hu
 have hngt : ¬ ((tot : Int) > (cap : Int)) := by omega
 have hwd : (tot : Int) ≤ (cap : Int) := by omega
 have hqj : ¬ ((q : Int) ≤ (i : Int)) := by omega
 have R0 : Row w g 45 cur := hR.row.keep rfl
 have HR0 : Hid _ := R0
 obtain ⟨w5, hr5, R5, K5, S5⟩ := copy_run2 (Pr := Tryz.prog) w.drew 36 36 3 45 Tryz.underlying36 (by kernel_rfl) (some ⟨g, q * 2, none⟩) (some ⟨g, i * 2, none⟩) (tot - q) (cap - q) (tot - i) (cap - i) g (q * 2) cur _ (R0.keep (w' := w.drew) rfl) (itmCells (l.drop i)) (by rw [hdl, show Nat.min (tot - i) (tot - q) = p from (by rw [show Nat.min (tot - i) (tot - q) = tot - q from Nat.min_eq_right (by omega)]; omega)]) (fun _ => ⟨rfl, _, rfl, fun k u hu => by
  rw [Addr.add_lit]
  exact (R0.keep (w' := w.drew) rfl).cell (hjc k u hu)⟩) (by rw [hdl, hR.size]; omega) (itmCells_one _)
 have hl5 : (splice cur (q * 2) (itmCells (l.drop i))).length = cap * 2 := by rw [length_splice _ _ _ (by rw [hdl, hR.size]; omega), hR.size]
 obtain ⟨w6, hr6, R6, K6, S6⟩ := copy_run2 (Pr := Tryz.prog) w5 36 36 3 45 Tryz.underlying36 (by kernel_rfl) (some ⟨g, i * 2, none⟩) (some ⟨vb, vo, none⟩) (tot - i) (cap - i) n' c' g (i * 2) _ _ R5 (itmCells m) (by rw [hcl, show Nat.min n' (tot - i) = n' from Nat.min_eq_left (by omega)]) (fun _ => ⟨rfl, _, rfl, rItms_src hV (K5.block vb hvg)⟩) (by rw [hcl, hl5]; omega) (itmCells_one m)
 have hl6 : (splice (splice cur (q * 2) (itmCells (l.drop i))) (i * 2) (itmCells m)).length = cap * 2 := by rw [length_splice _ _ _ (by rw [hcl, hl5]; omega), hl5]
 have HO : Hid (OwnI 45 w6 base (.slice (some ⟨g, 0, none⟩) tot cap) (Tr.insOf l i m)) := by
  refine own_of_rowI R6 hl6 hR.most hR.base_ hlL (by omega) ?_
  rw [hcL]
  have e1 : (splice cur (q * 2) (itmCells (l.drop i))).take (i * 2) = cur.take (i * 2) := take_splice_lt (by omega) (by rw [hR.size]; omega)
  have e2 : (splice cur (q * 2) (itmCells (l.drop i))).drop (q * 2) = itmCells (l.drop i) ++ cur.drop (q * 2 + (itmCells (l.drop i)).length) := drop_splice (by rw [hR.size]; omega)
  conv => lhs; rw [splice, e1, show i * 2 + (itmCells m).length = q * 2 by rw [hcl]; omega, e2]
  have e3 : (cur.take (i * 2) ++ itmCells m ++ itmCells (l.drop i)).length = tot * 2 := by rw [List.length_append, List.length_append, List.length_take, hR.size, hcl, hdl]; omega
  rw [← e3]
  simp only [← List.append_assoc]
  exact List.take_left
 have HG : Hid (Grew w w6 (.slice (some ⟨g, 0, none⟩) n cap) (.slice (some ⟨g, 0, none⟩) tot cap)) := by
  refine ⟨⟨K6.os.trans K5.os, K6.tape.trans K5.tape, K6.output.trans K5.output, Nat.le_trans K5.size K6.size, fun x hx hne => ?_⟩, fun b e => .inl e⟩
  have hxg : x ≠ g := fun e => hne (by rw [e]; rfl)
  exact (K6.block x hxg).trans (K5.block x hxg)
 have HC5 : Hid _ := hr5
 have hqi : (q : Int) ≤ (tot : Int) := by omega
 have hii : (i : Int) ≤ (tot : Int) := by omega
 have hqt : q < tot := by omega
 have hit : i < tot := by omega
 have hne1 : ¬ (cap = q) := by omega
 have hsb : w.shape? g = some (45, cap * 2) := by
  unfold World.shape?
  rw [R0.eq, ← hR.size]
  rfl
 have hsa : w.shape? vb = some (45, cv.length) := by
  unfold World.shape?
  rw [hVr.eq]
  rfl
 have hov : (callFunc 56 #[.slice (some ⟨vb, vo, none⟩) n' c', .slice (some ⟨g, q * 2, none⟩) (tot - q) (cap - q)]).run Tryz.prog w = .ok (.value (.bool false)) w := by
  rw [run_callFunc_extern Tryz.func56 (by kernel_rfl) (by kernel_rfl) (by kernel_rfl) (e := Extern.SlicesOverlaps.overlaps #[36, 36] #[4]) (by kernel_rfl),
   Lib.run_overlaps_apart w 36 4 45 Tryz.underlying36 2 (fun w => by kernel_rfl) ⟨vb, vo, none⟩ ⟨g, q * 2, none⟩ n' c' (tot - q) (cap - q) hvg _ _ _ _ hsa hsb (by omega) (hVr.frozen _) (hVr.frozen _)]
  rfl
 clear hsa hsb hVr
 clear hr5 R0 R5 R6 K5 K6 S5 S6 hl5 hl6 hR hV hcl hdl hct hlL hcL hjc hml htot hq hcase
 go_enter Tryz.func38, Tryz.ntmps38
 go_wp2_with fail
 refine wp_region_held_drew (S := (fun _ : World => True)) (by kernel_rfl) (trivial) (fun hH => ?_)
 refine tkM 0 _ rfl rfl ?_; simp only [sz, ss]
 refine tkM 1 _ rfl rfl ?_; simp only [sz, ss]
 refine tkM 2 _ rfl rfl ?_; simp only [sz, ss]
 refine tkM 3 _ rfl rfl ?_; simp only [sz, ss]
 refine tkM 4 _ rfl rfl ?_; simp only [sz, ss]
 refine tkM 5 _ rfl rfl ?_; simp only [sz, ss]
 refine tkM 6 _ rfl rfl ?_; simp only [sz, ss]
 refine tkM 7 _ rfl rfl ?_; simp only [sz, ss]
 refine r1L 8 rfl fun K hK => ?_
 · refine held_copy rfl rfl (.tmp 73) (.tmp 76) _ rfl (.slice (some ⟨g, q * 2, none⟩) (tot - q) (cap - q)) (.slice (some ⟨g, i * 2, none⟩) (tot - i) (cap - i)) _ rfl rfl HC5.out ?_
   refine hK.out _ _ ?_ (fun hH => ?_)
   · try dsimp only
     all_goals trivial
   clear hK K
   refine wpAnyH_done (by kernel_rfl) ?_ _
   clear hH
   go_wp2
   go_ret
   exact ⟨_, _, _, rfl, HO.out, HG.out⟩
theorem insert_u (w : World) (base : Nat) (a : Option Addr) (n cap i : Nat) (l : List Itm) (hO : OwnI 45 w base (.slice a n cap) l) (P : Nat → Prop) (vb n' c' : Nat) (m : List Itm) (hV : rItms.rd w P [.slice (some ⟨vb, 0, none⟩) n' c'] m) (hvg : (Value.slice a n cap).ownBlock ≠ some vb) (cv : List Value) (hVr : Row w vb 45 cv) (hp' : 0 < n') (hi : i ≤ n) (hn : n ≤ 1000) (hn' : n' ≤ 1000) (hb : base ≤ w.heap.size) :
 Calls Tryz.prog 38 #[.slice a n cap, .int .i64 (i : Int), .slice (some ⟨vb, 0, none⟩) n' c'] w fun e w' => ∃ ra rn rc, e = .returned (.slice ra rn rc) ∧ OwnI 45 w' base (.slice ra rn rc) (Tr.insOf l i m) ∧ Grew w w' (.slice a n cap) (.slice ra rn rc) := by
 by_cases h1 : i = n
 · subst h1
   exact insert_end w base a i cap l hO P vb 0 n' c' m hV hp' hn hn' hb
 obtain ⟨g, rfl⟩ : ∃ g, a = some ⟨g, 0, none⟩ := by
  rcases hO.row.2 with ⟨e, h0⟩ | ⟨g, c2, cur, e, -⟩
  · simp only [Value.slice.injEq] at e; omega
  · simp only [Value.slice.injEq] at e
    exact ⟨g, e.1⟩
 have hv : vb ≠ g := fun e => hvg (by rw [e]; rfl)
 obtain ⟨cur, hR⟩ := hO.repI
 by_cases h2 : cap < i + n' + (n - i)
 · exact insert_grow w base g n cap i l cur hR P vb 0 n' c' m hV hv hp' (n - i) _ rfl (by omega) rfl hn hn' hb h2
 · exact insert_up w base g n cap i l cur hR P vb 0 n' c' m hV hv cv hVr hp' (n - i) _ rfl (by omega) rfl hn hn' hb (by omega)
theorem RepI.set {w : World} {base g n cap : Nat} {l : List Itm} {cur : List Value} (h : RepI w base g n cap l cur) {i : Nat} (hi : i < n) (x : Itm) :
 RepI ((w.setCell ⟨g, i * 2, none⟩ (.int .u64 (x.1.toNat : Int))).setCell ⟨g, i * 2 + 1, none⟩ (.int .u64 (x.2.toNat : Int))) base g n cap (l.set i x) ((cur.set (i * 2) (.int .u64 (x.1.toNat : Int))).set (i * 2 + 1) (.int .u64 (x.2.toNat : Int))) := by
 have hl := h.len
 refine ⟨(h.row.set _ _).set _ _, by rw [List.length_set, List.length_set]; exact h.size, h.le, h.most, h.base_, ?_, by rw [List.length_set]; exact hl⟩
 rw [List.take_set, List.take_set, h.cells, itmCells_set1 l i (by omega) x.1, itmCells_set2 _ i (by rw [List.length_set]; omega) x.2]
 congr 1
 simp [List.set_set]
theorem rise_up {l : List Itm} (h : Lf.rise l = true) : Tr.Up l := Tr.up_of_rise h
set_option maxHeartbeats 1000000 in
theorem put1_turner (x : Itm) (bx B : Nat) (hb : bx < B) : Turner (Tr.putT x) 35 #[.pointer (some ⟨bx, 0, none⟩)] B (fun w => Row w bx 45 [.int .u64 (x.1.toNat : Int), .int .u64 (x.2.toNat : Int)]) := by
 refine ⟨enters_of Tryz.func35 (by kernel_rfl) rfl, (fun l h => Nat.le_trans (Tr.putT_few x l) (by omega)), (fun h k => h.keep (k.block _ hb)), ?_⟩
 intro w base a n c l hJ hB hbase hO hl3 hrise
 have hup := rise_up hrise
 have HX : Hid _ := hJ
 have HO : Hid _ := hO
 have HU : Hid (Tr.Up l) := hup
 have hn : n = l.length := by obtain ⟨p, q, e, -⟩ := hO.slice; simp only [Value.slice.injEq] at e; exact e.2.1
 have HN : Hid (n = l.length) := hn
 have hn3 : n ≤ 3 := by omega
 obtain ⟨x0, x1⟩ := HX.out.two
 have hc := bin_u w (fun b => base ≤ b) a n c l (hO.rd (by omega)) (by omega) hup x.1
 have HB : Hid (B ≤ base ∧ base ≤ w.heap.size ∧ bx < B) := ⟨hB, hbase, hb⟩
 show Calls Tryz.prog 35 #[.slice a n c, .pointer (some ⟨bx, 0, none⟩)] w _
 obtain ⟨i, hi⟩ : ∃ i, i = Tr.cnt x.1 l := ⟨_, rfl⟩
 have HI : Hid (i = Tr.cnt x.1 l) := hi
 rw [← hi] at hc
 have hin : i ≤ n := by rw [hi, hn]; exact Tr.cnt_le _ _
 cases hh : Tr.has x.1 l with
 | true =>
   rw [hh] at hc
   obtain ⟨hj, -⟩ := (Tr.has_iff hup).1 hh
   have hlt : i < n := by rw [hi, hn]; exact hj
   have HP : Hid (l.set i x = Tr.putT x l) := by unfold Hid; rw [hi]; exact Tr.putT_old hup hh
   have hiz : (i : Int) < (n : Int) := by omega
   have hi0 : (0 : Int) ≤ (i : Int) := Int.natCast_nonneg _
   obtain ⟨g, rfl⟩ : ∃ g, a = some ⟨g, 0, none⟩ := by
    rcases hO.row.2 with ⟨e, h0⟩ | ⟨g, c2, cur, e, -⟩
    · simp only [Value.slice.injEq] at e; omega
    · simp only [Value.slice.injEq] at e
      exact ⟨g, e.1⟩
   clear hJ hO hup hi hn hh hj hrise hl3 hB hbase hb
   go_enter Tryz.func35, Tryz.ntmps35
   go_wp2_with fail
   go_at_call 36
   refine hc.mono ?_
   rintro e w2 ⟨rfl, b2⟩
   obtain ⟨cur, R2⟩ := (HO.out.below b2).repI
   have HR2 : Hid _ := R2
   have HR3 : Hid _ := R2.set hlt x
   have HG : Hid (Grew w ((w2.setCell ⟨g, i * 2, none⟩ (.int .u64 (x.1.toNat : Int))).setCell ⟨g, i * 2 + 1, none⟩ (.int .u64 (x.2.toNat : Int))) (.slice (some ⟨g, 0, none⟩) n c) (.slice (some ⟨g, 0, none⟩) n c)) := by
    have K : Kept (· ≠ g) w2 ((w2.setCell ⟨g, i * 2, none⟩ (.int .u64 (x.1.toNat : Int))).setCell ⟨g, i * 2 + 1, none⟩ (.int .u64 (x.2.toNat : Int))) := ((Kept.refl _ w2).setCell (p := ⟨g, i * 2, none⟩) (fun h => h rfl) _).setCell (p := ⟨g, i * 2 + 1, none⟩) (fun h => h rfl) _
    refine ⟨⟨K.os.trans b2.os, K.tape.trans b2.tape, K.output.trans b2.output, Nat.le_trans b2.size K.size, fun q hq hne => ?_⟩, fun b e => .inl e⟩
    have hqg : q ≠ g := fun e => hne (by rw [e]; rfl)
    exact (K.block q hqg).trans (b2.block q hq)
   obtain ⟨z0, z1⟩ := (HX.out.below b2).two
   have f0 := R2.row.frozen (i * 2)
   have f1 := R2.row.frozen (i * 2 + 1)
   have hlen : i * 2 + 1 < cur.length := by rw [R2.size]; have := R2.le; omega
   obtain ⟨y0, hy0⟩ : ∃ y, w2.cell? ⟨g, i * 2, none⟩ = some y := ⟨_, R2.row.cell (List.getElem?_eq_getElem (by omega))⟩
   obtain ⟨y1, hy1⟩ : ∃ y, w2.cell? ⟨g, i * 2 + 1, none⟩ = some y := ⟨_, R2.row.cell (List.getElem?_eq_getElem hlen)⟩
   clear b2 R2 x0 x1 hc hlen
   go_wp2
   go_ret
   exact ⟨_, _, _, rfl, by rw [← HP.out]; exact HR3.out.own, HG.out⟩
 | false =>
   rw [hh] at hc
   have HP : Hid (Tr.insOf l i [x] = Tr.putT x l) := by unfold Hid; rw [hi]; exact Tr.putT_new hup hh
   clear hJ hO hup hi hn hh hrise hl3 hB hbase hb
   go_enter Tryz.func35, Tryz.ntmps35
   go_wp2_with fail
   go_at_call 36
   refine hc.mono ?_
   rintro e w2 ⟨rfl, b2⟩
   obtain ⟨w3, hw3, V3r, b3, z3⟩ := boxedRow w2 45 [.int .u64 (x.1.toNat : Int), .int .u64 (x.2.toNat : Int)]
   have V3 : Hid _ := V3r
   have HO3 : Hid _ := (HO.out.below b2).below b3
   have HOV : Hid (OwnI 45 w3 w2.heap.size (.slice (some ⟨w2.heap.size, 0, none⟩) 1 1) [x]) := OwnI.ofRow (l := [x]) V3r rfl (Nat.le_refl _) (by omega)
   have HV : Hid ((Value.slice a n c).ownBlock ≠ some w2.heap.size) := fun e => by have := ((HO.out.below b2).row.lt _ e).2; omega
   have HB3 : Hid (Below w.heap.size w w3) := on b2 b3
   have HNb : Hid (∀ b, (Value.slice a n c).ownBlock = some b → b < w.heap.size) := fun b e => (HO.out.row.lt b e).2
   obtain ⟨z0, z1⟩ := (HX.out.below b2).two
   clear b2 b3 V3r z3 x0 x1 hc
   go_wp2_with fail
   go_at_call 38
   refine (insert_u w3 base a n c i l HO3.out _ w2.heap.size 1 1 [x] (HOV.out.rd (by simp)) HV.out _ V3.out (by omega) hin (by omega) (by omega) (by have := HB.out; have := HB3.out.size; omega)).mono ?_
   rintro e w4 ⟨ra, rn, rc, rfl, ho, gr⟩
   have HG : Hid (Grew w w4 (.slice a n c) (.slice ra rn rc)) := by
    have b3 := HB3.out
    refine ⟨⟨gr.grown.os.trans b3.os, gr.grown.tape.trans b3.tape, gr.grown.output.trans b3.output, Nat.le_trans b3.size gr.grown.size, fun q hq hne => (gr.grown.block q (by have := b3.size; omega) hne).trans (b3.block q hq)⟩, fun b e => ?_⟩
    rcases gr.place b e with k | k
    · exact .inl k
    · exact .inr (by have := b3.size; omega)
   have HO4 : Hid _ := ho
   clear ho gr
   go_wp2
   go_ret
   exact ⟨_, _, _, rfl, by rw [← HP.out]; exact HO4.out, HG.out⟩
end Go.Proofs.YtkbmadoaomoojaaGreat
