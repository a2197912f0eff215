/-
  The landed refs: how often each sector is referred to. Conditions: those that each contract names.
-/
import Derived.Test.YtinlgoljaiolnabNLay
import Derived.Test.YtinlgoljaiolnabNSort
import Derived.Test.YtinlgoljaiolnabNMay
namespace Go.Proofs.Ytinlgoljaiolnab
open Go.RowKit
set_option linter.unusedVariables false

theorem Rf.edges_mem {l : List Rfr} (h : ∀ x ∈ l, Rf.Low x) : ∀ e ∈ Rf.edges l, 0 ≤ e.1 ∧ e.1 ≤ 65536 ∧ -1 ≤ e.2 ∧ e.2 ≤ 1 := by
  intro e he
  unfold Rf.edges at he
  obtain ⟨x, hx, hex⟩ := List.mem_flatMap.1 he
  have hl := h x hx
  unfold Rf.Low at hl
  simp only [List.mem_cons, List.not_mem_nil, or_false] at hex
  rcases hex with rfl | rfl <;> simp only <;> omega

theorem Rf.edges_len (l : List Rfr) : (Rf.edges l).length = 2 * l.length := by
  unfold Rf.edges
  induction l with
  | nil => rfl
  | cons x l ih => rw [List.flatMap_cons, List.length_append, ih]; simp; omega

theorem Rf.edges_take {l : List Rfr} {q : Nat} (hq : q < l.length) : Rf.edges (l.take (q + 1)) = Rf.edges (l.take q) ++ [(l[q].1, 1), (l[q].1 + l[q].2.1, -1)] := by
  rw [List.take_succ_eq_append_getElem hq]
  unfold Rf.edges
  rw [List.flatMap_append]
  rfl

theorem edg2_new (w : World) (x y : Spn) (t : TypeId) : ∀ j u, (spnCells [x, y])[j]? = some u → (w.alloc (.cells #[.int .i64 x.1, .int .i64 x.2, .int .i64 y.1, .int .i64 y.2] t)).cell? ((⟨w.heap.size, 0, none⟩ : Addr).add j) = some u := by
  intro j u hj
  rw [Addr.add_lit, Nat.zero_add]
  have hj' : ([.int .i64 x.1, .int .i64 x.2, .int .i64 y.1, .int .i64 y.2] : List Value)[j]? = some u := hj
  match j, hj' with
  | 0, hj => simp at hj; subst hj; simp
  | 1, hj => simp at hj; subst hj; simp
  | 2, hj => simp at hj; subst hj; simp
  | 3, hj => simp at hj; subst hj; simp

/-- How far the sweep has come. -/
structure Rf.Swept (E : List Edg) (w3 wr : World) (k : Nat) (v : Value) (a n : Int) (out : List Cnr) : Prop where
  inn : Rf.LayIn wr (w3.heap.size + 2) (w3.heap.size + 1) w3.heap.size (w3.heap.size + 3) n a v out
  eq : Rf.sweep E [] 0 0 = Rf.sweep (E.drop k) out a n
  sm : ∀ y ∈ out, Rf.Sm y
  len : out.length ≤ k
  a0 : 0 ≤ a
  a1 : a ≤ 65536
  n0 : -(k : Int) ≤ n
  n1 : n ≤ k
  rest : ∀ e ∈ E.drop k, a ≤ e.1
  low : Below w3.heap.size w3 wr

theorem Rf.Swept.next {E : List Edg} {w3 wr w6 w7 : World} {k : Nat} {v v' : Value} {a n : Int} {out : List Cnr} (h : Rf.Swept E w3 wr k v a n out) (hk : k < E.length) (hE : ∀ e ∈ E, 0 ≤ e.1 ∧ e.1 ≤ 65536 ∧ -1 ≤ e.2 ∧ e.2 ≤ 1) (hU : Rf.UpE E) (hl : E.length ≤ 100000)
    (b6 : Below wr.heap.size wr w6) (D : Rf.LayDone w6 w7 w3.heap.size (w3.heap.size + 3) v v' (Rf.lay out a n E[k].1)) :
    Rf.Swept E w3 ((w7.setCell ⟨w3.heap.size + 1, 0, none⟩ (.int .i64 E[k].1)).setCell ⟨w3.heap.size + 2, 0, none⟩ (.int .i64 (n + E[k].2))) (k + 1) v' E[k].1 (n + E[k].2) (Rf.lay out a n E[k].1) := by
  obtain ⟨e0, e1, e2, e3⟩ := hE E[k] (List.getElem_mem hk)
  have hz := h.inn.base
  have hz6 := b6.size
  have hz7 := D.size
  have nob : ∀ j, j < w3.heap.size + 3 → v.ownBlock ≠ some j := fun j hj e => by have := (h.inn.own.row.lt j e).1; omega
  have keep : ∀ j, j < w3.heap.size + 3 → j ≠ w3.heap.size → w7.heap[j]? = wr.heap[j]? := fun j hj hne => (D.block j (by omega) hne (nob j hj)).trans (b6.block j (by omega))
  have r1 : Row w7 (w3.heap.size + 1) 3 [.int .i64 a] := h.inn.ha.keep (keep _ (by omega) (by omega))
  have r2 : Row w7 (w3.heap.size + 2) 3 [.int .i64 n] := h.inn.hn.keep (keep _ (by omega) (by omega))
  have s1 : Row (w7.setCell ⟨w3.heap.size + 1, 0, none⟩ (.int .i64 E[k].1)) (w3.heap.size + 1) 3 [.int .i64 E[k].1] := r1.set 0 _
  have s2 : Row (w7.setCell ⟨w3.heap.size + 1, 0, none⟩ (.int .i64 E[k].1)) (w3.heap.size + 2) 3 [.int .i64 n] := r2.keep (Below.heap_setCell _ _ _ _ (by show w3.heap.size + 2 ≠ w3.heap.size + 1; omega))
  have hdrop : E.drop k = E[k] :: E.drop (k + 1) := List.drop_eq_getElem_cons hk
  refine ⟨⟨s2.set 0 _, s1.keep (Below.heap_setCell _ _ _ _ (by show w3.heap.size + 1 ≠ w3.heap.size + 2; omega)), ?_, ?_, ⟨by omega, by omega, by omega⟩, ⟨by omega, by omega⟩, ?_⟩, ?_, Rf.lay_sm h.sm h.a0 (h.rest E[k] (by rw [hdrop]; exact List.mem_cons_self)) e1 (by have := h.n0; omega) (by have := h.n1; omega), ?_, e0, e1, by have := h.n0; omega, by have := h.n1; omega, fun e he => ?_, ?_⟩
  · exact (D.out.keep (Below.heap_setCell _ _ _ _ (by show w3.heap.size ≠ w3.heap.size + 1; omega))).keep (Below.heap_setCell _ _ _ _ (by show w3.heap.size ≠ w3.heap.size + 2; omega))
  · exact (D.own.keep (fun b hb _ => Below.heap_setCell _ _ _ _ (by show b ≠ w3.heap.size + 1; omega))).keep (fun b hb _ => Below.heap_setCell _ _ _ _ (by show b ≠ w3.heap.size + 2; omega))
  · simp; omega
  · rw [h.eq, hdrop]; rfl
  · have := Rf.lay_len out a n E[k].1
    have := h.len
    omega
  · have hp : (E[k] :: E.drop (k + 1)).Pairwise fun a b => a.1 ≤ b.1 := by rw [← hdrop]; exact hU.sublist (List.drop_sublist _ _)
    exact (List.pairwise_cons.1 hp).1 e he
  · refine (Below.setCell (Below.setCell ?_ (by show w3.heap.size ≤ w3.heap.size + 1; omega) _) (by show w3.heap.size ≤ w3.heap.size + 2; omega) _)
    exact ⟨D.os.trans (b6.os.trans h.low.os), D.tape.trans (b6.tape.trans h.low.tape), D.output.trans (b6.output.trans h.low.output), by have := h.low.size; omega, fun j hj => (keep j (by omega) (by omega)).trans (h.low.block j hj)⟩

theorem Rf.Swept.start {E : List Edg} {w3 : World} (hE : ∀ e ∈ E, 0 ≤ e.1 ∧ e.1 ≤ 65536 ∧ -1 ≤ e.2 ∧ e.2 ≤ 1) :
    Rf.Swept E w3 (((w3.alloc (Obj.cells #[Value.slice none 0 0] 26)).alloc (Obj.cells #[Value.int IntKind.i64 0] 3)).alloc (Obj.cells #[Value.int IntKind.i64 0] 3)) 0 (.slice none 0 0) 0 0 [] := by
  obtain ⟨wA, hA, VA, bA, zA⟩ := boxedRow w3 26 [Value.slice none 0 0]
  obtain ⟨wB, hB, VB, bB, zB⟩ := boxedRow wA 3 [Value.int IntKind.i64 0]
  obtain ⟨wC, hC, VC, bC, zC⟩ := boxedRow wB 3 [Value.int IntKind.i64 0]
  have e : ((w3.alloc (Obj.cells #[Value.slice none 0 0] 26)).alloc (Obj.cells #[Value.int IntKind.i64 0] 3)).alloc (Obj.cells #[Value.int IntKind.i64 0] 3) = wC := by
    rw [← hC, ← hB, ← hA]
  rw [e]
  have hbC := on (on bA bB) bC
  rw [zA] at VB
  rw [zB, zA] at VC
  exact ⟨⟨VC, VB.below bC, (VA.below bB).below bC, OwnE.nil _ _ _, ⟨by omega, by omega, by omega⟩, ⟨by omega, by omega⟩, by omega⟩, by rw [List.drop_zero], (fun y hy => by cases hy), Nat.le_refl _, Int.le_refl _, by decide, by decide, by decide, fun e he => (hE e (by simpa using he)).1, hbC⟩

set_option maxRecDepth 20000 in
set_option maxHeartbeats 8000000 in
theorem counted_u (w : World) (P : Nat → Prop) (a : Option Addr) (n c : Nat) (l : List Rfr) (hL : rRfrs.rd w P [.slice a n c] l) (hlow : ∀ x ∈ l, Rf.Low x) (hfew : l.length ≤ 9216) :
    Calls Try.prog 11 #[.slice a n c] w fun e w' => ∃ b, e = .returned b ∧ OwnE 35 w' w.heap.size b (Rf.countsD l) ∧ Below w.heap.size w w' := by
  obtain ⟨hl, hnc, hnil, hb⟩ := rList_len hL
  have HL : Hid (l.length = n) := hl
  have HR : Hid (rRfrs.rd w P [.slice a n c] l) := hL
  have HLow : Hid (∀ x ∈ l, Rf.Low x) := hlow
  have hn : n ≤ 9216 := by omega
  clear hl hnc hnil hb hL hlow hfew
  go_enter Try.func11, Try.ntmps11
  go_wp2
  go_loopw [3, 14] (fun o i wr => ∃ q : Nat, q ≤ n ∧ i = .int .i64 q ∧ Hid (OwnS 59 wr w.heap.size o (Rf.edges (l.take q))) ∧ Below w.heap.size w wr) (fun _ i _ => n - (intOf i).toNat)
  case atStart => exact ⟨0, Nat.zero_le _, rfl, OwnS.nil _ _ _, Below.refl _ _⟩
  case round =>
    obtain ⟨q, hq, rfl, HO, bel⟩ := hrel
    by_cases hqn : q < n
    · have hql : q < l.length := by rw [HL.out]; exact hqn
      obtain ⟨g, off, rfl, -, hgl, hat⟩ := rRfrs_at (Rep.below HR.out bel) (by omega)
      obtain ⟨y0, y1, y2, y3, -⟩ := hat q hql
      have hY := HLow.out l[q] (List.getElem_mem hql)
      have HNx : Hid _ := Rf.edges_take hql
      have hel : (Rf.edges (l.take q)).length ≤ 20000 := by rw [Rf.edges_len, List.length_take]; omega
      generalize hYY : l[q] = Y at *
      clear hYY hat
      unfold Rf.Low at hY
      obtain ⟨t1, t2, t3, t4, t5, t6, t7⟩ := hY
      obtain ⟨w6, hw6, V6, b6, z6⟩ := boxedRow wr 57 [.int .i64 Y.1, .int .i64 Y.2.1, .int .i64 Y.2.2.1, .int .i64 Y.2.2.2]
      obtain ⟨p0, p1, p2, p3⟩ : w6.cell? ⟨wr.heap.size, 0, none⟩ = some (.int .i64 Y.1) ∧ w6.cell? ⟨wr.heap.size, 1, none⟩ = some (.int .i64 Y.2.1) ∧ w6.cell? ⟨wr.heap.size, 2, none⟩ = some (.int .i64 Y.2.2.1) ∧ w6.cell? ⟨wr.heap.size, 3, none⟩ = some (.int .i64 Y.2.2.2) := V6.four
      have hqz : (q : Int) < (n : Int) := by omega
      have ba : Below w6.heap.size w6 (w6.alloc (.cells #[.int .i64 Y.1, .int .i64 1, .int .i64 (Y.1 + Y.2.1), .int .i64 (-1)] 59)) := (Below.refl _ _).alloc (Nat.le_refl _) _
      have hbw : Below w.heap.size w w6 := on bel b6
      have hoa := (HO.out.below b6).below ba
      have hsz : w.heap.size ≤ (w6.alloc (.cells #[.int .i64 Y.1, .int .i64 1, .int .i64 (Y.1 + Y.2.1), .int .i64 (-1)] 59)).heap.size := Nat.le_trans hbw.size ba.size
      obtain ⟨v', w8, hr1, ho1, g1⟩ := run_append_edg2 hoa (c := 2) (edg2_new w6 (Y.1, 1) (Y.1 + Y.2.1, -1) 59) (by unfold In2 In64; simp only; omega) (by unfold In2 In64; simp only; omega) (by omega) hsz 55
      have HR8 : Hid _ := hr1
      have HO8 : Hid (OwnS 59 w8 w.heap.size v' (Rf.edges (l.take (q + 1)))) := by unfold Hid; rw [HNx.out]; exact ho1
      have HB8 : Hid (Below w.heap.size w w8) := (hbw.alloc hbw.size _).trans (hoa.base_below hsz g1)
      clear hr1 ho1 g1 hoa hsz ba hbw b6 V6 z6 HO bel
      go_wp2_with (at_builtin; refine Lib.wpList_append_run _ rfl _ _ _ _ rfl _ _ rfl rfl _ _ HR8.out ?_)
      go_roundw
      case rel => exact ⟨q + 1, by omega, by go_num, HO8, HB8.out⟩
      case measure => simp [intOf]; omega
    · obtain rfl : q = n := by omega
      have HOa : Hid (OwnS 59 wr w.heap.size u3 (Rf.edges l)) := by
        have h := HO.out
        rw [List.take_of_length_le (by rw [HL.out]; exact Nat.le_refl _)] at h
        exact h
      obtain ⟨ao, co, hvo, -, -⟩ := HOa.out.slice
      subst hvo
      have HEl : Hid ((Rf.edges l).length ≤ 20000) := by unfold Hid; rw [Rf.edges_len, HL.out]; omega
      generalize hgl : (Rf.edges l).length = ln at *
      have HGl : Hid ((Rf.edges l).length = ln) := hgl
      have hln := HEl.out
      have BW : Hid (Below w.heap.size w wr) := bel
      clear hgl HO bel
      go_wp2_with fail
      refine (sortE_u _ _ _ _ _ _ HOa.out (by rw [HGl.out]; omega)).mono ?_
      rintro e w3 ⟨rfl, E, hperm, hup, ho3, b3⟩
      have HE : Hid (Rf.sweep E [] 0 0 = Rf.countsD l) := Rf.counts_one (fun x hx => by have := HLow.out x hx; unfold Rf.Low at this; omega) hperm hup
      have HEm : Hid (∀ e ∈ E, 0 ≤ e.1 ∧ e.1 ≤ 65536 ∧ -1 ≤ e.2 ∧ e.2 ≤ 1) := fun e he => Rf.edges_mem HLow.out e (hperm.mem_iff.1 he)
      have HU : Hid (Rf.UpE E) := hup
      have HEn : Hid (E.length = ln) := by unfold Hid; rw [← HGl.out]; exact hperm.length_eq
      have HRd : Hid (rSpns.rd w3 (fun b => b < w3.heap.size) [.slice ao ln co] E) := rSpns.weaken (ho3.rd (by rw [hperm.length_eq, HGl.out]; omega)) (fun b _ h => h)
      have B3 : Hid (Below w.heap.size w w3) := BW.out.trans b3
      have HS0 : Hid (Rf.Swept E w3 (((w3.alloc (Obj.cells #[Value.slice none 0 0] 26)).alloc (Obj.cells #[Value.int IntKind.i64 0] 3)).alloc (Obj.cells #[Value.int IntKind.i64 0] 3)) 0 (.slice none 0 0) 0 0 []) := Rf.Swept.start HEm.out
      clear hperm hup ho3 b3
      go_wp2
      go_loopw [36] (fun i wr => ∃ k : Nat, k ≤ ln ∧ i = .int .i64 k ∧ Hid (∃ v a n out, Rf.Swept E w3 wr k v a n out)) (fun i _ => ln - (intOf i).toNat)
      case atStart => exact ⟨0, Nat.zero_le _, rfl, ⟨_, _, _, _, HS0.out⟩⟩
      case round =>
        obtain ⟨k, hk, rfl, HK⟩ := hrel
        obtain ⟨v, aa, nn, out, S⟩ := HK.out
        have HSw : Hid (Rf.Swept E w3 wr k v aa nn out) := S
        by_cases hkn : k < ln
        · have hkE : k < E.length := by rw [HEn.out]; exact hkn
          obtain ⟨g, off, rfl, -, hgl, hat⟩ := rSpns_at (rSpns.keep HRd.out (fun b hb _ => S.low.block b hb)) (by omega)
          obtain ⟨y0, y1, -⟩ := hat k hkE
          obtain ⟨x1, x2, x3, x4⟩ := HEm.out E[k] (List.getElem_mem hkE)
          have HNx : Hid (∀ {w6 w7 : World} {v' : Value}, Below wr.heap.size wr w6 → Rf.LayDone w6 w7 w3.heap.size (w3.heap.size + 3) v v' (Rf.lay out aa nn E[k].1) → _) := fun {w6 w7 v'} b D => S.next hkE HEm.out HU.out (by rw [HEn.out]; omega) b D
          have hrest : aa ≤ E[k].1 := S.rest E[k] (by rw [List.drop_eq_getElem_cons hkE]; exact List.mem_cons_self)
          generalize hXX : E[k] = X at *
          clear hXX hat
          obtain ⟨w6, hw6, V6, b6, z6⟩ := boxedRow wr 59 [.int .i64 X.1, .int .i64 X.2]
          obtain ⟨p0, p1⟩ : w6.cell? ⟨wr.heap.size, 0, none⟩ = some (.int .i64 X.1) ∧ w6.cell? ⟨wr.heap.size, 1, none⟩ = some (.int .i64 X.2) := ⟨V6.cell (j := 0) rfl, V6.cell (j := 1) rfl⟩
          have HV6 : Hid (Row w6 wr.heap.size 59 [.int .i64 X.1, .int .i64 X.2]) := V6
          have B6 : Hid (Below wr.heap.size wr w6) := b6
          have hkz : (k : Int) < (ln : Int) := by omega
          have I6 : Rf.LayIn w6 (w3.heap.size + 2) (w3.heap.size + 1) w3.heap.size (w3.heap.size + 3) nn aa v out := ⟨S.inn.hn.below b6, S.inn.ha.below b6, S.inn.ho.below b6, S.inn.own.below b6, S.inn.low, S.inn.ne, Nat.le_trans S.inn.base b6.size⟩
          have HI6 : Hid (Rf.LayIn w6 (w3.heap.size + 2) (w3.heap.size + 1) w3.heap.size (w3.heap.size + 3) nn aa v out) := I6
          have HOwn : Hid (v.ownBlock ≠ some wr.heap.size) := fun e => by have := (S.inn.own.row.lt _ e).2; omega
          have hb0 := S.inn.base
          have hn0 := S.n0
          have hn1 := S.n1
          have HBs : Hid (w3.heap.size + 3 ≤ wr.heap.size) := S.inn.base
          have HSl : Hid (out.length ≤ k) := S.len
          clear V6 b6 z6 S I6 hb0
          go_wp2_with fail
          refine (lay_u w6 (w3.heap.size + 2) (w3.heap.size + 1) w3.heap.size (w3.heap.size + 3) nn aa X.1 v out HI6.out HSw.out.sm (by have := HSl.out; omega) HSw.out.a0 hrest x2 (by omega) (by omega)).mono ?_
          rintro e w7 ⟨rfl, v', D⟩
          have r3 : Row w7 wr.heap.size 59 [.int .i64 X.1, .int .i64 X.2] := HV6.out.keep (D.block _ HV6.out.lt (by have := HBs.out; omega) HOwn.out)
          have nob : ∀ j, j < w3.heap.size + 3 → v.ownBlock ≠ some j := fun j hj e => by have := (HI6.out.own.row.lt j e).1; omega
          have r1 : Row w7 (w3.heap.size + 1) 3 [.int .i64 aa] := HI6.out.ha.keep (D.block _ HI6.out.ha.lt (by omega) (nob _ (by omega)))
          have r2 : Row w7 (w3.heap.size + 2) 3 [.int .i64 nn] := HI6.out.hn.keep (D.block _ HI6.out.hn.lt (by omega) (nob _ (by omega)))
          obtain ⟨p2, p3⟩ : w7.cell? ⟨wr.heap.size, 0, none⟩ = some (.int .i64 X.1) ∧ w7.cell? ⟨wr.heap.size, 1, none⟩ = some (.int .i64 X.2) := ⟨r3.cell (j := 0) rfl, r3.cell (j := 1) rfl⟩
          have q1 : w7.cell? ⟨w3.heap.size + 1, 0, none⟩ = some (.int .i64 aa) := r1.cell (j := 0) rfl
          have f1 : w7.frozen? ⟨w3.heap.size + 1, 0, none⟩ = false := r1.frozen 0
          have q2 : w7.cell? ⟨w3.heap.size + 2, 0, none⟩ = some (.int .i64 nn) := r2.cell (j := 0) rfl
          have f2 : w7.frozen? ⟨w3.heap.size + 2, 0, none⟩ = false := r2.frozen 0
          have d1 : ¬ (wr.heap.size = w3.heap.size + 1) := by have := HBs.out; omega
          have d2 : ¬ (wr.heap.size = w3.heap.size + 2) := by have := HBs.out; omega
          have HN : Hid _ := HNx.out B6.out D
          clear D r1 r2 r3 nob p0 p1
          go_wp2
          go_roundw
          case rel => exact ⟨k + 1, by omega, by go_num, ⟨_, _, _, _, HN.out⟩⟩
          case measure => simp [intOf]; omega
        · obtain rfl : k = ln := by omega
          have v0 : wr.cell? ⟨w3.heap.size, 0, none⟩ = some v := S.inn.ho.cell (j := 0) rfl
          have HOf : Hid (OwnE 35 wr w.heap.size v (Rf.countsD l)) := by
            have h := S.eq
            rw [List.drop_eq_nil_of_le (by rw [HEn.out]; exact Nat.le_refl _)] at h
            have h2 : out = Rf.countsD l := h.symm.trans HE.out
            rw [← h2]
            exact S.inn.own.mono (by have := B3.out.size; omega)
          have HBf : Hid (Below w.heap.size w wr) := on B3.out S.low
          clear S
          go_wp2
          go_ret
          exact ⟨_, rfl, HOf.out, HBf.out⟩

end Go.Proofs.Ytinlgoljaiolnab
