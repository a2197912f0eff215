/-
  Facts that the proof rests on, part 19. Conditions: those that each of them names.
-/
import Derived.Test.YtkbmadoaomoojaaGreatT00
import Derived.Deep.RegionHeldLaw
import Derived.Lib.Overlaps
import Derived.Test.YtkbmadoaomoojaaGreatT09
import Derived.Test.YtkbmadoaomoojaaGreatT10
import Derived.Test.YtkbmadoaomoojaaGreatT15
import Derived.Test.YtkbmadoaomoojaaGreatT17
namespace Go.Proofs.YtkbmadoaomoojaaGreat
set_option maxHeartbeats 16000000
set_option maxRecDepth 20000
open Go.RowKit
set_option linter.unusedVariables false
theorem q3x : ∀ (l : List Brn) (i : Nat), q0z (l.take i) = (q0z l).take (i * 2)
 | [], i => by simp [q0z]
 | x :: l, 0 => by simp [q0z]
 | x :: l, i + 1 => by
   rw [List.take_succ_cons]
   show brn2 x ++ q0z (l.take i) = (brn2 x ++ q0z l).take ((i + 1) * 2)
   rw [q3x l i, show (i + 1) * 2 = (brn2 x).length + i * 2 by simp [brn2]; omega, List.take_append, List.take_of_length_le (Nat.le_add_right _ _), Nat.add_sub_cancel_left]
theorem q8j (l : List Brn) (i : Nat) : q0z (l.drop i) = (q0z l).drop (i * 2) := by
 by_cases h : i ≤ l.length
 · have h1 : q0z l = q0z (l.take i) ++ q0z (l.drop i) := by rw [← q1q, List.take_append_drop]
   have h2 : (q0z (l.take i)).length = i * 2 := by rw [q0J, zw4]; omega
   rw [h1, ← h2]
   exact List.drop_left.symm
 · rw [List.drop_of_length_le (by omega), List.drop_of_length_le (by rw [q0J]; omega)]
   rfl
structure Rep0 (w : World) (base g n cap : Nat) (l : List Brn) (cur : List Value) : Prop where
 row : Row w g 133 cur
 size : cur.length = cap * 2
 le : n ≤ cap
 most : cap ≤ maxLen
 base_ : base ≤ g
 cells : cur.take (n * 2) = q0z l
 len : l.length = n
theorem Rep0.own {w : World} {base g n cap : Nat} {l : List Brn} {cur : List Value} (h : Rep0 w base g n cap l cur) : OwnB 133 w base (.slice (some ⟨g, 0, none⟩) n cap) l :=
 ⟨⟨q0J l, .inr ⟨g, cap, cur.toArray, by rw [h.len], h.base_, h.row.eq, by rw [h.len]; exact h.le, h.most, by simpa using h.size, by rw [h.len]; simpa using h.cells⟩⟩⟩
theorem OwnB.rep0 {w : World} {base g n cap : Nat} {l : List Brn} (h : OwnB 133 w base (.slice (some ⟨g, 0, none⟩) n cap) l) : ∃ cur, Rep0 w base g n cap l cur := by
 rcases h.row.2 with ⟨e, h0⟩ | ⟨g2, cap2, cur, e, g1, g2', g3, g4, g5, g6⟩
 · cases e
 · simp only [Value.slice.injEq, Option.some.injEq, Addr.mk.injEq, and_true] at e
   obtain ⟨rfl, rfl, rfl⟩ := e
   exact ⟨cur.toList, ⟨by simpa using g2'⟩, by simpa using g5, g3, g4, g1, g6, rfl⟩
theorem Rep0.less {w : World} {base g n cap : Nat} {l : List Brn} {cur : List Value} (h : Rep0 w base g n cap l cur) {i : Nat} (hi : i ≤ n) : Rep0 w base g i cap (l.take i) cur :=
 ⟨h.row, h.size, zw1 hi h.le, h.most, h.base_, by rw [q3x, ← h.cells, List.take_take, Nat.min_eq_left (Nat.mul_le_mul_right 2 hi)], by rw [zw4, h.len]; omega⟩
theorem qBZ {Pr : Program} {ops : Array Oper} {o : Oper} {l : List Value} {d : List Deferred} {w w' : World} {K' : Go.Act → World → Prop} {Q : Exit → Go.Act → World → Prop} {k : Nat} (hk : o.dst = some k) (hg : Region.wanted o (yielded ops l.toArray) = true)
 (s y : Operand) (ts : Array TypeId) (ho : o.op = .call { callee := .builtin .copy, args := #[s, y], argTypes := ts }) (v1 v2 v' : Value) (h1 : Go.Act.eval ⟨l.toArray, d⟩ s = v1) (h2 : Go.Act.eval ⟨l.toArray, d⟩ y = v2)
 (hr : (Builtin.copy_ ts o.type #[v1, v2]).run Pr w = .ok v' w') (h : K' ⟨(l.set k v').toArray, d⟩ w') : if Region.wanted o (yielded ops l.toArray) = true then Oper.wp Pr o ⟨l.toArray, d⟩ w K' Q else K' (Go.Act.put ⟨l.toArray, d⟩ o.dst undef) w := by
 have e : Go.Act.put ⟨l.toArray, d⟩ o.dst v' = ⟨(l.set k v').toArray, d⟩ := by rw [hk]; simp [Go.Act.put]
 rw [if_pos hg]
 unfold Oper.wp execOp
 simp only [ho, resolve, invoke, builtin, Sem.run_bind, Sem.run_pure, Result.andThen_ok, List.map_toArray, List.map_cons, List.map_nil, h1, h2, hr]
 rw [← e] at h
 exact h
theorem qEq : ∀ (m : List Brn) (q : Nat), (q0z m)[q]? = (m[q / 2]?).bind (fun x => (brn2 x)[q % 2]?)
 | [], q => by simp [q0z]
 | x :: m, 0 => by simp [q0z, brn2]
 | x :: m, 1 => by simp [q0z, brn2]
 | x :: m, q + 2 => by
   show (brn2 x ++ q0z m)[q + 2]? = _
   rw [List.getElem?_append_right (by simp [brn2]), show q + 2 - (brn2 x).length = q by simp [brn2], qEq m q, show (q + 2) / 2 = q / 2 + 1 by omega, show (q + 2) % 2 = q % 2 by omega, List.getElem?_cons_succ]
theorem q2Z (m : List Brn) : ∀ v ∈ q0z m, v.oneCell' = true := by
 intro v hv
 simp only [q0z, List.mem_flatMap] at hv
 obtain ⟨x, -, hx⟩ := hv
 simp only [brn2, List.mem_cons, List.not_mem_nil, or_false] at hx
 rcases hx with rfl | rfl <;> rfl
theorem qBj {w W : World} {P : Nat → Prop} {vb vo n c : Nat} {m : List Brn} (h : rBrns.rd w P [.slice (some ⟨vb, vo, none⟩) n c] m) (hk : W.heap[vb]? = w.heap[vb]?) : ∀ (q : Nat) (u : Value), (q0z m)[q]? = some u → W.cell? ((⟨vb, vo, none⟩ : Addr).add q) = some u := by
 intro q u hu
 have hq : q / 2 < m.length := by
  rw [qEq] at hu
  rcases Nat.lt_or_ge (q / 2) m.length with k | k
  · exact k
  · rw [List.getElem?_eq_none k] at hu
    cases hu
 have hn : m.length = n := (q0x h).1
 obtain ⟨b, off, e, -, -, hat⟩ := q2j h (by omega)
 simp only [Option.some.injEq, Addr.mk.injEq, and_true] at e
 obtain ⟨rfl, rfl⟩ := e
 rw [qEq, zw3 hq] at hu
 simp only [Option.bind_some] at hu
 obtain ⟨c0, c1⟩ := hat (q / 2) hq
 have hcell : ∀ p : Addr, p.block = vb → W.cell? p = w.cell? p := fun p hp => by unfold World.cell?; rw [hp, hk]
 rw [Addr.add_lit, hcell _ rfl]
 rcases Nat.mod_two_eq_zero_or_one q with k | k
 · rw [k] at hu
   simp only [brn2, List.getElem?_cons_zero] at hu
   rw [show vo + q = vo + q / 2 * 2 by omega, c0]
   exact hu
 · rw [k] at hu
   simp only [brn2, List.getElem?_cons_succ, List.getElem?_cons_zero] at hu
   rw [show vo + q = vo + q / 2 * 2 + 1 by omega, c1]
   exact hu
theorem zero_brn (w : World) : (zeroValue 133).run Tryz.prog w = .ok (.agg #[.int .u64 0, .int .i64 0]) w := by kernel_rfl
theorem qBQ {w : World} {base g n cap : Nat} {L : List Brn} {cur : List Value} (h : Row w g 133 cur) (hs : cur.length = cap * 2) (hm : cap ≤ maxLen) (hb : base ≤ g) (hl : L.length = n) (hn : n ≤ cap) (hc : cur.take (n * 2) = q0z L) : OwnB 133 w base (.slice (some ⟨g, 0, none⟩) n cap) L :=
 (Rep0.mk h hs hn hm hb hc hl).own
theorem replace_end (w : World) (base g n cap i : Nat) (l : List Brn) (cur : List Value) (hR : Rep0 w base g n cap l cur) (P : Nat → Prop) (vb vo n' c' : Nat) (m : List Brn) (hV : rBrns.rd w P [.slice (some ⟨vb, vo, none⟩) n' c'] m) (hvg : vb ≠ g) (hp' : 0 < n') (hi : i < n) (hn : n ≤ 1000) (hn' : n' ≤ 1000) (hb : base ≤ w.heap.size) :
 Calls Tryz.prog 84 #[.slice (some ⟨g, 0, none⟩) n cap, .int .i64 (i : Int), .int .i64 (n : Int), .slice (some ⟨vb, vo, none⟩) n' c'] w fun e w' => ∃ ra rn rc, e = .returned (.slice ra rn rc) ∧ OwnB 133 w' base (.slice ra rn rc) (Tr.replaced l i n m) ∧ Grew w w' (.slice (some ⟨g, 0, none⟩) n cap) (.slice ra rn rc) := by
 have h1 := hR.less (Nat.le_of_lt hi)
 have hcap := hR.le
 have hml : m.length = n' := (q0x hV).1
 have hz1 : ((i : Int) == (n : Int)) = false := beq_eq_false_iff_ne.2 (by omega)
 have hz2 : (i : Int) ≤ (n : Int) := by omega
 have hz3 : (n : Int) ≤ (cap : Int) := by omega
 have hz4 : (i : Int) ≤ (cap : Int) := by omega
 have HRp : Hid (Tr.replaced l i n m = l.take i ++ m) := by
  unfold Hid Tr.replaced
  rw [List.drop_of_length_le (Nat.le_of_eq hR.len), List.append_nil]
 by_cases hlt : i + n' < n
 · obtain ⟨ht, ti, tz, hti, htz, hsize, hby, hzs, hpos⟩ := qNz
   have hcl : (q0z m).length = n' * 2 := by rw [q0J, hml]
   have hr := run_append_room (P := Tryz.prog) w 109 109 133 ti ht hti g i cap cur.toArray hR.row.eq ⟨vb, vo, none⟩ n' c' (q0z m) (by rw [hsize]; exact hcl) (qBj hV rfl) (q2Z m) (by omega) (by rw [hsize, hcl]; show i * 2 + n' * 2 ≤ _; simp only [List.size_toArray]; rw [hR.size]; omega)
   obtain ⟨w5, hw5⟩ : ∃ w5, w.setRow g (splice cur (i * 2) (q0z m)).toArray = w5 := ⟨_, rfl⟩
   have hr5 : (Builtin.append_ #[109, 109] 109 #[.slice (some ⟨g, 0, none⟩) i cap, .slice (some ⟨vb, vo, none⟩) n' c']).run Tryz.prog w = .ok (.slice (some ⟨g, 0, none⟩) (i + n') cap) w5 := by
    rw [hr, ← hw5, hsize]
    simp [splice, rBrn]
   have R5 : Row w5 g 133 (splice cur (i * 2) (q0z m)) := by rw [← hw5]; exact ⟨setRow_heap w g _ _ _ _ hR.row.eq⟩
   have K5 : Kept (· ≠ g) w w5 := by rw [← hw5]; exact ⟨rfl, rfl, rfl, by simp, fun k hk => setRow_other w g k _ hk⟩
   have hsl : (splice cur (i * 2) (q0z m)).length = cap * 2 := by rw [length_splice _ _ _ (by rw [hcl, hR.size]; omega), hR.size]
   obtain ⟨rn, hrn⟩ : ∃ rn, i + n' = rn := ⟨_, rfl⟩
   rw [hrn] at hr5 hlt
   obtain ⟨w6, zs, hzl, hr6, R6, K6, S6⟩ := qKX (Pr := Tryz.prog) w5 109 0 133 Tryz.underlying109 _ zero_brn rfl (by decide) (some ⟨g, rn * 2, none⟩) (n - rn) (cap - rn) g (rn * 2) _ _ R5 (fun _ => rfl) (by rw [hsl]; omega)
   have HO : Hid (OwnB 133 w6 base (.slice (some ⟨g, 0, none⟩) rn cap) (Tr.replaced l i n m)) := by
    rw [HRp.out]
    refine qBQ R6 ?_ hR.most hR.base_ ?_ (by omega) ?_
    · rw [length_splice _ _ _ (by rw [hzl, hsl]; omega), hsl]
    · rw [zw2, zw4, hR.len, hml]; omega
    · rw [q5q (zw0 _) (by rw [hsl]; omega), ← hrn, Nat.add_mul, ← hcl, q3j (by rw [hR.size]; omega), q1q, q3x, ← hR.cells, List.take_take, Nat.min_eq_left (by omega)]
   have HG : Hid (Grew w w6 (.slice (some ⟨g, 0, none⟩) n cap) (.slice (some ⟨g, 0, none⟩) rn cap)) := by
    refine ⟨⟨K6.os.trans K5.os, K6.tape.trans K5.tape, K6.output.trans K5.output, zw1 K5.size K6.size, fun q hq hne => ?_⟩, fun b e => .inl e⟩
    have hqg : q ≠ g := fun e => hne (by rw [e]; rfl)
    exact (K6.block q hqg).trans (K5.block q hqg)
   have HRun : Hid _ := hr5
   have hlz : (rn : Int) < (n : Int) := by omega
   have hrc : (rn : Int) ≤ (cap : Int) := by omega
   clear ht hti htz hsize hby hzs hpos hr hr5 hw5 R5 K5 hsl hrn R6 K6 S6 hzl hcl h1 hR hV
   go_enter Tryz.func84, Tryz.ntmps84
   go_wp2_with (at_builtin; refine Lib.wpList_append_run _ rfl _ _ _ _ rfl _ _ rfl rfl _ _ HRun.out ?_)
   go_ret
   exact ⟨_, _, _, rfl, HO.out, HG.out⟩
 · obtain ⟨v5, w5, hr5, ho5, g5⟩ := q5X h1.own hV (by rw [zw4]; omega) hb 109
   obtain ⟨ra, rc, rfl, -⟩ := ho5.slice
   obtain ⟨rn, hrn⟩ : ∃ rn, (l.take i ++ m).length = rn := ⟨_, rfl⟩
   rw [hrn] at hr5 ho5 g5
   have hrn2 : rn = i + n' := by rw [← hrn, zw2, zw4, hR.len, hml]; omega
   have HRun : Hid _ := hr5
   have hlz : ¬ ((rn : Int) < (n : Int)) := by omega
   have HG : Hid (Grew w w5 (.slice (some ⟨g, 0, none⟩) n cap) (.slice ra rn rc)) := ⟨g5.grown, g5.place⟩
   have HO : Hid (OwnB 133 w5 base (.slice ra rn rc) (Tr.replaced l i n m)) := by rw [HRp.out]; exact ho5
   clear g5 hr5 ho5 hrn hrn2 h1 hR hV
   go_enter Tryz.func84, Tryz.ntmps84
   go_wp2_with (at_builtin; refine Lib.wpList_append_run _ rfl _ _ _ _ rfl _ _ rfl rfl _ _ HRun.out ?_)
   go_ret
   exact ⟨ra, rn, rc, rfl, HO.out, HG.out⟩
theorem q7X : ∀ (l : List Itm) (i : Nat), q0j (l.take i) = (q0j l).take (i * 2)
 | [], i => by simp [q0j]
 | x :: l, 0 => by simp [q0j]
 | x :: l, i + 1 => by
   rw [List.take_succ_cons]
   show itm2 x ++ q0j (l.take i) = (itm2 x ++ q0j l).take ((i + 1) * 2)
   rw [q7X l i, show (i + 1) * 2 = (itm2 x).length + i * 2 by simp [itm2]; omega, List.take_append, List.take_of_length_le (Nat.le_add_right _ _), Nat.add_sub_cancel_left]
theorem qIZ (l : List Itm) (i : Nat) : q0j (l.drop i) = (q0j l).drop (i * 2) := by
 by_cases h : i ≤ l.length
 · have h1 : q0j l = q0j (l.take i) ++ q0j (l.drop i) := by rw [← q3z, List.take_append_drop]
   have h2 : (q0j (l.take i)).length = i * 2 := by rw [q0X, zw4]; omega
   rw [h1, ← h2]
   exact List.drop_left.symm
 · rw [List.drop_of_length_le (by omega), List.drop_of_length_le (by rw [q0X]; omega)]
   rfl
structure RepI (w : World) (base g n cap : Nat) (l : List Itm) (cur : List Value) : Prop where
 row : Row w g 45 cur
 size : cur.length = cap * 2
 le : n ≤ cap
 most : cap ≤ maxLen
 base_ : base ≤ g
 cells : cur.take (n * 2) = q0j l
 len : l.length = n
theorem RepI.own {w : World} {base g n cap : Nat} {l : List Itm} {cur : List Value} (h : RepI w base g n cap l cur) : OwnI 45 w base (.slice (some ⟨g, 0, none⟩) n cap) l :=
 ⟨⟨q0X l, .inr ⟨g, cap, cur.toArray, by rw [h.len], h.base_, h.row.eq, by rw [h.len]; exact h.le, h.most, by simpa using h.size, by rw [h.len]; simpa using h.cells⟩⟩⟩
theorem OwnI.repI {w : World} {base g n cap : Nat} {l : List Itm} (h : OwnI 45 w base (.slice (some ⟨g, 0, none⟩) n cap) l) : ∃ cur, RepI w base g n cap l cur := by
 rcases h.row.2 with ⟨e, h0⟩ | ⟨g2, cap2, cur, e, g1, g2', g3, g4, g5, g6⟩
 · cases e
 · simp only [Value.slice.injEq, Option.some.injEq, Addr.mk.injEq, and_true] at e
   obtain ⟨rfl, rfl, rfl⟩ := e
   exact ⟨cur.toList, ⟨by simpa using g2'⟩, by simpa using g5, g3, g4, g1, g6, rfl⟩
theorem qHz : ∀ (m : List Itm) (q : Nat), (q0j m)[q]? = (m[q / 2]?).bind (fun x => (itm2 x)[q % 2]?)
 | [], q => by simp [q0j]
 | x :: m, 0 => by simp [q0j, itm2]
 | x :: m, 1 => by simp [q0j, itm2]
 | x :: m, q + 2 => by
   show (itm2 x ++ q0j m)[q + 2]? = _
   rw [List.getElem?_append_right (by simp [itm2]), show q + 2 - (itm2 x).length = q by simp [itm2], qHz m q, show (q + 2) / 2 = q / 2 + 1 by omega, show (q + 2) % 2 = q % 2 by omega, List.getElem?_cons_succ]
theorem qAz (m : List Itm) : ∀ v ∈ q0j m, v.oneCell' = true := by
 intro v hv
 simp only [q0j, List.mem_flatMap] at hv
 obtain ⟨x, -, hx⟩ := hv
 simp only [itm2, List.mem_cons, List.not_mem_nil, or_false] at hx
 rcases hx with rfl | rfl <;> rfl
theorem rItms_src {w W : World} {P : Nat → Prop} {vb vo n c : Nat} {m : List Itm} (h : rItms.rd w P [.slice (some ⟨vb, vo, none⟩) n c] m) (hk : W.heap[vb]? = w.heap[vb]?) : ∀ (q : Nat) (u : Value), (q0j m)[q]? = some u → W.cell? ((⟨vb, vo, none⟩ : Addr).add q) = some u := by
 intro q u hu
 have hq : q / 2 < m.length := by
  rw [qHz] at hu
  rcases Nat.lt_or_ge (q / 2) m.length with k | k
  · exact k
  · rw [List.getElem?_eq_none k] at hu
    cases hu
 have hn : m.length = n := (q0x h).1
 obtain ⟨b, off, e, -, -, hat⟩ := q0Z h (by omega)
 simp only [Option.some.injEq, Addr.mk.injEq, and_true] at e
 obtain ⟨rfl, rfl⟩ := e
 rw [qHz, zw3 hq] at hu
 simp only [Option.bind_some] at hu
 obtain ⟨c0, c1⟩ := hat (q / 2) hq
 have hcell : ∀ p : Addr, p.block = vb → W.cell? p = w.cell? p := fun p hp => by unfold World.cell?; rw [hp, hk]
 rw [Addr.add_lit, hcell _ rfl]
 rcases Nat.mod_two_eq_zero_or_one q with k | k
 · rw [k] at hu
   simp only [itm2, List.getElem?_cons_zero] at hu
   rw [show vo + q = vo + q / 2 * 2 by omega, c0]
   exact hu
 · rw [k] at hu
   simp only [itm2, List.getElem?_cons_succ, List.getElem?_cons_zero] at hu
   rw [show vo + q = vo + q / 2 * 2 + 1 by omega, c1]
   exact hu
theorem zero_itm (w : World) : (zeroValue 45).run Tryz.prog w = .ok (.agg #[.int .u64 0, .int .u64 0]) w := by kernel_rfl
theorem qGZ {w : World} {base g n cap : Nat} {L : List Itm} {cur : List Value} (h : Row w g 45 cur) (hs : cur.length = cap * 2) (hm : cap ≤ maxLen) (hb : base ≤ g) (hl : L.length = n) (hn : n ≤ cap) (hc : cur.take (n * 2) = q0j L) : OwnI 45 w base (.slice (some ⟨g, 0, none⟩) n cap) L :=
 (RepI.mk h hs hn hm hb hc hl).own
namespace Tr
def insOf (l : List Itm) (i : Nat) (m : List Itm) : List Itm := l.take i ++ m ++ l.drop i
end Tr
theorem insert_end (w : World) (base : Nat) (a : Option Addr) (n cap : Nat) (l : List Itm) (hO : OwnI 45 w base (.slice a n cap) l) (P : Nat → Prop) (vb vo n' c' : Nat) (m : List Itm) (hV : rItms.rd w P [.slice (some ⟨vb, vo, none⟩) n' c'] m) (hp' : 0 < n') (hn : n ≤ 1000) (hn' : n' ≤ 1000) (hb : base ≤ w.heap.size) :
 Calls Tryz.prog 38 #[.slice a n cap, .int .i64 (n : Int), .slice (some ⟨vb, vo, none⟩) n' c'] w fun e w' => ∃ ra rn rc, e = .returned (.slice ra rn rc) ∧ OwnI 45 w' base (.slice ra rn rc) (Tr.insOf l n m) ∧ Grew w w' (.slice a n cap) (.slice ra rn rc) := by
 obtain ⟨x, y, e0, hnc, hnil⟩ := hO.slice
 simp only [Value.slice.injEq] at e0
 obtain ⟨rfl, hl, rfl⟩ := e0
 have hml : m.length = n' := (q0x hV).1
 have HI : Hid (Tr.insOf l n m = l ++ m) := by
  unfold Hid Tr.insOf
  rw [List.take_of_length_le (by omega), List.drop_of_length_le (by omega), List.append_nil]
 obtain ⟨v5, w5, hr5, ho5, g5⟩ := q3q hO hV (by omega) hb 36
 obtain ⟨ra, rc, rfl, -⟩ := ho5.slice
 obtain ⟨rn, hrn⟩ : ∃ rn, (l ++ m).length = rn := ⟨_, rfl⟩
 rw [hrn] at hr5 ho5 g5
 have HRun : Hid _ := hr5
 have HO : Hid (OwnI 45 w5 base (.slice ra rn rc) (Tr.insOf l n m)) := by rw [HI.out]; exact ho5
 have HG : Hid _ := g5
 have hz : ((n' : Int) == 0) = false := beq_eq_false_iff_ne.2 (by omega)
 have hz2 : (n : Int) ≤ (n : Int) := Int.le_refl _
 have hz3 : (n : Int) ≤ (cap : Int) := by omega
 clear hr5 ho5 g5 hrn hO hV HI hl hml
 by_cases hcn : cap = n
 · subst hcn
   go_enter Tryz.func38, Tryz.ntmps38
   go_wp2_with (at_builtin; refine Lib.wpList_append_run _ rfl _ _ _ _ rfl _ _ rfl rfl _ _ HRun.out ?_)
   go_ret
   exact ⟨ra, rn, rc, rfl, HO.out, HG.out⟩
 · go_enter Tryz.func38, Tryz.ntmps38
   go_wp2_with (at_builtin; refine Lib.wpList_append_run _ rfl _ _ _ _ rfl _ _ rfl rfl _ _ HRun.out ?_)
   go_ret
   exact ⟨ra, rn, rc, rfl, HO.out, HG.out⟩
theorem insert_grow (w : World) (base g n cap i : Nat) (l : List Itm) (cur : List Value) (hR : RepI w base g n cap l cur) (P : Nat → Prop) (vb vo n' c' : Nat) (m : List Itm) (hV : rItms.rd w P [.slice (some ⟨vb, vo, none⟩) n' c'] m) (hvg : vb ≠ g) (hp' : 0 < n') (p tot : Nat) (hjp : n - i = p) (hj : i < n) (htot : tot = i + n' + p) (hn : n ≤ 1000) (hn' : n' ≤ 1000) (hb : base ≤ w.heap.size) (hcase : cap < tot) :
 Calls Tryz.prog 38 #[.slice (some ⟨g, 0, none⟩) n cap, .int .i64 (i : Int), .slice (some ⟨vb, vo, none⟩) n' c'] w fun e w' => ∃ ra rn rc, e = .returned (.slice ra rn rc) ∧ OwnI 45 w' base (.slice ra rn rc) (Tr.insOf l i m) ∧ Grew w w' (.slice (some ⟨g, 0, none⟩) n cap) (.slice ra rn rc) := by
 have hcap := hR.le
 have hml : m.length = n' := (q0x hV).1
 have hzz : ((n' : Int) == 0) = false := beq_eq_false_iff_ne.2 (by omega)
 have hz0 : ((i : Int) == (n : Int)) = false := beq_eq_false_iff_ne.2 (by omega)
 have hz2 : (i : Int) ≤ (i : Int) := by omega
 have hz3 : (i : Int) ≤ (cap : Int) := by omega
 have hz4 : (i : Int) ≤ (cap : Int) := by omega
 have hz5 : (i : Int) ≤ (n : Int) := by omega
 have hne3 : ¬ (cap = i) := by omega
 have hne4 : ¬ (cap = i) := by omega
 obtain ⟨q, hq⟩ : ∃ q, q = i + n' := ⟨_, rfl⟩
 have hw1 : IntKind.i64.wrap ((i : Int) + (n' : Int)) = (q : Int) := by rw [IntKind.wrap_i64]; omega
 have hw2 : IntKind.i64.wrap ((n : Int) + (n' : Int)) = (tot : Int) := by rw [IntKind.wrap_i64]; omega
 have hcl : (q0j m).length = n' * 2 := by rw [q0X, hml]
 have hdl : (q0j (l.drop i)).length = p * 2 := by rw [q0X, List.length_drop, hR.len, hjp]
 have hct : cur.take (i * 2) = q0j (l.take i) := by rw [q7X, ← hR.cells, List.take_take, Nat.min_eq_left (by omega)]
 have hlL : (Tr.insOf l i m).length = tot := by unfold Tr.insOf; rw [zw2, zw2, zw4, List.length_drop, hR.len, hml]; omega
 have hcL : q0j (Tr.insOf l i m) = cur.take (i * 2) ++ q0j m ++ q0j (l.drop i) := by unfold Tr.insOf; rw [q3z, q3z, hct]
 have hjc : ∀ (k : Nat) (u : Value), (q0j (l.drop i))[k]? = some u → cur[i * 2 + k]? = some u := fun k u hu => by
  rw [qIZ, ← hR.cells, List.getElem?_drop, List.getElem?_take] at hu
  split at hu
  · exact hu
  · cases hu
 obtain ⟨r, hr0⟩ : ∃ r, r = n' + p := ⟨_, rfl⟩
 have hw3 : IntKind.i64.wrap ((tot : Int) - (i : Int)) = (r : Int) := by rw [IntKind.wrap_i64]; omega
 have hir : i + r = tot := by omega
 have hgt : (tot : Int) > (cap : Int) := by omega
 obtain ⟨ht, ti, tz, hti, htz, hsize, hby, hzs, hpos⟩ := qZQ
 have hsz2 : ti.size = 2 := hsize
 have hby2 : ti.bytes = 16 := hby
 have hzs2 : tz.cells.size = 2 := hzs
 have hol : (cur.take (i * 2)).length = i * 2 := by rw [zw4, hR.size]; omega
 have hrun := Lib.run_append_grow_zeros (P := Tryz.prog) w 36 3 36 45 ti tz .i64 .i64 ht Tryz.underlying3 hti htz (some ⟨g, 0, none⟩) i cap (cur.take (i * 2)) (run_firstCells_some (P := Tryz.prog) w.drew ti.size i ⟨g, 0, none⟩ i cap (cur.take (i * 2)) (by rw [hol, hsz2]) (fun k u hu => by
  rw [Addr.add_lit, Nat.zero_add]
  refine (hR.row.keep (w' := w.drew) rfl).cell ?_
  rw [List.getElem?_take] at hu
  split at hu
  · exact hu
  · cases hu)) r (by omega) (by omega) (by omega) (by omega) (by rw [hby2]; omega) (growslice_fits (by omega) (by rw [hby2]; omega))
 rw [hir] at hrun
 obtain ⟨cap2, hcap2⟩ : ∃ cap2, cap2 = grownCap w tot cap 45 := ⟨_, rfl⟩
 rw [← hcap2] at hrun
 have hc2 : tot ≤ cap2 := by rw [hcap2]; exact grownCap_ge _ _ _ _
 have hc3 : cap2 ≤ maxLen := by rw [hcap2]; exact grownCap_le_maxLen _ _ _ _ (by unfold maxLen; omega)
 obtain ⟨cur5, hcur5⟩ : ∃ cur5 : List Value, cur5 = ((cur.take (i * 2)).toArray ++ Builtin.zeroCells tz.cells r ++ Builtin.zeroCells tz.cells (cap2 - tot)).toList := ⟨_, rfl⟩
 have hl5 : cur5.length = cap2 * 2 := by
  rw [hcur5, Array.length_toList, Array.size_append, Array.size_append, size_zeroCells, size_zeroCells, hzs2, List.size_toArray, hol]
  omega
 have ht5 : cur5.take (i * 2) = cur.take (i * 2) := by
  rw [hcur5, Array.toList_append, Array.toList_append, List.append_assoc]
  rw [List.take_append_of_le_length (by simp [hR.size]; omega)]
  simp [List.take_take]
 obtain ⟨w5, hw5⟩ : ∃ w5, w.drew.alloc (.cells ((cur.take (i * 2)).toArray ++ Builtin.zeroCells tz.cells r ++ Builtin.zeroCells tz.cells (cap2 - tot)) 45) = w5 := ⟨_, rfl⟩
 rw [hw5] at hrun
 have R5 : Row w5 w.heap.size 45 cur5 := by
  rw [← hw5, hcur5]
  have := q1Z w.drew 45 ((cur.take (i * 2)).toArray ++ Builtin.zeroCells tz.cells r ++ Builtin.zeroCells tz.cells (cap2 - tot)).toList
  rw [Array.toArray_toList] at this
  exact this
 have b5 : Below w.heap.size w w5 := by rw [← hw5]; exact ((Below.refl _ _).drew).alloc (zw0 _) _
 have hgw : g < w.heap.size := hR.row.lt
 have hvw : vb < w.heap.size := by
  obtain ⟨b, off, e, -, h, -⟩ := q0Z hV hp'
  simp only [Option.some.injEq, Addr.mk.injEq, and_true] at e
  rw [e.1]; exact h
 obtain ⟨w6, hr6, R6, K6, S6⟩ := q3Z (Pr := Tryz.prog) w5 36 36 3 45 Tryz.underlying36 (by kernel_rfl) (some ⟨w.heap.size, i * 2, none⟩) (some ⟨vb, vo, none⟩) (tot - i) (cap2 - i) n' c' w.heap.size (i * 2) cur5 _ R5 (q0j m) (by rw [hcl, show Nat.min n' (tot - i) = n' from Nat.min_eq_left (by omega)]) (fun _ => ⟨rfl, _, rfl, rItms_src hV (b5.block vb hvw)⟩) (by rw [hcl, hl5]; omega) (qAz m)
 have hl6 : (splice cur5 (i * 2) (q0j m)).length = cap2 * 2 := by rw [length_splice _ _ _ (by rw [hcl, hl5]; omega), hl5]
 have b6 : Below w.heap.size w w6 := Kept.belowOf b5 K6 (zw0 _)
 have Rg : Row w6.drew g 45 cur := (hR.row.below (w' := w6) b6).keep rfl
 obtain ⟨w7, hr7, R7, K7, S7⟩ := q3Z (Pr := Tryz.prog) w6.drew 36 36 3 45 Tryz.underlying36 (by kernel_rfl) (some ⟨w.heap.size, q * 2, none⟩) (some ⟨g, i * 2, none⟩) (tot - q) (cap2 - q) p (cap - i) w.heap.size (q * 2) _ _ (R6.keep (w' := w6.drew) rfl) (q0j (l.drop i)) (by rw [hdl, show Nat.min p (tot - q) = p from Nat.min_eq_left (by omega)]) (fun _ => ⟨rfl, _, rfl, fun k u hu => by rw [Addr.add_lit]; exact Rg.cell (hjc k u hu)⟩) (by rw [hdl, hl6]; omega) (qAz _)
 have HO : Hid (OwnI 45 w7 base (.slice (some ⟨w.heap.size, 0, none⟩) tot cap2) (Tr.insOf l i m)) := by
  refine qGZ R7 ?_ hc3 hb hlL hc2 ?_
  · rw [length_splice _ _ _ (by rw [hdl, hl6]; omega), hl6]
  · rw [hcL, show tot * 2 = q * 2 + (q0j (l.drop i)).length by rw [hdl]; omega, q3j (by rw [hl6]; omega), show q * 2 = i * 2 + (q0j m).length by rw [hcl]; omega, q3j (by rw [hl5]; omega), ht5]
 have HG : Hid (Grew w w7 (.slice (some ⟨g, 0, none⟩) n cap) (.slice (some ⟨w.heap.size, 0, none⟩) tot cap2)) := by
  have b7 : Below w.heap.size w w7 := Kept.belowOf b6.drew K7 (zw0 _)
  refine ⟨⟨b7.os, b7.tape, b7.output, b7.size, fun x hx _ => b7.block x hx⟩, fun b e => .inr ?_⟩
  cases e
  exact zw0 _
 have HRun : Hid _ := hrun
 have HC7 : Hid _ := hr7
 have hti1 : (tot : Int) ≤ (cap2 : Int) := by omega
 have hqt : q < tot := by omega
 have hne1 : ¬ (cap2 = q) := by omega
 have hne2 : ¬ (cap2 = i) := by omega
 have hit : i < tot := by omega
 have hqi : (q : Int) ≤ (tot : Int) := by omega
 have hii : (i : Int) ≤ (tot : Int) := by omega
 clear ht hti htz hsize hby hzs hpos hsz2 hby2 hzs2 hrun hr7 hw5 hcur5 ht5 hl5 R5 R6 R7 K6 K7 S6 S7 Rg b5 b6 hl6 hc3 hcap2 hol hR hV hcl hdl hct hlL hcL hjc hml htot hq hr0 hir hgw hvw hcase
 go_enter Tryz.func38, Tryz.ntmps38
 go_wp2_with (at_builtin; refine Lib.wpList_append_run _ rfl _ _ _ _ rfl _ _ rfl rfl _ _ HRun.out ?_)
 refine wp_region_held_drew (S := (fun _ : World => True)) (by kernel_rfl) (trivial) (fun hH => ?_)
 refine tkM 0 _ rfl rfl ?_; simp only [sz, ss]
 refine tkM 1 _ rfl rfl ?_; simp only [sz, ss]
 refine tkM 2 _ rfl rfl ?_; simp only [sz, ss]
 refine tkM 3 _ rfl rfl ?_; simp only [sz, ss]
 refine tkM 4 _ rfl rfl ?_; simp only [sz, ss]
 refine tkM 5 _ rfl rfl ?_; simp only [sz, ss]
 refine tkM 6 _ rfl rfl ?_; simp only [sz, ss]
 refine tkM 7 _ rfl rfl ?_; simp only [sz, ss]
 refine r1L 8 rfl fun K hK => ?_
 · refine qBZ rfl rfl (.tmp 50) (.tmp 53) _ rfl (.slice (some ⟨w.heap.size, q * 2, none⟩) (tot - q) (cap2 - q)) (.slice (some ⟨g, i * 2, none⟩) p (cap - i)) _ rfl rfl HC7.out ?_
   refine hK.out _ _ ?_ (fun hH => ?_)
   · try dsimp only
     all_goals trivial
   clear hK K
   refine wpAnyH_done (by kernel_rfl) ?_ _
   clear hH
   go_wp2
   go_ret
   exact ⟨_, _, _, rfl, HO.out, HG.out⟩
theorem insert_up (w : World) (base g n cap i : Nat) (l : List Itm) (cur : List Value) (hR : RepI w base g n cap l cur) (P : Nat → Prop) (vb vo n' c' : Nat) (m : List Itm) (hV : rItms.rd w P [.slice (some ⟨vb, vo, none⟩) n' c'] m) (hvg : vb ≠ g) (cv : List Value) (hVr : Row w vb 45 cv) (hp' : 0 < n') (p tot : Nat) (hjp : n - i = p) (hj : i < n) (htot : tot = i + n' + p) (hn : n ≤ 1000) (hn' : n' ≤ 1000) (hb : base ≤ w.heap.size) (hcase : tot ≤ cap) :
 Calls Tryz.prog 38 #[.slice (some ⟨g, 0, none⟩) n cap, .int .i64 (i : Int), .slice (some ⟨vb, vo, none⟩) n' c'] w fun e w' => ∃ ra rn rc, e = .returned (.slice ra rn rc) ∧ OwnI 45 w' base (.slice ra rn rc) (Tr.insOf l i m) ∧ Grew w w' (.slice (some ⟨g, 0, none⟩) n cap) (.slice ra rn rc) := by
 have hcap := hR.le
 have hml : m.length = n' := (q0x hV).1
 have hzz : ((n' : Int) == 0) = false := beq_eq_false_iff_ne.2 (by omega)
 have hz0 : ((i : Int) == (n : Int)) = false := beq_eq_false_iff_ne.2 (by omega)
 have hz2 : (i : Int) ≤ (i : Int) := by omega
 have hz3 : (i : Int) ≤ (cap : Int) := by omega
 have hz4 : (i : Int) ≤ (cap : Int) := by omega
 have hz5 : (i : Int) ≤ (n : Int) := by omega
 have hne3 : ¬ (cap = i) := by omega
 have hne4 : ¬ (cap = i) := by omega
 obtain ⟨q, hq⟩ : ∃ q, q = i + n' := ⟨_, rfl⟩
 have hw1 : IntKind.i64.wrap ((i : Int) + (n' : Int)) = (q : Int) := by rw [IntKind.wrap_i64]; omega
 have hw2 : IntKind.i64.wrap ((n : Int) + (n' : Int)) = (tot : Int) := by rw [IntKind.wrap_i64]; omega
 have hcl : (q0j m).length = n' * 2 := by rw [q0X, hml]
 have hdl : (q0j (l.drop i)).length = p * 2 := by rw [q0X, List.length_drop, hR.len, hjp]
 have hct : cur.take (i * 2) = q0j (l.take i) := by rw [q7X, ← hR.cells, List.take_take, Nat.min_eq_left (by omega)]
 have hlL : (Tr.insOf l i m).length = tot := by unfold Tr.insOf; rw [zw2, zw2, zw4, List.length_drop, hR.len, hml]; omega
 have hcL : q0j (Tr.insOf l i m) = cur.take (i * 2) ++ q0j m ++ q0j (l.drop i) := by unfold Tr.insOf; rw [q3z, q3z, hct]
 have hjc : ∀ (k : Nat) (u : Value), (q0j (l.drop i))[k]? = some u → cur[i * 2 + k]? = some u := fun k u hu => by
  rw [qIZ, ← hR.cells, List.getElem?_drop, List.getElem?_take] at hu
  split at hu
  · exact hu
  · cases hu
 have hngt : ¬ ((tot : Int) > (cap : Int)) := by omega
 have hwd : (tot : Int) ≤ (cap : Int) := by omega
 have hqj : ¬ ((q : Int) ≤ (i : Int)) := by omega
 have R0 : Row w g 45 cur := hR.row.keep rfl
 have HR0 : Hid _ := R0
 obtain ⟨w5, hr5, R5, K5, S5⟩ := q3Z (Pr := Tryz.prog) w.drew 36 36 3 45 Tryz.underlying36 (by kernel_rfl) (some ⟨g, q * 2, none⟩) (some ⟨g, i * 2, none⟩) (tot - q) (cap - q) (tot - i) (cap - i) g (q * 2) cur _ (R0.keep (w' := w.drew) rfl) (q0j (l.drop i)) (by rw [hdl, show Nat.min (tot - i) (tot - q) = p from (by rw [show Nat.min (tot - i) (tot - q) = tot - q from Nat.min_eq_right (by omega)]; omega)]) (fun _ => ⟨rfl, _, rfl, fun k u hu => by
  rw [Addr.add_lit]
  exact (R0.keep (w' := w.drew) rfl).cell (hjc k u hu)⟩) (by rw [hdl, hR.size]; omega) (qAz _)
 have hl5 : (splice cur (q * 2) (q0j (l.drop i))).length = cap * 2 := by rw [length_splice _ _ _ (by rw [hdl, hR.size]; omega), hR.size]
 obtain ⟨w6, hr6, R6, K6, S6⟩ := q3Z (Pr := Tryz.prog) w5 36 36 3 45 Tryz.underlying36 (by kernel_rfl) (some ⟨g, i * 2, none⟩) (some ⟨vb, vo, none⟩) (tot - i) (cap - i) n' c' g (i * 2) _ _ R5 (q0j m) (by rw [hcl, show Nat.min n' (tot - i) = n' from Nat.min_eq_left (by omega)]) (fun _ => ⟨rfl, _, rfl, rItms_src hV (K5.block vb hvg)⟩) (by rw [hcl, hl5]; omega) (qAz m)
 have hl6 : (splice (splice cur (q * 2) (q0j (l.drop i))) (i * 2) (q0j m)).length = cap * 2 := by rw [length_splice _ _ _ (by rw [hcl, hl5]; omega), hl5]
 have HO : Hid (OwnI 45 w6 base (.slice (some ⟨g, 0, none⟩) tot cap) (Tr.insOf l i m)) := by
  refine qGZ R6 hl6 hR.most hR.base_ hlL (by omega) ?_
  rw [hcL]
  have e1 : (splice cur (q * 2) (q0j (l.drop i))).take (i * 2) = cur.take (i * 2) := q5q (by omega) (by rw [hR.size]; omega)
  have e2 : (splice cur (q * 2) (q0j (l.drop i))).drop (q * 2) = q0j (l.drop i) ++ cur.drop (q * 2 + (q0j (l.drop i)).length) := qRz (by rw [hR.size]; omega)
  conv => lhs; rw [splice, e1, show i * 2 + (q0j m).length = q * 2 by rw [hcl]; omega, e2]
  have e3 : (cur.take (i * 2) ++ q0j m ++ q0j (l.drop i)).length = tot * 2 := by rw [zw2, zw2, zw4, hR.size, hcl, hdl]; omega
  rw [← e3]
  simp only [← List.append_assoc]
  exact List.take_left
 have HG : Hid (Grew w w6 (.slice (some ⟨g, 0, none⟩) n cap) (.slice (some ⟨g, 0, none⟩) tot cap)) := by
  refine ⟨⟨K6.os.trans K5.os, K6.tape.trans K5.tape, K6.output.trans K5.output, zw1 K5.size K6.size, fun x hx hne => ?_⟩, fun b e => .inl e⟩
  have hxg : x ≠ g := fun e => hne (by rw [e]; rfl)
  exact (K6.block x hxg).trans (K5.block x hxg)
 have HC5 : Hid _ := hr5
 have hqi : (q : Int) ≤ (tot : Int) := by omega
 have hii : (i : Int) ≤ (tot : Int) := by omega
 have hqt : q < tot := by omega
 have hit : i < tot := by omega
 have hne1 : ¬ (cap = q) := by omega
 have hsb : w.shape? g = some (45, cap * 2) := by
  unfold World.shape?
  rw [R0.eq, ← hR.size]
  rfl
 have hsa : w.shape? vb = some (45, cv.length) := by
  unfold World.shape?
  rw [hVr.eq]
  rfl
 have hov : (callFunc 56 #[.slice (some ⟨vb, vo, none⟩) n' c', .slice (some ⟨g, q * 2, none⟩) (tot - q) (cap - q)]).run Tryz.prog w = .ok (.value (.bool false)) w := by
  rw [run_callFunc_extern Tryz.func56 (by kernel_rfl) (by kernel_rfl) (by kernel_rfl) (e := Extern.SlicesOverlaps.overlaps #[36, 36] #[4]) (by kernel_rfl),
   Lib.run_overlaps_apart w 36 4 45 Tryz.underlying36 2 (fun w => by kernel_rfl) ⟨vb, vo, none⟩ ⟨g, q * 2, none⟩ n' c' (tot - q) (cap - q) hvg _ _ _ _ hsa hsb (by omega) (hVr.frozen _) (hVr.frozen _)]
  rfl
 clear hsa hsb hVr
 clear hr5 R0 R5 R6 K5 K6 S5 S6 hl5 hl6 hR hV hcl hdl hct hlL hcL hjc hml htot hq hcase
 go_enter Tryz.func38, Tryz.ntmps38
 go_wp2_with fail
 refine wp_region_held_drew (S := (fun _ : World => True)) (by kernel_rfl) (trivial) (fun hH => ?_)
 refine tkM 0 _ rfl rfl ?_; simp only [sz, ss]
 refine tkM 1 _ rfl rfl ?_; simp only [sz, ss]
 refine tkM 2 _ rfl rfl ?_; simp only [sz, ss]
 refine tkM 3 _ rfl rfl ?_; simp only [sz, ss]
 refine tkM 4 _ rfl rfl ?_; simp only [sz, ss]
 refine tkM 5 _ rfl rfl ?_; simp only [sz, ss]
 refine tkM 6 _ rfl rfl ?_; simp only [sz, ss]
 refine tkM 7 _ rfl rfl ?_; simp only [sz, ss]
 refine r1L 8 rfl fun K hK => ?_
 · refine qBZ rfl rfl (.tmp 73) (.tmp 76) _ rfl (.slice (some ⟨g, q * 2, none⟩) (tot - q) (cap - q)) (.slice (some ⟨g, i * 2, none⟩) (tot - i) (cap - i)) _ rfl rfl HC5.out ?_
   refine hK.out _ _ ?_ (fun hH => ?_)
   · try dsimp only
     all_goals trivial
   clear hK K
   refine wpAnyH_done (by kernel_rfl) ?_ _
   clear hH
   go_wp2
   go_ret
   exact ⟨_, _, _, rfl, HO.out, HG.out⟩
theorem insert_u (w : World) (base : Nat) (a : Option Addr) (n cap i : Nat) (l : List Itm) (hO : OwnI 45 w base (.slice a n cap) l) (P : Nat → Prop) (vb n' c' : Nat) (m : List Itm) (hV : rItms.rd w P [.slice (some ⟨vb, 0, none⟩) n' c'] m) (hvg : (Value.slice a n cap).ownBlock ≠ some vb) (cv : List Value) (hVr : Row w vb 45 cv) (hp' : 0 < n') (hi : i ≤ n) (hn : n ≤ 1000) (hn' : n' ≤ 1000) (hb : base ≤ w.heap.size) :
 Calls Tryz.prog 38 #[.slice a n cap, .int .i64 (i : Int), .slice (some ⟨vb, 0, none⟩) n' c'] w fun e w' => ∃ ra rn rc, e = .returned (.slice ra rn rc) ∧ OwnI 45 w' base (.slice ra rn rc) (Tr.insOf l i m) ∧ Grew w w' (.slice a n cap) (.slice ra rn rc) := by
 by_cases h1 : i = n
 · subst h1
   exact insert_end w base a i cap l hO P vb 0 n' c' m hV hp' hn hn' hb
 obtain ⟨g, rfl⟩ : ∃ g, a = some ⟨g, 0, none⟩ := by
  rcases hO.row.2 with ⟨e, h0⟩ | ⟨g, c2, cur, e, -⟩
  · simp only [Value.slice.injEq] at e; omega
  · simp only [Value.slice.injEq] at e
    exact ⟨g, e.1⟩
 have hv : vb ≠ g := fun e => hvg (by rw [e]; rfl)
 obtain ⟨cur, hR⟩ := hO.repI
 by_cases h2 : cap < i + n' + (n - i)
 · exact insert_grow w base g n cap i l cur hR P vb 0 n' c' m hV hv hp' (n - i) _ rfl (by omega) rfl hn hn' hb h2
 · exact insert_up w base g n cap i l cur hR P vb 0 n' c' m hV hv cv hVr hp' (n - i) _ rfl (by omega) rfl hn hn' hb (by omega)
theorem RepI.set {w : World} {base g n cap : Nat} {l : List Itm} {cur : List Value} (h : RepI w base g n cap l cur) {i : Nat} (hi : i < n) (x : Itm) :
 RepI ((w.setCell ⟨g, i * 2, none⟩ (.int .u64 (x.1.toNat : Int))).setCell ⟨g, i * 2 + 1, none⟩ (.int .u64 (x.2.toNat : Int))) base g n cap (l.set i x) ((cur.set (i * 2) (.int .u64 (x.1.toNat : Int))).set (i * 2 + 1) (.int .u64 (x.2.toNat : Int))) := by
 have hl := h.len
 refine ⟨(h.row.set _ _).set _ _, by rw [List.length_set, List.length_set]; exact h.size, h.le, h.most, h.base_, ?_, by rw [List.length_set]; exact hl⟩
 rw [List.take_set, List.take_set, h.cells, q8q l i (by omega) x.1, qCj _ i (by rw [List.length_set]; omega) x.2]
 congr 1
 simp [List.set_set]
theorem rise_up {l : List Itm} (h : Lf.rise l = true) : Tr.Up l := Tr.up_of_rise h
theorem put1_turner (x : Itm) (bx B : Nat) (hb : bx < B) : qEz (Tr.putT x) 35 #[.pointer (some ⟨bx, 0, none⟩)] B (fun w => Row w bx 45 [.int .u64 (x.1.toNat : Int), .int .u64 (x.2.toNat : Int)]) := by
 refine ⟨enters_of Tryz.func35 (by kernel_rfl) rfl, (fun l h => zw1 (Tr.putT_few x l) (by omega)), (fun h k => h.keep (k.block _ hb)), ?_⟩
 intro w base a n c l hJ hB hbase hO hl3 hrise
 have hup := rise_up hrise
 have HX : Hid _ := hJ
 have HO : Hid _ := hO
 have HU : Hid (Tr.Up l) := hup
 have hn : n = l.length := by obtain ⟨p, q, e, -⟩ := hO.slice; simp only [Value.slice.injEq] at e; exact e.2.1
 have HN : Hid (n = l.length) := hn
 have hn3 : n ≤ 3 := by omega
 obtain ⟨x0, x1⟩ := HX.out.two
 have hc := bin_u w (fun b => base ≤ b) a n c l (hO.rd (by omega)) (by omega) hup x.1
 have HB : Hid (B ≤ base ∧ base ≤ w.heap.size ∧ bx < B) := ⟨hB, hbase, hb⟩
 show Calls Tryz.prog 35 #[.slice a n c, .pointer (some ⟨bx, 0, none⟩)] w _
 obtain ⟨i, hi⟩ : ∃ i, i = Tr.cnt x.1 l := ⟨_, rfl⟩
 have HI : Hid (i = Tr.cnt x.1 l) := hi
 rw [← hi] at hc
 have hin : i ≤ n := by rw [hi, hn]; exact Tr.cnt_le _ _
 cases hh : Tr.has x.1 l with
 | true =>
   rw [hh] at hc
   obtain ⟨hj, -⟩ := (Tr.has_iff hup).1 hh
   have hlt : i < n := by rw [hi, hn]; exact hj
   have HP : Hid (l.set i x = Tr.putT x l) := by unfold Hid; rw [hi]; exact Tr.putT_old hup hh
   have hiz : (i : Int) < (n : Int) := by omega
   have hi0 : (0 : Int) ≤ (i : Int) := Int.natCast_nonneg _
   obtain ⟨g, rfl⟩ : ∃ g, a = some ⟨g, 0, none⟩ := by
    rcases hO.row.2 with ⟨e, h0⟩ | ⟨g, c2, cur, e, -⟩
    · simp only [Value.slice.injEq] at e; omega
    · simp only [Value.slice.injEq] at e
      exact ⟨g, e.1⟩
   clear hJ hO hup hi hn hh hj hrise hl3 hB hbase hb
   go_enter Tryz.func35, Tryz.ntmps35
   go_wp2_with fail
   go_at_call 36
   refine hc.mono ?_
   rintro e w2 ⟨rfl, b2⟩
   obtain ⟨cur, R2⟩ := (HO.out.below b2).repI
   have HR2 : Hid _ := R2
   have HR3 : Hid _ := R2.set hlt x
   have HG : Hid (Grew w ((w2.setCell ⟨g, i * 2, none⟩ (.int .u64 (x.1.toNat : Int))).setCell ⟨g, i * 2 + 1, none⟩ (.int .u64 (x.2.toNat : Int))) (.slice (some ⟨g, 0, none⟩) n c) (.slice (some ⟨g, 0, none⟩) n c)) := by
    have K : Kept (· ≠ g) w2 ((w2.setCell ⟨g, i * 2, none⟩ (.int .u64 (x.1.toNat : Int))).setCell ⟨g, i * 2 + 1, none⟩ (.int .u64 (x.2.toNat : Int))) := ((Kept.refl _ w2).setCell (p := ⟨g, i * 2, none⟩) (fun h => h rfl) _).setCell (p := ⟨g, i * 2 + 1, none⟩) (fun h => h rfl) _
    refine ⟨⟨K.os.trans b2.os, K.tape.trans b2.tape, K.output.trans b2.output, zw1 b2.size K.size, fun q hq hne => ?_⟩, fun b e => .inl e⟩
    have hqg : q ≠ g := fun e => hne (by rw [e]; rfl)
    exact (K.block q hqg).trans (b2.block q hq)
   obtain ⟨z0, z1⟩ := (HX.out.below b2).two
   have f0 := R2.row.frozen (i * 2)
   have f1 := R2.row.frozen (i * 2 + 1)
   have hlen : i * 2 + 1 < cur.length := by rw [R2.size]; have := R2.le; omega
   obtain ⟨y0, hy0⟩ : ∃ y, w2.cell? ⟨g, i * 2, none⟩ = some y := ⟨_, R2.row.cell (zw3 (by omega))⟩
   obtain ⟨y1, hy1⟩ : ∃ y, w2.cell? ⟨g, i * 2 + 1, none⟩ = some y := ⟨_, R2.row.cell (zw3 hlen)⟩
   clear b2 R2 x0 x1 hc hlen
   go_wp2
   go_ret
   exact ⟨_, _, _, rfl, by rw [← HP.out]; exact HR3.out.own, HG.out⟩
 | false =>
   rw [hh] at hc
   have HP : Hid (Tr.insOf l i [x] = Tr.putT x l) := by unfold Hid; rw [hi]; exact Tr.putT_new hup hh
   clear hJ hO hup hi hn hh hrise hl3 hB hbase hb
   go_enter Tryz.func35, Tryz.ntmps35
   go_wp2_with fail
   go_at_call 36
   refine hc.mono ?_
   rintro e w2 ⟨rfl, b2⟩
   obtain ⟨w3, hw3, V3r, b3, z3⟩ := q0q w2 45 [.int .u64 (x.1.toNat : Int), .int .u64 (x.2.toNat : Int)]
   have V3 : Hid _ := V3r
   have HO3 : Hid _ := (HO.out.below b2).below b3
   have HOV : Hid (OwnI 45 w3 w2.heap.size (.slice (some ⟨w2.heap.size, 0, none⟩) 1 1) [x]) := OwnI.ofRow (l := [x]) V3r rfl (zw0 _) (by omega)
   have HV : Hid ((Value.slice a n c).ownBlock ≠ some w2.heap.size) := fun e => by have := ((HO.out.below b2).row.lt _ e).2; omega
   have HB3 : Hid (Below w.heap.size w w3) := on b2 b3
   have HNb : Hid (∀ b, (Value.slice a n c).ownBlock = some b → b < w.heap.size) := fun b e => (HO.out.row.lt b e).2
   obtain ⟨z0, z1⟩ := (HX.out.below b2).two
   clear b2 b3 V3r z3 x0 x1 hc
   go_wp2_with fail
   go_at_call 38
   refine (insert_u w3 base a n c i l HO3.out _ w2.heap.size 1 1 [x] (HOV.out.rd (by simp)) HV.out _ V3.out (by omega) hin (by omega) (by omega) (by have := HB.out; have := HB3.out.size; omega)).mono ?_
   rintro e w4 ⟨ra, rn, rc, rfl, ho, gr⟩
   have HG : Hid (Grew w w4 (.slice a n c) (.slice ra rn rc)) := by
    have b3 := HB3.out
    refine ⟨⟨gr.grown.os.trans b3.os, gr.grown.tape.trans b3.tape, gr.grown.output.trans b3.output, zw1 b3.size gr.grown.size, fun q hq hne => (gr.grown.block q (by have := b3.size; omega) hne).trans (b3.block q hq)⟩, fun b e => ?_⟩
    rcases gr.place b e with k | k
    · exact .inl k
    · exact .inr (by have := b3.size; omega)
   have HO4 : Hid _ := ho
   clear ho gr
   go_wp2
   go_ret
   exact ⟨_, _, _, rfl, by rw [← HP.out]; exact HO4.out, HG.out⟩
attribute [local go_sem] Oper.semAt_some
theorem chg_leaf {T : List Itm → List Itm} {key : UInt64} {f : Nat} {bs : Array Value} {B : Nat} {J : World → Prop} (hT : qEz T f bs B J) (w : World) (g base : Nat) (v : Value) (s : Pgs) (hW : Wr w g base v s (.int .u64 (key.toNat : Int)) (.func (.func f) #[] bs)) (hJ : J w) (hB : B ≤ g ∧ B ≤ base) (fr : UInt64) (p : Int) (hp1 : 1 ≤ p) (hp2 : p ≤ 2049) (nd : Nod) (hnd : Tr.nodeE s p = .ok nd) (hk : nd.2 = []) :
 Calls Tryz.prog 68 #[.pointer (some ⟨g, 0, none⟩), .agg #[.int .u64 (fr.toNat : Int), .int .i64 p]] w fun e w' => ChgDone (.ok (s, (T nd.1, []))) g base v (.int .u64 (key.toNat : Int)) (.func (.func f) #[] bs) w e w' := by
 have HKn : Hid (nd.2 = []) := hk
 clear hk
 obtain ⟨pa, pc, rfl, hpl, hpn⟩ := hW.pgs.slice
 obtain ⟨w1, hw1, V1, b1, z1⟩ := q0q w 133 [.int .u64 (fr.toNat : Int), .int .i64 p]
 obtain ⟨w2, hw2, V2r, b2, z2⟩ := q0q w1 111 [.slice none 0 0, .slice none 0 0]
 have HT : Hid _ := hT
 have B2 : Hid (Below w.heap.size w w2) := on b1 b2
 have V2 : Hid _ := V2r
 have V1b : Hid _ := V1.below b2
 have W2 : Hid (Wr w2 g base (.slice pa s.length pc) s (.int .u64 (key.toNat : Int)) (.func (.func f) #[] bs)) := hW.below B2.out
 have HW0 : Hid _ := hW
 have HZ : Hid (w1.heap.size = w.heap.size + 1) := z1
 have HZ2 : Hid (w2.heap.size = w.heap.size + 2) := by unfold Hid; omega
 have HOk : Hid (Lf.Ok nd) := Tr.nodeE_ok hnd
 have HNd : Hid (Tr.nodeE s p = .ok nd) := hnd
 have HJ0 : Hid (J w) := hJ
 have HB : Hid (B ≤ g ∧ B ≤ base) := hB
 have HGw : Hid (g < w.heap.size) := hW.row.lt
 have HSee : Hid (∀ W', Below w2.heap.size w2 W' → W'.cell? ⟨g, 0, none⟩ = some (.slice pa s.length pc) ∧ W'.cell? ⟨w.heap.size, 1, none⟩ = some (.int .i64 p)) := by
  intro W' b'
  exact ⟨(W2.out.row.below b').cell (j := 0) rfl, (V1b.out.below b').cell (j := 1) rfl⟩
 have HRd : Hid (∀ W', Below w2.heap.size w2 W' → rSectors.rd W' (fun b => base ≤ b) [.slice pa s.length pc] s) := fun W' b' => Rep.below (W2.out.pgs.rd hW.few) b'
 have h0 : -9223372036854775808 ≤ p := by omega
 have h1 : p ≤ 9223372036854775807 := by omega
 clear hW hpl hpn V1 V2r b1 b2 z1 z2 hT hnd hJ hB hp1 hp2
 go_enter Tryz.func68, Tryz.ntmps68
 go_wp2_with fail
 go_cut [5] (fun t wx => ∃ nb ia il ic ka kl kc, t = .pointer (some ⟨nb, 0, none⟩) ∧ Hid (w2.heap.size ≤ nb) ∧ Hid (Row wx nb 63 [.slice ia il ic, .slice ka kl kc]) ∧ Hid (OwnI 45 wx w2.heap.size (.slice ia il ic) nd.1) ∧ Hid (OwnK 3 wx w2.heap.size (.slice ka kl kc) nd.2) ∧ Hid (Below w2.heap.size w2 wx))
 case first =>
  refine wp_region_held_drew (S := (fun w' : World => w'.cell? ⟨g, 0, none⟩ = some (.slice pa s.length pc) ∧ w'.cell? ⟨w.heap.size, 1, none⟩ = some (.int .i64 p))) (by kernel_rfl) (HSee.out _ (Below.refl _ _).drew) (fun hH => ?_)
  refine tkM 0 _ rfl rfl ?_; simp only [sz, ss]
  refine tkM 1 _ rfl rfl ?_; simp only [sz, ss]
  refine tkM 2 _ rfl rfl ?_; simp only [sz, ss]
  refine tkM 3 _ rfl rfl ?_; simp only [sz, ss]
  refine tkM 4 _ rfl rfl ?_; simp only [sz, ss]
  refine tkM 5 _ rfl rfl ?_; simp only [sz, ss]
  refine rdL [6, 7] ?_
  refine rcL (fun K hK => ?_) ?_
  · go_simp
    go_at_call 75
    refine Calls.mono (q9z _ _ pa pc s (HRd.out _ ((Below.refl _ _).drew)) p h0 h1) ?_
    rintro e w3 ⟨hb3, hok, -⟩
    have b3 : Below w2.heap.size w2 w3 := on ((Below.refl _ _).drew) hb3
    obtain ⟨ia, il, ic, ka, kl, kc, rfl, hI3, hK3⟩ := hok nd HNd.out
    have HB3 : Hid _ := b3
    have HI3 : Hid _ := hI3
    have HK3 : Hid _ := hK3
    clear hok hI3 hK3 b3 hb3
    go_simp
    refine hK.out _ _ (by exact HSee.out _ HB3.out) fun hH => ?_; clear hK K
    refine r1L 7 rfl fun K hK => ?_
    · go_simp
      refine hK.out _ _ (by exact HSee.out _ (q0Q HB3.out _)) fun hH => ?_; clear hK K
      refine r1L 8 rfl fun K hK => ?_
      · go_simp
        refine hK.out _ _ (by exact HSee.out _ (q0Q HB3.out _)) fun hH => ?_; clear hK K
        refine wpAnyH_done (by kernel_rfl) ?_ _
        clear hH
        go_wp2_with fail
        go_meet
        exact ⟨w3.heap.size, ia, il, ic, ka, kl, kc, rfl, HB3.out.size, q1Z _ _ _, HI3.out.below ((Below.refl _ w3).alloc (zw0 _) _), HK3.out.below ((Below.refl _ w3).alloc (zw0 _) _), q0Q HB3.out _⟩
  refine rcL (fun K hK => ?_) ?_
  · have BZ : Hid (Below w2.heap.size w2 (w2.alloc (.cells #[.slice none 0 0, .slice none 0 0] 63)).drew) := ((Below.refl _ w2).alloc (zw0 _) _).drew
    have VZ : Hid (Row (w2.alloc (.cells #[.slice none 0 0, .slice none 0 0] 63)).drew w2.heap.size 63 [.slice none 0 0, .slice none 0 0]) := (q1Z w2 _ _).keep rfl
    obtain ⟨wZ, hwZ⟩ : ∃ wZ, wZ = (w2.alloc (.cells #[.slice none 0 0, .slice none 0 0] 63)).drew := ⟨_, rfl⟩
    rw [← hwZ] at BZ VZ
    go_simp
    rw [← hwZ]
    clear hwZ
    refine hK.out _ _ (by exact HSee.out _ BZ.out) fun hH => ?_; clear hK K
    refine r1L 6 rfl fun K hK => ?_
    · go_simp
      go_at_call 75
      refine Calls.mono (q9z _ _ pa pc s (HRd.out _ (BZ.out)) p h0 h1) ?_
      rintro e w3 ⟨hb3, hok, -⟩
      have b3 : Below w2.heap.size w2 w3 := on (BZ.out) hb3
      obtain ⟨ia, il, ic, ka, kl, kc, rfl, hI3, hK3⟩ := hok nd HNd.out
      have HB3 : Hid _ := b3
      have VC : Hid _ := VZ.out.below hb3
      have hlt : Hid (w2.heap.size < wZ.heap.size) := VZ.out.lt
      have HI3 : Hid _ := hI3
      have HK3 : Hid _ := hK3
      obtain ⟨g0, g1⟩ := VC.out.two
      have g2 := VC.out.frozen 0
      have g3 := VC.out.frozen 1
      clear hok hI3 hK3 b3 hb3
      go_simp
      refine hK.out _ _ (by exact HSee.out _ HB3.out) fun hH => ?_; clear hK K
      refine r1L 8 rfl fun K hK => ?_
      · go_simp
        refine hK.out _ _ (by exact HSee.out _ ((HB3.out.setCell (p := ⟨w2.heap.size, 0, none⟩) (zw0 _) _).setCell (p := ⟨w2.heap.size, 1, none⟩) (zw0 _) _)) fun hH => ?_; clear hK K
        refine wpAnyH_done (by kernel_rfl) ?_ _
        clear hH
        go_wp2_with fail
        go_meet
        obtain ⟨w9, hw9, V9, K9⟩ := VC.out.whole2 (.slice ia il ic) (.slice ka kl kc)
        rw [hw9]
        exact ⟨w2.heap.size, ia, il, ic, ka, kl, kc, rfl, zw0 _, V9, (HI3.out.keptL K9 hlt.out).mono (Nat.le_of_lt hlt.out), (HK3.out.keptL K9 hlt.out).mono (Nat.le_of_lt hlt.out), Kept.belowOf HB3.out K9 (zw0 _)⟩
  exact rnL
 case rest =>
  obtain ⟨nb, ia, il, ic, ka, kl, kc, rfl, HNb, RN, HI, HK, HB3⟩ := hcut
  obtain ⟨w3, hw3⟩ : ∃ w3, w3 = wc := ⟨_, rfl⟩
  subst hw3
  obtain ⟨r0, r1⟩ := (V1b.out.below HB3.out).two
  obtain ⟨q0, q1⟩ := RN.out.two
  have HKL : Hid (kl = nd.2.length) := by obtain ⟨x, y, e, -⟩ := HK.out.slice; simp only [Value.slice.injEq] at e; exact e.2.1
  clear HSee HRd V1b
  go_wp2_with fail
  go_at_call 80
  refine Calls.mono (q6X _ w2.heap.size ia ka il ic kl kc nd.1 nd.2 fr HI.out HK.out HOk.out.few (Tr.shape HOk.out) HB3.out.size) ?_
  rintro e w4 ⟨ca, cn, cc, da, dn, dc, rfl, hC4, b4⟩
  obtain ⟨w5, hw5, V5r, b5, z5⟩ := q0q w4 111 [.slice ca cn cc, .slice da dn dc]
  have B5 : Hid (Below w2.heap.size w2 w5) := on (on HB3.out b4) b5
  have HC5 : Hid (IsCnt w5 w2.heap.size (.slice ca cn cc) (.slice da dn dc) (Tr.contOf nd fr)) := hC4.below b5
  have RN5 : Hid _ := (RN.out.below b4).below b5
  have HI5 : Hid _ := (HI.out.below b4).below b5
  have V5 : Hid _ := V5r
  have HZ5 : Hid (w2.heap.size ≤ w4.heap.size ∧ w5.heap.size = w4.heap.size + 1) := ⟨(on HB3.out b4).size, z5⟩
  clear r0 r1 q0 q1 RN HI HK HB3 hC4 b4 b5 V5r z5
  obtain ⟨q0, q1⟩ := RN5.out.two
  go_wp2_with fail
  go_at_call 47
  refine (q4z _ _ _ _ _).mono ?_
  rintro e w6 ⟨rfl, b6⟩
  have B6 : Hid _ := on B5.out b6
  have HC6 : Hid _ := HC5.out.below b6
  have RN6 : Hid _ := RN5.out.below b6
  have HI6 : Hid _ := HI5.out.below b6
  have V6 : Hid _ := V5.out.below b6
  have R6 : Hid _ := V2.out.below B6.out
  have W6 : Hid _ := W2.out.below B6.out
  have HB0 : Hid _ := on B2.out B6.out
  have HJ6 : Hid (J w6) := HT.out.stay HJ0.out ((WTurn.of (g := g) HB0.out).under HW0.out HB.out)
  clear q0 q1 b6 B5 HC5 RN5 HI5 V5 W2 V2 hw5 hw1 hw2
  obtain rfl : kl = 0 := by rw [HKL.out, HKn.out]; rfl
  have HCI : Hid (OwnI 45 w6 w2.heap.size (.slice ca cn cc) nd.1) := by have h := HC6.out.items; rw [Tr.contOf_leaf fr HKn.out] at h; exact h
  have HSee4 : Hid (∀ W', Below w6.heap.size w6 W' → W'.cell? ⟨g, 2, none⟩ = some (.func (.func f) #[] bs) ∧ W'.cell? ⟨w4.heap.size, 0, none⟩ = some (.slice ca cn cc)) := fun W' b' => ⟨(W6.out.row.below b').cell (j := 2) rfl, (V6.out.below b').cell (j := 0) rfl⟩
  have eg := HT.out.enters
  clear HC6 RN6 HI6
  go_wp2_with fail
  refine wp_region_held_drew (S := (fun w' : World => w'.cell? ⟨g, 2, none⟩ = some (.func (.func f) #[] bs) ∧ w'.cell? ⟨w4.heap.size, 0, none⟩ = some (.slice ca cn cc))) (by kernel_rfl) (HSee4.out _ (Below.refl _ _).drew) (fun hH => ?_)
  refine tkM 0 _ rfl rfl ?_; simp only [sz, ss]
  refine tkM 1 _ rfl rfl ?_; simp only [sz, ss]
  refine tkM 2 _ rfl rfl ?_; simp only [sz, ss]
  refine tkM 3 _ rfl rfl ?_; simp only [sz, ss]
  refine tkM 4 _ rfl rfl ?_; simp only [sz, ss]
  refine tkM 5 _ rfl rfl ?_; simp only [sz, ss]
  refine r1L 6 rfl fun K hK => ?_
  · go_simp
    go_at_fn f
    refine Calls.mono (HT.out.call (w := w6.drew) (HT.out.stay HJ6.out ((Below.refl _ _).drew)) (base := w2.heap.size) (by have := HB.out; have := HGw.out; have := B2.out.size; omega) B6.out.size (HCI.out.below (Below.refl _ _).drew) HOk.out.few HOk.out.rises) ?_
    rintro e w7 ⟨ra, rn, rc, rfl, ho, gr⟩
    have tk : TK [45] w6 w7 := (TK.of (Below.refl _ _).drew _).trans (TK.grewI (HCI.out.below (Below.refl _ _).drew) gr)
    have bb : Below w2.heap.size w6.drew w7 := (HCI.out.below (Below.refl _ _).drew).base_below B6.out.size gr
    have HC7 : Hid _ := ho
    have R7 : Hid _ := R6.out.tk tk (by decide)
    have W7 : Hid (Wr w7 g base (.slice pa s.length pc) s (.int .u64 (key.toNat : Int)) (.func (.func f) #[] bs)) := W6.out.tk tk (by decide) (by decide) (by decide)
    have V7 : Hid _ := V6.out.tk tk (by decide)
    have B7 : Hid (Below w.heap.size w w7) := HB0.out.drew.trans (bb.mono B2.out.size)
    have hS7 : w7.cell? ⟨g, 2, none⟩ = some (.func (.func f) #[] bs) ∧ w7.cell? ⟨w4.heap.size, 0, none⟩ = some (.slice ca cn cc) := ⟨W7.out.row.cell (j := 2) rfl, V7.out.cell (j := 0) rfl⟩
    obtain ⟨g0, g1⟩ := R7.out.two
    have g2 := R7.out.frozen 0
    have g3 := R7.out.frozen 1
    have HS8 : Hid (∀ u u', ((w7.setCell ⟨w1.heap.size, 0, none⟩ u).setCell ⟨w1.heap.size, 1, none⟩ u').cell? ⟨g, 2, none⟩ = some (.func (.func f) #[] bs) ∧ ((w7.setCell ⟨w1.heap.size, 0, none⟩ u).setCell ⟨w1.heap.size, 1, none⟩ u').cell? ⟨w4.heap.size, 0, none⟩ = some (.slice ca cn cc)) := fun u u' => by
     obtain ⟨w8, hw8, V8, K8⟩ := R7.out.whole2 u u'
     rw [hw8]
     exact ⟨(W7.out.row.keep (K8.block g (by have := HGw.out; have := HZ.out; show g ≠ w1.heap.size; omega))).cell (j := 2) rfl, (V7.out.keep (K8.block _ (by have := HZ.out; have := HZ2.out; have := HZ5.out; show w4.heap.size ≠ w1.heap.size; omega))).cell (j := 0) rfl⟩
    clear ho gr tk bb
    go_simp
    refine hK.out _ _ (by exact hS7) fun hH => ?_; clear hK K
    refine tkM 7 _ rfl rfl ?_; simp only [sz, ss]
    refine r1L 8 rfl fun K hK => ?_
    · go_simp
      refine hK.out _ _ (by exact HS8.out _ _) fun hH => ?_; clear hK K
      refine wpAnyH_done (by kernel_rfl) ?_ _
      clear hH
      go_wp2
      exact qDq R7.out _ _ rfl rfl Tryz.underlying111 rfl (by kernel_rfl) (fun w' k' => ChgDone.yes rfl rfl ⟨(HC7.out.mono (by have := B2.out.size; exact this)).tk (TK.box R7.out k') (by decide), OwnB.nil _ _ _⟩ (W7.out.tk (TK.box R7.out k') (by decide) (by decide) (by decide)) (WTurn.of (Kept.belowOf B7.out k' (by have := HZ.out; omega))))
theorem chg_error {T : List Itm → List Itm} {key : UInt64} {f : Nat} {bs : Array Value} {B : Nat} {J : World → Prop} (hT : qEz T f bs B J) (w : World) (g base : Nat) (v : Value) (s : Pgs) (hW : Wr w g base v s (.int .u64 (key.toNat : Int)) (.func (.func f) #[] bs)) (hJ : J w) (hB : B ≤ g ∧ B ≤ base) (fr : UInt64) (p : Int) (hp1 : 1 ≤ p) (hp2 : p ≤ 2049) (nd : Nod) (hnd : Tr.nodeE s p = .ok nd) (x : Int) (hk : nd.2 ≠ []) (kid : Brn) (hkid : (Tr.contOf nd fr).2.getD (Lf.way nd key) (0, 0) = kid) (hrec : ∀ W, Below w.heap.size w W → Calls Tryz.prog 68 #[.pointer (some ⟨g, 0, none⟩), .agg #[.int .u64 (kid.1.toNat : Int), .int .i64 kid.2]] W fun e w' => ChgDone (.error x) g base v (.int .u64 (key.toNat : Int)) (.func (.func f) #[] bs) W e w') :
 Calls Tryz.prog 68 #[.pointer (some ⟨g, 0, none⟩), .agg #[.int .u64 (fr.toNat : Int), .int .i64 p]] w fun e w' => ChgDone (.error x) g base v (.int .u64 (key.toNat : Int)) (.func (.func f) #[] bs) w e w' := by
 have HKn : Hid (nd.2 ≠ []) := hk
 have HKid : Hid _ := hkid
 have HRec : Hid _ := hrec
 clear hk hkid hrec
 obtain ⟨pa, pc, rfl, hpl, hpn⟩ := hW.pgs.slice
 obtain ⟨w1, hw1, V1, b1, z1⟩ := q0q w 133 [.int .u64 (fr.toNat : Int), .int .i64 p]
 obtain ⟨w2, hw2, V2r, b2, z2⟩ := q0q w1 111 [.slice none 0 0, .slice none 0 0]
 have HT : Hid _ := hT
 have B2 : Hid (Below w.heap.size w w2) := on b1 b2
 have V2 : Hid _ := V2r
 have V1b : Hid _ := V1.below b2
 have W2 : Hid (Wr w2 g base (.slice pa s.length pc) s (.int .u64 (key.toNat : Int)) (.func (.func f) #[] bs)) := hW.below B2.out
 have HW0 : Hid _ := hW
 have HZ : Hid (w1.heap.size = w.heap.size + 1) := z1
 have HZ2 : Hid (w2.heap.size = w.heap.size + 2) := by unfold Hid; omega
 have HOk : Hid (Lf.Ok nd) := Tr.nodeE_ok hnd
 have HNd : Hid (Tr.nodeE s p = .ok nd) := hnd
 have HJ0 : Hid (J w) := hJ
 have HB : Hid (B ≤ g ∧ B ≤ base) := hB
 have HGw : Hid (g < w.heap.size) := hW.row.lt
 have HSee : Hid (∀ W', Below w2.heap.size w2 W' → W'.cell? ⟨g, 0, none⟩ = some (.slice pa s.length pc) ∧ W'.cell? ⟨w.heap.size, 1, none⟩ = some (.int .i64 p)) := by
  intro W' b'
  exact ⟨(W2.out.row.below b').cell (j := 0) rfl, (V1b.out.below b').cell (j := 1) rfl⟩
 have HRd : Hid (∀ W', Below w2.heap.size w2 W' → rSectors.rd W' (fun b => base ≤ b) [.slice pa s.length pc] s) := fun W' b' => Rep.below (W2.out.pgs.rd hW.few) b'
 have h0 : -9223372036854775808 ≤ p := by omega
 have h1 : p ≤ 9223372036854775807 := by omega
 clear hW hpl hpn V1 V2r b1 b2 z1 z2 hT hnd hJ hB hp1 hp2
 go_enter Tryz.func68, Tryz.ntmps68
 go_wp2_with fail
 go_cut [5] (fun t wx => ∃ nb ia il ic ka kl kc, t = .pointer (some ⟨nb, 0, none⟩) ∧ Hid (w2.heap.size ≤ nb) ∧ Hid (Row wx nb 63 [.slice ia il ic, .slice ka kl kc]) ∧ Hid (OwnI 45 wx w2.heap.size (.slice ia il ic) nd.1) ∧ Hid (OwnK 3 wx w2.heap.size (.slice ka kl kc) nd.2) ∧ Hid (Below w2.heap.size w2 wx))
 case first =>
  refine wp_region_held_drew (S := (fun w' : World => w'.cell? ⟨g, 0, none⟩ = some (.slice pa s.length pc) ∧ w'.cell? ⟨w.heap.size, 1, none⟩ = some (.int .i64 p))) (by kernel_rfl) (HSee.out _ (Below.refl _ _).drew) (fun hH => ?_)
  refine tkM 0 _ rfl rfl ?_; simp only [sz, ss]
  refine tkM 1 _ rfl rfl ?_; simp only [sz, ss]
  refine tkM 2 _ rfl rfl ?_; simp only [sz, ss]
  refine tkM 3 _ rfl rfl ?_; simp only [sz, ss]
  refine tkM 4 _ rfl rfl ?_; simp only [sz, ss]
  refine tkM 5 _ rfl rfl ?_; simp only [sz, ss]
  refine rdL [6, 7] ?_
  refine rcL (fun K hK => ?_) ?_
  · go_simp
    go_at_call 75
    refine Calls.mono (q9z _ _ pa pc s (HRd.out _ ((Below.refl _ _).drew)) p h0 h1) ?_
    rintro e w3 ⟨hb3, hok, -⟩
    have b3 : Below w2.heap.size w2 w3 := on ((Below.refl _ _).drew) hb3
    obtain ⟨ia, il, ic, ka, kl, kc, rfl, hI3, hK3⟩ := hok nd HNd.out
    have HB3 : Hid _ := b3
    have HI3 : Hid _ := hI3
    have HK3 : Hid _ := hK3
    clear hok hI3 hK3 b3 hb3
    go_simp
    refine hK.out _ _ (by exact HSee.out _ HB3.out) fun hH => ?_; clear hK K
    refine r1L 7 rfl fun K hK => ?_
    · go_simp
      refine hK.out _ _ (by exact HSee.out _ (q0Q HB3.out _)) fun hH => ?_; clear hK K
      refine r1L 8 rfl fun K hK => ?_
      · go_simp
        refine hK.out _ _ (by exact HSee.out _ (q0Q HB3.out _)) fun hH => ?_; clear hK K
        refine wpAnyH_done (by kernel_rfl) ?_ _
        clear hH
        go_wp2_with fail
        go_meet
        exact ⟨w3.heap.size, ia, il, ic, ka, kl, kc, rfl, HB3.out.size, q1Z _ _ _, HI3.out.below ((Below.refl _ w3).alloc (zw0 _) _), HK3.out.below ((Below.refl _ w3).alloc (zw0 _) _), q0Q HB3.out _⟩
  refine rcL (fun K hK => ?_) ?_
  · have BZ : Hid (Below w2.heap.size w2 (w2.alloc (.cells #[.slice none 0 0, .slice none 0 0] 63)).drew) := ((Below.refl _ w2).alloc (zw0 _) _).drew
    have VZ : Hid (Row (w2.alloc (.cells #[.slice none 0 0, .slice none 0 0] 63)).drew w2.heap.size 63 [.slice none 0 0, .slice none 0 0]) := (q1Z w2 _ _).keep rfl
    obtain ⟨wZ, hwZ⟩ : ∃ wZ, wZ = (w2.alloc (.cells #[.slice none 0 0, .slice none 0 0] 63)).drew := ⟨_, rfl⟩
    rw [← hwZ] at BZ VZ
    go_simp
    rw [← hwZ]
    clear hwZ
    refine hK.out _ _ (by exact HSee.out _ BZ.out) fun hH => ?_; clear hK K
    refine r1L 6 rfl fun K hK => ?_
    · go_simp
      go_at_call 75
      refine Calls.mono (q9z _ _ pa pc s (HRd.out _ (BZ.out)) p h0 h1) ?_
      rintro e w3 ⟨hb3, hok, -⟩
      have b3 : Below w2.heap.size w2 w3 := on (BZ.out) hb3
      obtain ⟨ia, il, ic, ka, kl, kc, rfl, hI3, hK3⟩ := hok nd HNd.out
      have HB3 : Hid _ := b3
      have VC : Hid _ := VZ.out.below hb3
      have hlt : Hid (w2.heap.size < wZ.heap.size) := VZ.out.lt
      have HI3 : Hid _ := hI3
      have HK3 : Hid _ := hK3
      obtain ⟨g0, g1⟩ := VC.out.two
      have g2 := VC.out.frozen 0
      have g3 := VC.out.frozen 1
      clear hok hI3 hK3 b3 hb3
      go_simp
      refine hK.out _ _ (by exact HSee.out _ HB3.out) fun hH => ?_; clear hK K
      refine r1L 8 rfl fun K hK => ?_
      · go_simp
        refine hK.out _ _ (by exact HSee.out _ ((HB3.out.setCell (p := ⟨w2.heap.size, 0, none⟩) (zw0 _) _).setCell (p := ⟨w2.heap.size, 1, none⟩) (zw0 _) _)) fun hH => ?_; clear hK K
        refine wpAnyH_done (by kernel_rfl) ?_ _
        clear hH
        go_wp2_with fail
        go_meet
        obtain ⟨w9, hw9, V9, K9⟩ := VC.out.whole2 (.slice ia il ic) (.slice ka kl kc)
        rw [hw9]
        exact ⟨w2.heap.size, ia, il, ic, ka, kl, kc, rfl, zw0 _, V9, (HI3.out.keptL K9 hlt.out).mono (Nat.le_of_lt hlt.out), (HK3.out.keptL K9 hlt.out).mono (Nat.le_of_lt hlt.out), Kept.belowOf HB3.out K9 (zw0 _)⟩
  exact rnL
 case rest =>
  obtain ⟨nb, ia, il, ic, ka, kl, kc, rfl, HNb, RN, HI, HK, HB3⟩ := hcut
  obtain ⟨w3, hw3⟩ : ∃ w3, w3 = wc := ⟨_, rfl⟩
  subst hw3
  obtain ⟨r0, r1⟩ := (V1b.out.below HB3.out).two
  obtain ⟨q0, q1⟩ := RN.out.two
  have HKL : Hid (kl = nd.2.length) := by obtain ⟨x, y, e, -⟩ := HK.out.slice; simp only [Value.slice.injEq] at e; exact e.2.1
  clear HSee HRd V1b
  go_wp2_with fail
  go_at_call 80
  refine Calls.mono (q6X _ w2.heap.size ia ka il ic kl kc nd.1 nd.2 fr HI.out HK.out HOk.out.few (Tr.shape HOk.out) HB3.out.size) ?_
  rintro e w4 ⟨ca, cn, cc, da, dn, dc, rfl, hC4, b4⟩
  obtain ⟨w5, hw5, V5r, b5, z5⟩ := q0q w4 111 [.slice ca cn cc, .slice da dn dc]
  have B5 : Hid (Below w2.heap.size w2 w5) := on (on HB3.out b4) b5
  have HC5 : Hid (IsCnt w5 w2.heap.size (.slice ca cn cc) (.slice da dn dc) (Tr.contOf nd fr)) := hC4.below b5
  have RN5 : Hid _ := (RN.out.below b4).below b5
  have HI5 : Hid _ := (HI.out.below b4).below b5
  have V5 : Hid _ := V5r
  have HZ5 : Hid (w2.heap.size ≤ w4.heap.size ∧ w5.heap.size = w4.heap.size + 1) := ⟨(on HB3.out b4).size, z5⟩
  clear r0 r1 q0 q1 RN HI HK HB3 hC4 b4 b5 V5r z5
  obtain ⟨q0, q1⟩ := RN5.out.two
  go_wp2_with fail
  go_at_call 47
  refine (q4z _ _ _ _ _).mono ?_
  rintro e w6 ⟨rfl, b6⟩
  have B6 : Hid _ := on B5.out b6
  have HC6 : Hid _ := HC5.out.below b6
  have RN6 : Hid _ := RN5.out.below b6
  have HI6 : Hid _ := HI5.out.below b6
  have V6 : Hid _ := V5.out.below b6
  have R6 : Hid _ := V2.out.below B6.out
  have W6 : Hid _ := W2.out.below B6.out
  have HB0 : Hid _ := on B2.out B6.out
  have HJ6 : Hid (J w6) := HT.out.stay HJ0.out ((WTurn.of (g := g) HB0.out).under HW0.out HB.out)
  clear q0 q1 b6 B5 HC5 RN5 HI5 V5 W2 V2 hw5 hw1 hw2
  have hkl : ¬ ((kl : Int) = 0) := by have := HKL.out; have : nd.2.length ≠ 0 := fun e => HKn.out (List.length_eq_zero_iff.1 e); omega
  obtain ⟨q, hq⟩ : ∃ q, q = Lf.way (nd.1, nd.2) key := ⟨_, rfl⟩
  have HQ : Hid (q = Lf.way nd key) := hq
  have HDN : Hid (dn = (Tr.contOf nd fr).2.length) := by obtain ⟨x, y, e, -⟩ := HC6.out.kids.slice; simp only [Value.slice.injEq] at e; exact e.2.1
  have HDN4 : Hid (2 ≤ dn ∧ dn ≤ 4) := by have h1 := (Tr.contOf_len fr HOk.out HKn.out).2; have h2 := HOk.out.some_; have h3 := HOk.out.few; have h4 := HDN.out; unfold Hid; omega
  have HQL : Hid (q < dn) := by have h := Tr.way_lt fr key HOk.out HKn.out; rw [← HDN.out, ← HQ.out] at h; exact h
  have HSee5 : Hid (∀ W', Below w6.heap.size w6 W' → W'.cell? ⟨nb, 0, none⟩ = some (.slice ia il ic) ∧ W'.cell? ⟨nb, 1, none⟩ = some (.slice ka kl kc) ∧ W'.cell? ⟨g, 1, none⟩ = some (.int .u64 (key.toNat : Int))) := fun W' b' => ⟨(RN6.out.below b').cell (j := 0) rfl, (RN6.out.below b').cell (j := 1) rfl, (W6.out.row.below b').cell (j := 1) rfl⟩
  have HWy : Hid _ := way_u w6.drew (fun b => w2.heap.size ≤ b) ia il ic (.slice ka kl kc) nd.1 nd.2 (Rep.below (HI6.out.rd (by have := HOk.out.few; omega)) (Below.refl _ _).drew) key
  rw [← hq] at HWy
  clear hq HKL RN6 HI6
  go_wp2_with fail
  refine wp_region_held_drew (S := (fun w' : World => w'.cell? ⟨nb, 0, none⟩ = some (.slice ia il ic) ∧ w'.cell? ⟨nb, 1, none⟩ = some (.slice ka kl kc) ∧ w'.cell? ⟨g, 1, none⟩ = some (.int .u64 (key.toNat : Int)))) (by kernel_rfl) (HSee5.out _ (Below.refl _ _).drew) (fun hH => ?_)
  refine tkM 0 _ rfl rfl ?_; simp only [sz, ss]
  refine tkM 1 _ rfl rfl ?_; simp only [sz, ss]
  refine tkM 2 _ rfl rfl ?_; simp only [sz, ss]
  refine tkM 3 _ rfl rfl ?_; simp only [sz, ss]
  refine tkM 4 _ rfl rfl ?_; simp only [sz, ss]
  refine r1L 5 rfl fun K hK => ?_
  · go_simp
    go_at_call 49
    refine Calls.mono HWy.out ?_
    rintro e w7 ⟨rfl, hb7⟩
    have b7 : Below w6.heap.size w6 w7 := q1Q hb7
    have hS7 := HSee5.out _ b7
    have HB7 : Hid _ := b7
    clear b7 hb7
    go_simp
    refine hK.out _ _ (by exact hS7) fun hH => ?_; clear hK K
    refine tkM 6 _ rfl rfl ?_; simp only [sz, ss]
    refine wpAnyH_done (by kernel_rfl) ?_ _
    clear hH hS7
    have V7 : Hid _ := V6.out.below HB7.out
    have R7 : Hid _ := R6.out.below HB7.out
    have W7 : Hid _ := W6.out.below HB7.out
    have B7 : Hid _ := on HB0.out HB7.out
    have HK7 : Hid (OwnB 133 w7 w2.heap.size (.slice da dn dc) (Tr.contOf nd fr).2) := HC6.out.kids.below HB7.out
    obtain ⟨kb, off, rfl, -, hkb, hat⟩ := q2j (HK7.out.rd (by have := HDN.out; have := HDN4.out; omega)) (by have := HQL.out; omega)
    have hkx : (Tr.contOf nd fr).2[q]'(by have := HDN.out; have := HQL.out; omega) = kid := by
     rw [← HKid.out, ← HQ.out]
     rw [List.getD_eq_getElem?_getD, zw3 (by have := HDN.out; have := HQL.out; omega)]
     rfl
    obtain ⟨c0, c1⟩ := hat q (by have := HDN.out; have := HQL.out; omega)
    rw [hkx] at c0 c1
    obtain ⟨y0, y1⟩ := V7.out.two
    have hq0 : (0 : Int) ≤ (q : Int) := Int.natCast_nonneg _
    have hq1 : (q : Int) < (dn : Int) := by have := HQL.out; omega
    have hq4 : q ≤ 4 := by have := HQL.out; have := HDN4.out; omega
    have hd4 : dn ≤ 4 := HDN4.out.2
    obtain ⟨q1, hq1e⟩ : ∃ q1, q1 = q + 1 := ⟨_, rfl⟩
    have HQ1 : Hid (q1 = q + 1) := hq1e
    have hwq : IntKind.i64.wrap ((q : Int) + 1) = (q1 : Int) := by rw [IntKind.wrap_i64]; omega
    clear hq1e hat hkx V6 R6 W6 HC6 HSee5 HWy
    go_wp2_with fail
    go_at_call 68
    refine Calls.mono (HRec.out w7 B7.out) ?_
    rintro e w8 hd
    obtain ⟨rfl, t8⟩ := hd.1 x rfl
    exact ⟨rfl, ChgDone.no rfl (Turn.trans (Turn.of B7.out) (t8.mono (fun b hb _ => hb)))⟩
theorem replace_grow (w : World) (base g n cap i : Nat) (l : List Brn) (cur : List Value) (hR : Rep0 w base g n cap l cur) (P : Nat → Prop) (vb vo n' c' : Nat) (m : List Brn) (hV : rBrns.rd w P [.slice (some ⟨vb, vo, none⟩) n' c'] m) (hvg : vb ≠ g) (hp' : 0 < n') (j p tot : Nat) (hij : i < j) (hjp : n - j = p) (hj : j < n) (htot : tot = i + n' + p) (hn : n ≤ 1000) (hn' : n' ≤ 1000) (hb : base ≤ w.heap.size) (hcase : cap < tot) :
 Calls Tryz.prog 84 #[.slice (some ⟨g, 0, none⟩) n cap, .int .i64 (i : Int), .int .i64 (j : Int), .slice (some ⟨vb, vo, none⟩) n' c'] w fun e w' => ∃ ra rn rc, e = .returned (.slice ra rn rc) ∧ OwnB 133 w' base (.slice ra rn rc) (Tr.replaced l i j m) ∧ Grew w w' (.slice (some ⟨g, 0, none⟩) n cap) (.slice ra rn rc) := by
 have hcap := hR.le
 have hml : m.length = n' := (q0x hV).1
 have hz1 : ((i : Int) == (j : Int)) = false := beq_eq_false_iff_ne.2 (by omega)
 have hz0 : ((j : Int) == (n : Int)) = false := beq_eq_false_iff_ne.2 (by omega)
 have hz2 : (i : Int) ≤ (j : Int) := by omega
 have hz3 : (j : Int) ≤ (cap : Int) := by omega
 have hz4 : (i : Int) ≤ (cap : Int) := by omega
 have hz5 : (j : Int) ≤ (n : Int) := by omega
 have hne3 : ¬ (cap = j) := by omega
 have hne4 : ¬ (cap = i) := by omega
 obtain ⟨q, hq⟩ : ∃ q, q = i + n' := ⟨_, rfl⟩
 have hw1 : IntKind.i64.wrap ((i : Int) + (n' : Int)) = (q : Int) := by rw [IntKind.wrap_i64]; omega
 have hw2 : IntKind.i64.wrap ((q : Int) + (p : Int)) = (tot : Int) := by rw [IntKind.wrap_i64]; omega
 have hcl : (q0z m).length = n' * 2 := by rw [q0J, hml]
 have hdl : (q0z (l.drop j)).length = p * 2 := by rw [q0J, List.length_drop, hR.len, hjp]
 have hct : cur.take (i * 2) = q0z (l.take i) := by rw [q3x, ← hR.cells, List.take_take, Nat.min_eq_left (by omega)]
 have hlL : (Tr.replaced l i j m).length = tot := by unfold Tr.replaced; rw [zw2, zw2, zw4, List.length_drop, hR.len, hml]; omega
 have hcL : q0z (Tr.replaced l i j m) = cur.take (i * 2) ++ q0z m ++ q0z (l.drop j) := by unfold Tr.replaced; rw [q1q, q1q, hct]
 have hjc : ∀ (k : Nat) (u : Value), (q0z (l.drop j))[k]? = some u → cur[j * 2 + k]? = some u := fun k u hu => by
  rw [q8j, ← hR.cells, List.getElem?_drop, List.getElem?_take] at hu
  split at hu
  · exact hu
  · cases hu
 obtain ⟨r, hr0⟩ : ∃ r, r = n' + p := ⟨_, rfl⟩
 have hw3 : IntKind.i64.wrap ((tot : Int) - (i : Int)) = (r : Int) := by rw [IntKind.wrap_i64]; omega
 have hir : i + r = tot := by omega
 have hgt : (tot : Int) > (cap : Int) := by omega
 obtain ⟨ht, ti, tz, hti, htz, hsize, hby, hzs, hpos⟩ := qNz
 have hsz2 : ti.size = 2 := hsize
 have hby2 : ti.bytes = 16 := hby
 have hzs2 : tz.cells.size = 2 := hzs
 have hol : (cur.take (i * 2)).length = i * 2 := by rw [zw4, hR.size]; omega
 have hrun := Lib.run_append_grow_zeros (P := Tryz.prog) w.drew 109 3 109 133 ti tz .i64 .i64 ht Tryz.underlying3 hti htz (some ⟨g, 0, none⟩) i cap (cur.take (i * 2)) (run_firstCells_some (P := Tryz.prog) w.drew.drew ti.size i ⟨g, 0, none⟩ i cap (cur.take (i * 2)) (by rw [hol, hsz2]) (fun k u hu => by
  rw [Addr.add_lit, Nat.zero_add]
  refine (hR.row.keep (w' := w.drew.drew) rfl).cell ?_
  rw [List.getElem?_take] at hu
  split at hu
  · exact hu
  · cases hu)) r (by omega) (by omega) (by omega) (by omega) (by rw [hby2]; omega) (growslice_fits (by omega) (by rw [hby2]; omega))
 rw [hir] at hrun
 obtain ⟨cap2, hcap2⟩ : ∃ cap2, cap2 = grownCap w.drew tot cap 133 := ⟨_, rfl⟩
 rw [← hcap2] at hrun
 have hc2 : tot ≤ cap2 := by rw [hcap2]; exact grownCap_ge _ _ _ _
 have hc3 : cap2 ≤ maxLen := by rw [hcap2]; exact grownCap_le_maxLen _ _ _ _ (by unfold maxLen; omega)
 obtain ⟨cur5, hcur5⟩ : ∃ cur5 : List Value, cur5 = ((cur.take (i * 2)).toArray ++ Builtin.zeroCells tz.cells r ++ Builtin.zeroCells tz.cells (cap2 - tot)).toList := ⟨_, rfl⟩
 have hl5 : cur5.length = cap2 * 2 := by
  rw [hcur5, Array.length_toList, Array.size_append, Array.size_append, size_zeroCells, size_zeroCells, hzs2, List.size_toArray, hol]
  omega
 have ht5 : cur5.take (i * 2) = cur.take (i * 2) := by
  rw [hcur5, Array.toList_append, Array.toList_append, List.append_assoc]
  rw [List.take_append_of_le_length (by simp [hR.size]; omega)]
  simp [List.take_take]
 obtain ⟨w5, hw5⟩ : ∃ w5, w.drew.drew.alloc (.cells ((cur.take (i * 2)).toArray ++ Builtin.zeroCells tz.cells r ++ Builtin.zeroCells tz.cells (cap2 - tot)) 133) = w5 := ⟨_, rfl⟩
 rw [hw5] at hrun
 have R5 : Row w5 w.heap.size 133 cur5 := by
  rw [← hw5, hcur5]
  have := q1Z w.drew.drew 133 ((cur.take (i * 2)).toArray ++ Builtin.zeroCells tz.cells r ++ Builtin.zeroCells tz.cells (cap2 - tot)).toList
  rw [Array.toArray_toList] at this
  exact this
 have b5 : Below w.heap.size w w5 := by rw [← hw5]; exact ((Below.refl _ _).drew.drew).alloc (zw0 _) _
 have hgw : g < w.heap.size := hR.row.lt
 have hvw : vb < w.heap.size := by
  obtain ⟨b, off, e, -, h, -⟩ := q2j hV hp'
  simp only [Option.some.injEq, Addr.mk.injEq, and_true] at e
  rw [e.1]; exact h
 obtain ⟨w6, hr6, R6, K6, S6⟩ := q3Z (Pr := Tryz.prog) w5 109 109 3 133 Tryz.underlying109 (by kernel_rfl) (some ⟨w.heap.size, i * 2, none⟩) (some ⟨vb, vo, none⟩) (tot - i) (cap2 - i) n' c' w.heap.size (i * 2) cur5 _ R5 (q0z m) (by rw [hcl, show Nat.min n' (tot - i) = n' from Nat.min_eq_left (by omega)]) (fun _ => ⟨rfl, _, rfl, qBj hV (b5.block vb hvw)⟩) (by rw [hcl, hl5]; omega) (q2Z m)
 have hl6 : (splice cur5 (i * 2) (q0z m)).length = cap2 * 2 := by rw [length_splice _ _ _ (by rw [hcl, hl5]; omega), hl5]
 have b6 : Below w.heap.size w w6 := Kept.belowOf b5 K6 (zw0 _)
 have Rg : Row w6.drew g 133 cur := (hR.row.below (w' := w6) b6).keep rfl
 obtain ⟨w7, hr7, R7, K7, S7⟩ := q3Z (Pr := Tryz.prog) w6.drew 109 109 3 133 Tryz.underlying109 (by kernel_rfl) (some ⟨w.heap.size, q * 2, none⟩) (some ⟨g, j * 2, none⟩) (tot - q) (cap2 - q) p (cap - j) w.heap.size (q * 2) _ _ (R6.keep (w' := w6.drew) rfl) (q0z (l.drop j)) (by rw [hdl, show Nat.min p (tot - q) = p from Nat.min_eq_left (by omega)]) (fun _ => ⟨rfl, _, rfl, fun k u hu => by rw [Addr.add_lit]; exact Rg.cell (hjc k u hu)⟩) (by rw [hdl, hl6]; omega) (q2Z _)
 have HO : Hid (OwnB 133 w7 base (.slice (some ⟨w.heap.size, 0, none⟩) tot cap2) (Tr.replaced l i j m)) := by
  refine qBQ R7 ?_ hc3 hb hlL hc2 ?_
  · rw [length_splice _ _ _ (by rw [hdl, hl6]; omega), hl6]
  · rw [hcL, show tot * 2 = q * 2 + (q0z (l.drop j)).length by rw [hdl]; omega, q3j (by rw [hl6]; omega), show q * 2 = i * 2 + (q0z m).length by rw [hcl]; omega, q3j (by rw [hl5]; omega), ht5]
 have HG : Hid (Grew w w7 (.slice (some ⟨g, 0, none⟩) n cap) (.slice (some ⟨w.heap.size, 0, none⟩) tot cap2)) := by
  have b7 : Below w.heap.size w w7 := Kept.belowOf b6.drew K7 (zw0 _)
  refine ⟨⟨b7.os, b7.tape, b7.output, b7.size, fun x hx _ => b7.block x hx⟩, fun b e => .inr ?_⟩
  cases e
  exact zw0 _
 have HRun : Hid _ := hrun
 have HC7 : Hid _ := hr7
 have hti1 : (tot : Int) ≤ (cap2 : Int) := by omega
 have hqt : q < tot := by omega
 have hne1 : ¬ (cap2 = q) := by omega
 have hne2 : ¬ (cap2 = i) := by omega
 have hit : i < tot := by omega
 have hqi : (q : Int) ≤ (tot : Int) := by omega
 have hii : (i : Int) ≤ (tot : Int) := by omega
 clear ht hti htz hsize hby hzs hpos hsz2 hby2 hzs2 hrun hr7 hw5 hcur5 ht5 hl5 R5 R6 R7 K6 K7 S6 S7 Rg b5 b6 hl6 hc3 hcap2 hol hR hV hcl hdl hct hlL hcL hjc hml htot hq hr0 hir hgw hvw hcase
 go_enter Tryz.func84, Tryz.ntmps84
 go_wp2_with fail
 refine wp_region_held_drew (S := (fun _ : World => True)) (by kernel_rfl) (trivial) (fun hH => ?_)
 refine tkM 0 _ rfl rfl ?_; simp only [sz, ss]
 refine tkM 1 _ rfl rfl ?_; simp only [sz, ss]
 refine tkM 2 _ rfl rfl ?_; simp only [sz, ss]
 refine tkM 3 _ rfl rfl ?_; simp only [sz, ss]
 refine tkM 4 _ rfl rfl ?_; simp only [sz, ss]
 refine tkM 5 _ rfl rfl ?_; simp only [sz, ss]
 refine tkM 6 _ rfl rfl ?_; simp only [sz, ss]
 refine tkM 7 _ rfl rfl ?_; simp only [sz, ss]
 refine tkM 8 _ rfl rfl ?_; simp only [sz, ss]
 refine tkM 9 _ rfl rfl ?_; simp only [sz, ss]
 refine tkM 10 _ rfl rfl ?_; simp only [sz, ss]
 refine tkM 11 _ rfl rfl ?_; simp only [sz, ss]
 refine tkM 12 _ rfl rfl ?_; simp only [sz, ss]
 refine wpAnyH_done (by kernel_rfl) ?_ _
 clear hH
 go_wp2_with (at_builtin; refine Lib.wpList_append_run _ rfl _ _ _ _ rfl _ _ rfl rfl _ _ HRun.out ?_)
 refine wp_region_held_drew (S := (fun _ : World => True)) (by kernel_rfl) (trivial) (fun hH => ?_)
 refine tkM 0 _ rfl rfl ?_; simp only [sz, ss]
 refine tkM 1 _ rfl rfl ?_; simp only [sz, ss]
 refine tkM 2 _ rfl rfl ?_; simp only [sz, ss]
 refine tkM 3 _ rfl rfl ?_; simp only [sz, ss]
 refine tkM 4 _ rfl rfl ?_; simp only [sz, ss]
 refine tkM 5 _ rfl rfl ?_; simp only [sz, ss]
 refine tkM 6 _ rfl rfl ?_; simp only [sz, ss]
 refine tkM 7 _ rfl rfl ?_; simp only [sz, ss]
 refine tkM 8 _ rfl rfl ?_; simp only [sz, ss]
 refine r1L 9 rfl fun K hK => ?_
 · refine qBZ rfl rfl (.tmp 78) (.tmp 81) _ rfl (.slice (some ⟨w.heap.size, q * 2, none⟩) (tot - q) (cap2 - q)) (.slice (some ⟨g, j * 2, none⟩) p (cap - j)) _ rfl rfl HC7.out ?_
   refine hK.out _ _ ?_ (fun hH => ?_)
   · try dsimp only
     all_goals trivial
   clear hK K
   refine wpAnyH_done (by kernel_rfl) ?_ _
   clear hH
   go_wp2
   go_ret
   exact ⟨_, _, _, rfl, HO.out, HG.out⟩
theorem replace_down (w : World) (base g n cap i : Nat) (l : List Brn) (cur : List Value) (hR : Rep0 w base g n cap l cur) (P : Nat → Prop) (vb vo n' c' : Nat) (m : List Brn) (hV : rBrns.rd w P [.slice (some ⟨vb, vo, none⟩) n' c'] m) (hvg : vb ≠ g) (hp' : 0 < n') (j p tot : Nat) (hij : i < j) (hjp : n - j = p) (hj : j < n) (htot : tot = i + n' + p) (hn : n ≤ 1000) (hn' : n' ≤ 1000) (hb : base ≤ w.heap.size) (hcase : tot ≤ cap ∧ i + n' ≤ j) (hne5 : ¬ (cap = tot)) :
 Calls Tryz.prog 84 #[.slice (some ⟨g, 0, none⟩) n cap, .int .i64 (i : Int), .int .i64 (j : Int), .slice (some ⟨vb, vo, none⟩) n' c'] w fun e w' => ∃ ra rn rc, e = .returned (.slice ra rn rc) ∧ OwnB 133 w' base (.slice ra rn rc) (Tr.replaced l i j m) ∧ Grew w w' (.slice (some ⟨g, 0, none⟩) n cap) (.slice ra rn rc) := by
 have hcap := hR.le
 have hml : m.length = n' := (q0x hV).1
 have hz1 : ((i : Int) == (j : Int)) = false := beq_eq_false_iff_ne.2 (by omega)
 have hz0 : ((j : Int) == (n : Int)) = false := beq_eq_false_iff_ne.2 (by omega)
 have hz2 : (i : Int) ≤ (j : Int) := by omega
 have hz3 : (j : Int) ≤ (cap : Int) := by omega
 have hz4 : (i : Int) ≤ (cap : Int) := by omega
 have hz5 : (j : Int) ≤ (n : Int) := by omega
 have hne3 : ¬ (cap = j) := by omega
 have hne4 : ¬ (cap = i) := by omega
 obtain ⟨q, hq⟩ : ∃ q, q = i + n' := ⟨_, rfl⟩
 have hw1 : IntKind.i64.wrap ((i : Int) + (n' : Int)) = (q : Int) := by rw [IntKind.wrap_i64]; omega
 have hw2 : IntKind.i64.wrap ((q : Int) + (p : Int)) = (tot : Int) := by rw [IntKind.wrap_i64]; omega
 have hcl : (q0z m).length = n' * 2 := by rw [q0J, hml]
 have hdl : (q0z (l.drop j)).length = p * 2 := by rw [q0J, List.length_drop, hR.len, hjp]
 have hct : cur.take (i * 2) = q0z (l.take i) := by rw [q3x, ← hR.cells, List.take_take, Nat.min_eq_left (by omega)]
 have hlL : (Tr.replaced l i j m).length = tot := by unfold Tr.replaced; rw [zw2, zw2, zw4, List.length_drop, hR.len, hml]; omega
 have hcL : q0z (Tr.replaced l i j m) = cur.take (i * 2) ++ q0z m ++ q0z (l.drop j) := by unfold Tr.replaced; rw [q1q, q1q, hct]
 have hjc : ∀ (k : Nat) (u : Value), (q0z (l.drop j))[k]? = some u → cur[j * 2 + k]? = some u := fun k u hu => by
  rw [q8j, ← hR.cells, List.getElem?_drop, List.getElem?_take] at hu
  split at hu
  · exact hu
  · cases hu
 have hwd : (tot : Int) ≤ (cap : Int) := by omega
 have hngt : ¬ ((tot : Int) > (cap : Int)) := by omega
 have hqj : (q : Int) ≤ (j : Int) := by omega
 have R0 : Row w.drew g 133 cur := hR.row.keep rfl
 obtain ⟨w5, hr5, R5, K5, S5⟩ := q3Z (Pr := Tryz.prog) w.drew 109 109 3 133 Tryz.underlying109 (by kernel_rfl) (some ⟨g, i * 2, none⟩) (some ⟨vb, vo, none⟩) (tot - i) (cap - i) n' c' g (i * 2) cur _ R0 (q0z m) (by rw [hcl, show Nat.min n' (tot - i) = n' from Nat.min_eq_left (by omega)]) (fun _ => ⟨rfl, _, rfl, qBj hV rfl⟩) (by rw [hcl, hR.size]; omega) (q2Z m)
 have hl5 : (splice cur (i * 2) (q0z m)).length = cap * 2 := by rw [length_splice _ _ _ (by rw [hcl, hR.size]; omega), hR.size]
 have hd5 : (splice cur (i * 2) (q0z m)).drop (j * 2) = cur.drop (j * 2) := qGq (by rw [hcl, hR.size]; omega) (by rw [hcl]; omega)
 obtain ⟨w6, hr6, R6, K6, S6⟩ := q3Z (Pr := Tryz.prog) w5.drew 109 109 3 133 Tryz.underlying109 (by kernel_rfl) (some ⟨g, q * 2, none⟩) (some ⟨g, j * 2, none⟩) (tot - q) (cap - q) p (cap - j) g (q * 2) _ _ (R5.keep (w' := w5.drew) rfl) (q0z (l.drop j)) (by rw [hdl, show Nat.min p (tot - q) = p from Nat.min_eq_left (by omega)]) (fun _ => ⟨rfl, _, rfl, fun k u hu => by
  rw [Addr.add_lit]
  refine (R5.keep (w' := w5.drew) rfl).cell ?_
  have h := hjc k u hu
  rw [← List.getElem?_drop] at h ⊢
  rw [hd5]
  exact h⟩) (by rw [hdl, hl5]; omega) (q2Z _)
 have hl6 : (splice (splice cur (i * 2) (q0z m)) (q * 2) (q0z (l.drop j))).length = cap * 2 := by rw [length_splice _ _ _ (by rw [hdl, hl5]; omega), hl5]
 obtain ⟨w7, zs, hzl, hr7, R7, K7, S7⟩ := qKX (Pr := Tryz.prog) w6 109 0 133 Tryz.underlying109 _ zero_brn rfl (by decide) (some ⟨g, tot * 2, none⟩) (n - tot) (cap - tot) g (tot * 2) _ _ R6 (fun _ => rfl) (by rw [hl6]; omega)
 have HO : Hid (OwnB 133 w7 base (.slice (some ⟨g, 0, none⟩) tot cap) (Tr.replaced l i j m)) := by
  refine qBQ R7 ?_ hR.most hR.base_ hlL (by omega) ?_
  · rw [length_splice _ _ _ (by rw [hzl, hl6]; omega), hl6]
  · rw [q5q (zw0 _) (by rw [hl6]; omega), hcL, show tot * 2 = q * 2 + (q0z (l.drop j)).length by rw [hdl]; omega, q3j (by rw [hl5]; omega), show q * 2 = i * 2 + (q0z m).length by rw [hcl]; omega, q3j (by rw [hR.size]; omega)]
 have HG : Hid (Grew w w7 (.slice (some ⟨g, 0, none⟩) n cap) (.slice (some ⟨g, 0, none⟩) tot cap)) := by
  refine ⟨⟨K7.os.trans (K6.os.trans K5.os), K7.tape.trans (K6.tape.trans K5.tape), K7.output.trans (K6.output.trans K5.output), zw1 K5.size (zw1 K6.size K7.size), fun x hx hne => ?_⟩, fun b e => .inl e⟩
  have hxg : x ≠ g := fun e => hne (by rw [e]; rfl)
  exact (K7.block x hxg).trans ((K6.block x hxg).trans (K5.block x hxg))
 have HC6 : Hid _ := hr6
 have hqi : (q : Int) ≤ (tot : Int) := by omega
 have hii : (i : Int) ≤ (tot : Int) := by omega
 have hqt : q < tot := by omega
 have hit : i < tot := by omega
 have hne1 : ¬ (cap = q) := by omega
 have htn : (tot : Int) ≤ (n : Int) := by omega
 clear hr6 R0 R5 R6 R7 K5 K6 K7 S5 S6 S7 hl5 hl6 hd5 hzl hR hV hcl hdl hct hlL hcL hjc hml htot hq hcase
 go_enter Tryz.func84, Tryz.ntmps84
 go_wp2_with fail
 refine wp_region_held_drew (S := (fun _ : World => True)) (by kernel_rfl) (trivial) (fun hH => ?_)
 refine tkM 0 _ rfl rfl ?_; simp only [sz, ss]
 refine tkM 1 _ rfl rfl ?_; simp only [sz, ss]
 refine tkM 2 _ rfl rfl ?_; simp only [sz, ss]
 refine tkM 3 _ rfl rfl ?_; simp only [sz, ss]
 refine tkM 4 _ rfl rfl ?_; simp only [sz, ss]
 refine tkM 5 _ rfl rfl ?_; simp only [sz, ss]
 refine tkM 6 _ rfl rfl ?_; simp only [sz, ss]
 refine tkM 7 _ rfl rfl ?_; simp only [sz, ss]
 refine tkM 8 _ rfl rfl ?_; simp only [sz, ss]
 refine tkM 9 _ rfl rfl ?_; simp only [sz, ss]
 refine tkM 10 _ rfl rfl ?_; simp only [sz, ss]
 refine tkM 11 _ rfl rfl ?_; simp only [sz, ss]
 refine tkM 12 _ rfl rfl ?_; simp only [sz, ss]
 refine wpAnyH_done (by kernel_rfl) ?_ _
 clear hH
 go_wp2_with fail
 refine wp_region_held_drew (S := (fun _ : World => True)) (by kernel_rfl) (trivial) (fun hH => ?_)
 refine tkM 0 _ rfl rfl ?_; simp only [sz, ss]
 refine tkM 1 _ rfl rfl ?_; simp only [sz, ss]
 refine tkM 2 _ rfl rfl ?_; simp only [sz, ss]
 refine tkM 3 _ rfl rfl ?_; simp only [sz, ss]
 refine tkM 4 _ rfl rfl ?_; simp only [sz, ss]
 refine tkM 5 _ rfl rfl ?_; simp only [sz, ss]
 refine tkM 6 _ rfl rfl ?_; simp only [sz, ss]
 refine tkM 7 _ rfl rfl ?_; simp only [sz, ss]
 refine tkM 8 _ rfl rfl ?_; simp only [sz, ss]
 refine r1L 9 rfl fun K hK => ?_
 · refine qBZ rfl rfl (.tmp 103) (.tmp 106) _ rfl (.slice (some ⟨g, q * 2, none⟩) (tot - q) (cap - q)) (.slice (some ⟨g, j * 2, none⟩) p (cap - j)) _ rfl rfl HC6.out ?_
   refine hK.out _ _ ?_ (fun hH => ?_)
   · try dsimp only
     all_goals trivial
   clear hK K
   refine wpAnyH_done (by kernel_rfl) ?_ _
   clear hH
   go_wp2
   go_ret
   exact ⟨_, _, _, rfl, HO.out, HG.out⟩
theorem qWJ (w : World) (base g n i : Nat) (l : List Brn) (cur : List Value) (hR : Rep0 w base g n n l cur) (P : Nat → Prop) (vb vo n' c' : Nat) (m : List Brn) (hV : rBrns.rd w P [.slice (some ⟨vb, vo, none⟩) n' c'] m) (hvg : vb ≠ g) (hp' : 0 < n') (j p : Nat) (hij : i < j) (hjp : n - j = p) (hj : j < n) (htot : n = i + n' + p) (hn : n ≤ 1000) (hn' : n' ≤ 1000) (hb : base ≤ w.heap.size) (hcase : n ≤ n ∧ i + n' ≤ j) :
 Calls Tryz.prog 84 #[.slice (some ⟨g, 0, none⟩) n n, .int .i64 (i : Int), .int .i64 (j : Int), .slice (some ⟨vb, vo, none⟩) n' c'] w fun e w' => ∃ ra rn rc, e = .returned (.slice ra rn rc) ∧ OwnB 133 w' base (.slice ra rn rc) (Tr.replaced l i j m) ∧ Grew w w' (.slice (some ⟨g, 0, none⟩) n n) (.slice ra rn rc) := by
 have hcap := hR.le
 have hml : m.length = n' := (q0x hV).1
 have hz1 : ((i : Int) == (j : Int)) = false := beq_eq_false_iff_ne.2 (by omega)
 have hz0 : ((j : Int) == (n : Int)) = false := beq_eq_false_iff_ne.2 (by omega)
 have hz2 : (i : Int) ≤ (j : Int) := by omega
 have hz3 : (j : Int) ≤ (n : Int) := by omega
 have hz4 : (i : Int) ≤ (n : Int) := by omega
 have hz5 : (j : Int) ≤ (n : Int) := by omega
 have hne3 : ¬ (n = j) := by omega
 have hne4 : ¬ (n = i) := by omega
 obtain ⟨q, hq⟩ : ∃ q, q = i + n' := ⟨_, rfl⟩
 have hw1 : IntKind.i64.wrap ((i : Int) + (n' : Int)) = (q : Int) := by rw [IntKind.wrap_i64]; omega
 have hw2 : IntKind.i64.wrap ((q : Int) + (p : Int)) = (n : Int) := by rw [IntKind.wrap_i64]; omega
 have hcl : (q0z m).length = n' * 2 := by rw [q0J, hml]
 have hdl : (q0z (l.drop j)).length = p * 2 := by rw [q0J, List.length_drop, hR.len, hjp]
 have hct : cur.take (i * 2) = q0z (l.take i) := by rw [q3x, ← hR.cells, List.take_take, Nat.min_eq_left (by omega)]
 have hlL : (Tr.replaced l i j m).length = n := by unfold Tr.replaced; rw [zw2, zw2, zw4, List.length_drop, hR.len, hml]; omega
 have hcL : q0z (Tr.replaced l i j m) = cur.take (i * 2) ++ q0z m ++ q0z (l.drop j) := by unfold Tr.replaced; rw [q1q, q1q, hct]
 have hjc : ∀ (k : Nat) (u : Value), (q0z (l.drop j))[k]? = some u → cur[j * 2 + k]? = some u := fun k u hu => by
  rw [q8j, ← hR.cells, List.getElem?_drop, List.getElem?_take] at hu
  split at hu
  · exact hu
  · cases hu
 have hwd : (n : Int) ≤ (n : Int) := by omega
 have hngt : ¬ ((n : Int) > (n : Int)) := by omega
 have hqj : (q : Int) ≤ (j : Int) := by omega
 have R0 : Row w.drew g 133 cur := hR.row.keep rfl
 obtain ⟨w5, hr5, R5, K5, S5⟩ := q3Z (Pr := Tryz.prog) w.drew 109 109 3 133 Tryz.underlying109 (by kernel_rfl) (some ⟨g, i * 2, none⟩) (some ⟨vb, vo, none⟩) (n - i) (n - i) n' c' g (i * 2) cur _ R0 (q0z m) (by rw [hcl, show Nat.min n' (n - i) = n' from Nat.min_eq_left (by omega)]) (fun _ => ⟨rfl, _, rfl, qBj hV rfl⟩) (by rw [hcl, hR.size]; omega) (q2Z m)
 have hl5 : (splice cur (i * 2) (q0z m)).length = n * 2 := by rw [length_splice _ _ _ (by rw [hcl, hR.size]; omega), hR.size]
 have hd5 : (splice cur (i * 2) (q0z m)).drop (j * 2) = cur.drop (j * 2) := qGq (by rw [hcl, hR.size]; omega) (by rw [hcl]; omega)
 obtain ⟨w6, hr6, R6, K6, S6⟩ := q3Z (Pr := Tryz.prog) w5.drew 109 109 3 133 Tryz.underlying109 (by kernel_rfl) (some ⟨g, q * 2, none⟩) (some ⟨g, j * 2, none⟩) (n - q) (n - q) p p g (q * 2) _ _ (R5.keep (w' := w5.drew) rfl) (q0z (l.drop j)) (by rw [hdl, show Nat.min p (n - q) = p from Nat.min_eq_left (by omega)]) (fun _ => ⟨rfl, _, rfl, fun k u hu => by
  rw [Addr.add_lit]
  refine (R5.keep (w' := w5.drew) rfl).cell ?_
  have h := hjc k u hu
  rw [← List.getElem?_drop] at h ⊢
  rw [hd5]
  exact h⟩) (by rw [hdl, hl5]; omega) (q2Z _)
 have hl6 : (splice (splice cur (i * 2) (q0z m)) (q * 2) (q0z (l.drop j))).length = n * 2 := by rw [length_splice _ _ _ (by rw [hdl, hl5]; omega), hl5]
 have HO : Hid (OwnB 133 w6 base (.slice (some ⟨g, 0, none⟩) n n) (Tr.replaced l i j m)) := by
  refine qBQ R6 ?_ hR.most hR.base_ hlL (by omega) ?_
  · exact hl6
  · rw [hcL, show n * 2 = q * 2 + (q0z (l.drop j)).length by rw [hdl]; omega, q3j (by rw [hl5]; omega), show q * 2 = i * 2 + (q0z m).length by rw [hcl]; omega, q3j (by rw [hR.size]; omega)]
 have HG : Hid (Grew w w6 (.slice (some ⟨g, 0, none⟩) n n) (.slice (some ⟨g, 0, none⟩) n n)) := by
  refine ⟨⟨K6.os.trans K5.os, K6.tape.trans K5.tape, K6.output.trans K5.output, zw1 K5.size K6.size, fun x hx hne => ?_⟩, fun b e => .inl e⟩
  have hxg : x ≠ g := fun e => hne (by rw [e]; rfl)
  exact (K6.block x hxg).trans (K5.block x hxg)
 have HC6 : Hid _ := hr6
 have hr7 : (Builtin.clear_ #[109] 0 #[.slice (some ⟨g, 0, none⟩) 0 0]).run Tryz.prog w6 = .ok (.tuple #[]) w6 := by simp [Builtin.clear_, run_underlying Tryz.underlying109]
 have hqi : (q : Int) ≤ (n : Int) := by omega
 have hii : (i : Int) ≤ (n : Int) := by omega
 have hqt : q < n := by omega
 have hit : i < n := by omega
 have hne1 : ¬ (n = q) := by omega
 have htn : (n : Int) ≤ (n : Int) := by omega
 clear hr6 R0 R5 R6 K5 K6 S5 S6 hl5 hl6 hd5 hR hV hcl hdl hct hlL hcL hjc hml htot hq hcase
 go_enter Tryz.func84, Tryz.ntmps84
 go_wp2_with fail
 refine wp_region_held_drew (S := (fun _ : World => True)) (by kernel_rfl) (trivial) (fun hH => ?_)
 refine tkM 0 _ rfl rfl ?_; simp only [sz, ss]
 refine tkM 1 _ rfl rfl ?_; simp only [sz, ss]
 refine tkM 2 _ rfl rfl ?_; simp only [sz, ss]
 refine tkM 3 _ rfl rfl ?_; simp only [sz, ss]
 refine tkM 4 _ rfl rfl ?_; simp only [sz, ss]
 refine tkM 5 _ rfl rfl ?_; simp only [sz, ss]
 refine tkM 6 _ rfl rfl ?_; simp only [sz, ss]
 refine tkM 7 _ rfl rfl ?_; simp only [sz, ss]
 refine tkM 8 _ rfl rfl ?_; simp only [sz, ss]
 refine tkM 9 _ rfl rfl ?_; simp only [sz, ss]
 refine tkM 10 _ rfl rfl ?_; simp only [sz, ss]
 refine tkM 11 _ rfl rfl ?_; simp only [sz, ss]
 refine tkM 12 _ rfl rfl ?_; simp only [sz, ss]
 refine wpAnyH_done (by kernel_rfl) ?_ _
 clear hH
 go_wp2_with fail
 refine wp_region_held_drew (S := (fun _ : World => True)) (by kernel_rfl) (trivial) (fun hH => ?_)
 refine tkM 0 _ rfl rfl ?_; simp only [sz, ss]
 refine tkM 1 _ rfl rfl ?_; simp only [sz, ss]
 refine tkM 2 _ rfl rfl ?_; simp only [sz, ss]
 refine tkM 3 _ rfl rfl ?_; simp only [sz, ss]
 refine tkM 4 _ rfl rfl ?_; simp only [sz, ss]
 refine tkM 5 _ rfl rfl ?_; simp only [sz, ss]
 refine tkM 6 _ rfl rfl ?_; simp only [sz, ss]
 refine tkM 7 _ rfl rfl ?_; simp only [sz, ss]
 refine tkM 8 _ rfl rfl ?_; simp only [sz, ss]
 refine r1L 9 rfl fun K hK => ?_
 · refine qBZ rfl rfl (.tmp 103) (.tmp 106) _ rfl (.slice (some ⟨g, q * 2, none⟩) (n - q) (n - q)) (.slice (some ⟨g, j * 2, none⟩) p p) _ rfl rfl HC6.out ?_
   refine hK.out _ _ ?_ (fun hH => ?_)
   · try dsimp only
     all_goals trivial
   clear hK K
   refine wpAnyH_done (by kernel_rfl) ?_ _
   clear hH
   go_wp2
   go_ret
   exact ⟨_, _, _, rfl, HO.out, HG.out⟩
theorem replace_up (w : World) (base g n cap i : Nat) (l : List Brn) (cur : List Value) (hR : Rep0 w base g n cap l cur) (P : Nat → Prop) (vb vo n' c' : Nat) (m : List Brn) (hV : rBrns.rd w P [.slice (some ⟨vb, vo, none⟩) n' c'] m) (hvg : vb ≠ g) (hp' : 0 < n') (j p tot : Nat) (hij : i < j) (hjp : n - j = p) (hj : j < n) (htot : tot = i + n' + p) (hn : n ≤ 1000) (hn' : n' ≤ 1000) (hb : base ≤ w.heap.size) (hcase : tot ≤ cap ∧ j < i + n') :
 Calls Tryz.prog 84 #[.slice (some ⟨g, 0, none⟩) n cap, .int .i64 (i : Int), .int .i64 (j : Int), .slice (some ⟨vb, vo, none⟩) n' c'] w fun e w' => ∃ ra rn rc, e = .returned (.slice ra rn rc) ∧ OwnB 133 w' base (.slice ra rn rc) (Tr.replaced l i j m) ∧ Grew w w' (.slice (some ⟨g, 0, none⟩) n cap) (.slice ra rn rc) := by
 have hcap := hR.le
 have hml : m.length = n' := (q0x hV).1
 have hz1 : ((i : Int) == (j : Int)) = false := beq_eq_false_iff_ne.2 (by omega)
 have hz0 : ((j : Int) == (n : Int)) = false := beq_eq_false_iff_ne.2 (by omega)
 have hz2 : (i : Int) ≤ (j : Int) := by omega
 have hz3 : (j : Int) ≤ (cap : Int) := by omega
 have hz4 : (i : Int) ≤ (cap : Int) := by omega
 have hz5 : (j : Int) ≤ (n : Int) := by omega
 have hne3 : ¬ (cap = j) := by omega
 have hne4 : ¬ (cap = i) := by omega
 obtain ⟨q, hq⟩ : ∃ q, q = i + n' := ⟨_, rfl⟩
 have hw1 : IntKind.i64.wrap ((i : Int) + (n' : Int)) = (q : Int) := by rw [IntKind.wrap_i64]; omega
 have hw2 : IntKind.i64.wrap ((q : Int) + (p : Int)) = (tot : Int) := by rw [IntKind.wrap_i64]; omega
 have hcl : (q0z m).length = n' * 2 := by rw [q0J, hml]
 have hdl : (q0z (l.drop j)).length = p * 2 := by rw [q0J, List.length_drop, hR.len, hjp]
 have hct : cur.take (i * 2) = q0z (l.take i) := by rw [q3x, ← hR.cells, List.take_take, Nat.min_eq_left (by omega)]
 have hlL : (Tr.replaced l i j m).length = tot := by unfold Tr.replaced; rw [zw2, zw2, zw4, List.length_drop, hR.len, hml]; omega
 have hcL : q0z (Tr.replaced l i j m) = cur.take (i * 2) ++ q0z m ++ q0z (l.drop j) := by unfold Tr.replaced; rw [q1q, q1q, hct]
 have hjc : ∀ (k : Nat) (u : Value), (q0z (l.drop j))[k]? = some u → cur[j * 2 + k]? = some u := fun k u hu => by
  rw [q8j, ← hR.cells, List.getElem?_drop, List.getElem?_take] at hu
  split at hu
  · exact hu
  · cases hu
 have hngt : ¬ ((tot : Int) > (cap : Int)) := by omega
 have hwd : (tot : Int) ≤ (cap : Int) := by omega
 have hqj : ¬ ((q : Int) ≤ (j : Int)) := by omega
 have R0 : Row w.drew g 133 cur := hR.row.keep rfl
 have HR0 : Hid _ := R0
 obtain ⟨w5, hr5, R5, K5, S5⟩ := q3Z (Pr := Tryz.prog) w.drew.drew 109 109 3 133 Tryz.underlying109 (by kernel_rfl) (some ⟨g, q * 2, none⟩) (some ⟨g, j * 2, none⟩) (tot - q) (cap - q) p (cap - j) g (q * 2) cur _ (R0.keep (w' := w.drew.drew) rfl) (q0z (l.drop j)) (by rw [hdl, show Nat.min p (tot - q) = p from Nat.min_eq_left (by omega)]) (fun _ => ⟨rfl, _, rfl, fun k u hu => by
  rw [Addr.add_lit]
  exact (R0.keep (w' := w.drew.drew) rfl).cell (hjc k u hu)⟩) (by rw [hdl, hR.size]; omega) (q2Z _)
 have hl5 : (splice cur (q * 2) (q0z (l.drop j))).length = cap * 2 := by rw [length_splice _ _ _ (by rw [hdl, hR.size]; omega), hR.size]
 obtain ⟨w6, hr6, R6, K6, S6⟩ := q3Z (Pr := Tryz.prog) w5 109 109 3 133 Tryz.underlying109 (by kernel_rfl) (some ⟨g, i * 2, none⟩) (some ⟨vb, vo, none⟩) (tot - i) (cap - i) n' c' g (i * 2) _ _ R5 (q0z m) (by rw [hcl, show Nat.min n' (tot - i) = n' from Nat.min_eq_left (by omega)]) (fun _ => ⟨rfl, _, rfl, qBj hV (K5.block vb hvg)⟩) (by rw [hcl, hl5]; omega) (q2Z m)
 have hl6 : (splice (splice cur (q * 2) (q0z (l.drop j))) (i * 2) (q0z m)).length = cap * 2 := by rw [length_splice _ _ _ (by rw [hcl, hl5]; omega), hl5]
 have HO : Hid (OwnB 133 w6 base (.slice (some ⟨g, 0, none⟩) tot cap) (Tr.replaced l i j m)) := by
  refine qBQ R6 hl6 hR.most hR.base_ hlL (by omega) ?_
  rw [hcL]
  have e1 : (splice cur (q * 2) (q0z (l.drop j))).take (i * 2) = cur.take (i * 2) := q5q (by omega) (by rw [hR.size]; omega)
  have e2 : (splice cur (q * 2) (q0z (l.drop j))).drop (q * 2) = q0z (l.drop j) ++ cur.drop (q * 2 + (q0z (l.drop j)).length) := qRz (by rw [hR.size]; omega)
  conv => lhs; rw [splice, e1, show i * 2 + (q0z m).length = q * 2 by rw [hcl]; omega, e2]
  have e3 : (cur.take (i * 2) ++ q0z m ++ q0z (l.drop j)).length = tot * 2 := by rw [zw2, zw2, zw4, hR.size, hcl, hdl]; omega
  rw [← e3]
  simp only [← List.append_assoc]
  exact List.take_left
 have HG : Hid (Grew w w6 (.slice (some ⟨g, 0, none⟩) n cap) (.slice (some ⟨g, 0, none⟩) tot cap)) := by
  refine ⟨⟨K6.os.trans K5.os, K6.tape.trans K5.tape, K6.output.trans K5.output, zw1 K5.size K6.size, fun x hx hne => ?_⟩, fun b e => .inl e⟩
  have hxg : x ≠ g := fun e => hne (by rw [e]; rfl)
  exact (K6.block x hxg).trans (K5.block x hxg)
 have HC5 : Hid _ := hr5
 have hqi : (q : Int) ≤ (tot : Int) := by omega
 have hii : (i : Int) ≤ (tot : Int) := by omega
 have hqt : q < tot := by omega
 have hit : i < tot := by omega
 have hne1 : ¬ (cap = q) := by omega
 have hsv : ∃ tB kB, w.drew.shape? vb = some (tB, kB) ∧ kB ≠ 0 := by
  have hc := qBj (W := w.drew) hV rfl 0
  obtain ⟨x, xs, hx⟩ : ∃ x xs, q0z m = x :: xs := by
   cases hm0 : q0z m with
   | nil => rw [hm0] at hcl; simp at hcl; omega
   | cons x xs => exact ⟨x, xs, rfl⟩
  have h := hc x (by rw [hx]; rfl)
  rw [Addr.add_lit, Nat.add_zero] at h
  unfold World.cell? at h
  unfold World.shape?
  cases hh : w.drew.heap[vb]? with
  | none => rw [hh] at h; cases h
  | some o =>
    rw [hh] at h
    cases o <;> first | (cases h; done) | skip
    rename_i c e z
    refine ⟨_, _, rfl, fun e0 => ?_⟩
    have : c = #[] := Array.eq_empty_of_size_eq_zero e0
    subst this
    simp at h
 obtain ⟨tB, kB, hsb, hkB⟩ := hsv
 have hsa : w.drew.shape? g = some (133, cap * 2) := by
  unfold World.shape?
  rw [R0.eq, ← hR.size]
  rfl
 have hov : (callFunc 109 #[.slice (some ⟨g, q * 2, none⟩) (tot - q) (cap - q), .slice (some ⟨vb, vo, none⟩) n' c']).run Tryz.prog w.drew = .ok (.value (.bool false)) w.drew := by
  rw [run_callFunc_extern Tryz.func109 (by kernel_rfl) (by kernel_rfl) (by kernel_rfl) (e := Extern.SlicesOverlaps.overlaps #[109, 109] #[4]) (by kernel_rfl),
   Lib.run_overlaps_apart w.drew 109 4 133 Tryz.underlying109 2 (fun w => by kernel_rfl) ⟨g, q * 2, none⟩ ⟨vb, vo, none⟩ (tot - q) (cap - q) n' c' (fun e => hvg e.symm) _ _ _ _ hsa hsb hkB (R0.frozen _) (R0.frozen _)]
  rfl
 clear hsa hsb hkB
 clear hr5 R0 R5 R6 K5 K6 S5 S6 hl5 hl6 hR hV hcl hdl hct hlL hcL hjc hml htot hq hcase
 go_enter Tryz.func84, Tryz.ntmps84
 go_wp2_with fail
 refine wp_region_held_drew (S := (fun _ : World => True)) (by kernel_rfl) (trivial) (fun hH => ?_)
 refine tkM 0 _ rfl rfl ?_; simp only [sz, ss]
 refine tkM 1 _ rfl rfl ?_; simp only [sz, ss]
 refine tkM 2 _ rfl rfl ?_; simp only [sz, ss]
 refine tkM 3 _ rfl rfl ?_; simp only [sz, ss]
 refine tkM 4 _ rfl rfl ?_; simp only [sz, ss]
 refine tkM 5 _ rfl rfl ?_; simp only [sz, ss]
 refine tkM 6 _ rfl rfl ?_; simp only [sz, ss]
 refine tkM 7 _ rfl rfl ?_; simp only [sz, ss]
 refine tkM 8 _ rfl rfl ?_; simp only [sz, ss]
 refine tkM 9 _ rfl rfl ?_; simp only [sz, ss]
 refine tkM 10 _ rfl rfl ?_; simp only [sz, ss]
 refine tkM 11 _ rfl rfl ?_; simp only [sz, ss]
 refine tkM 12 _ rfl rfl ?_; simp only [sz, ss]
 refine wpAnyH_done (by kernel_rfl) ?_ _
 clear hH
 go_wp2_with fail
 refine wp_region_held_drew (S := (fun _ : World => True)) (by kernel_rfl) (trivial) (fun hH => ?_)
 refine tkM 0 _ rfl rfl ?_; simp only [sz, ss]
 refine tkM 1 _ rfl rfl ?_; simp only [sz, ss]
 refine tkM 2 _ rfl rfl ?_; simp only [sz, ss]
 refine tkM 3 _ rfl rfl ?_; simp only [sz, ss]
 refine tkM 4 _ rfl rfl ?_; simp only [sz, ss]
 refine tkM 5 _ rfl rfl ?_; simp only [sz, ss]
 refine tkM 6 _ rfl rfl ?_; simp only [sz, ss]
 refine tkM 7 _ rfl rfl ?_; simp only [sz, ss]
 refine tkM 8 _ rfl rfl ?_; simp only [sz, ss]
 refine r1L 9 rfl fun K hK => ?_
 · refine qBZ rfl rfl (.tmp 126) (.tmp 129) _ rfl (.slice (some ⟨g, q * 2, none⟩) (tot - q) (cap - q)) (.slice (some ⟨g, j * 2, none⟩) p (cap - j)) _ rfl rfl HC5.out ?_
   refine hK.out _ _ ?_ (fun hH => ?_)
   · try dsimp only
     all_goals trivial
   clear hK K
   refine wpAnyH_done (by kernel_rfl) ?_ _
   clear hH
   go_wp2
   go_ret
   exact ⟨_, _, _, rfl, HO.out, HG.out⟩
theorem qDx (w : World) (base : Nat) (a : Option Addr) (n cap i j : Nat) (l : List Brn) (hO : OwnB 133 w base (.slice a n cap) l) (P : Nat → Prop) (vb vo n' c' : Nat) (m : List Brn) (hV : rBrns.rd w P [.slice (some ⟨vb, vo, none⟩) n' c'] m) (hvg : (Value.slice a n cap).ownBlock ≠ some vb) (hp' : 0 < n')
 (hij : i < j) (hj : j ≤ n) (hn : n ≤ 1000) (hn' : n' ≤ 1000) (hb : base ≤ w.heap.size) :
 Calls Tryz.prog 84 #[.slice a n cap, .int .i64 (i : Int), .int .i64 (j : Int), .slice (some ⟨vb, vo, none⟩) n' c'] w fun e w' => ∃ ra rn rc, e = .returned (.slice ra rn rc) ∧ OwnB 133 w' base (.slice ra rn rc) (Tr.replaced l i j m) ∧ Grew w w' (.slice a n cap) (.slice ra rn rc) := by
 have hl : n = l.length := by obtain ⟨x, y, e, -⟩ := hO.slice; simp only [Value.slice.injEq] at e; exact e.2.1
 obtain ⟨g, rfl⟩ : ∃ g, a = some ⟨g, 0, none⟩ := by
  rcases hO.row.2 with ⟨e, h0⟩ | ⟨g, c2, cur, e, -⟩
  · omega
  · simp only [Value.slice.injEq] at e
    exact ⟨g, e.1⟩
 have hv : vb ≠ g := fun e => hvg (by rw [e]; rfl)
 obtain ⟨cur, hR⟩ := hO.rep0
 by_cases h1 : j = n
 · subst h1
   exact replace_end w base g j cap i l cur hR P vb vo n' c' m hV hv hp' hij hn hn' hb
 have hcap := hR.le
 by_cases h2 : cap < i + n' + (n - j)
 · exact replace_grow w base g n cap i l cur hR P vb vo n' c' m hV hv hp' j (n - j) _ hij rfl (by omega) rfl hn hn' hb h2
 by_cases h3 : i + n' ≤ j
 · by_cases h4 : cap = i + n' + (n - j)
   · obtain rfl : n = cap := by omega
     exact qWJ w base g n i l cur hR P vb vo n' c' m hV hv hp' j (n - j) hij rfl (by omega) (by omega) hn hn' hb ⟨zw0 _, h3⟩
   · exact replace_down w base g n cap i l cur hR P vb vo n' c' m hV hv hp' j (n - j) _ hij rfl (by omega) rfl hn hn' hb ⟨by omega, h3⟩ h4
 · exact replace_up w base g n cap i l cur hR P vb vo n' c' m hV hv hp' j (n - j) _ hij rfl (by omega) rfl hn hn' hb ⟨by omega, by omega⟩
theorem growI_u (w : World) (n : Nat) (hn : n ≤ 1000000) :
 Calls Tryz.prog 131 #[.slice none 0 0, .int .i64 (n : Int)] w fun e w' => ∃ a c, e = .returned (.slice a 0 c) ∧ OwnI 45 w' w.heap.size (.slice a 0 c) [] ∧ Below w.heap.size w w' := by
 by_cases h0 : n = 0
 · subst h0
   go_enter Tryz.func131, Tryz.ntmps131
   go_wp2
   go_ret
   exact ⟨none, 0, rfl, OwnI.nil _ _ _, Below.refl _ _⟩
 · obtain ⟨ht, i, z, hi, hz, hsize, hby, hzs, hpos⟩ := qZQ
   have hr := Lib.run_append_nil_zeros (P := Tryz.prog) w 36 3 36 45 i z .i64 .i64 ht Tryz.underlying3 hi hz n (by omega) (by rw [hsize]; decide) (by omega) (by rw [hby]; show n * 16 ≤ _; omega)
   obtain ⟨cap, hcap⟩ : ∃ cap, cap = grownCap w n 0 45 := ⟨_, rfl⟩
   rw [← hcap] at hr
   have hge : n ≤ cap := by rw [hcap]; exact grownCap_ge _ _ _ _
   have hcm : cap ≤ maxLen := by rw [hcap]; exact grownCap_le_maxLen _ _ _ _ (by unfold maxLen; omega)
   obtain ⟨w1, hw1⟩ : ∃ w1, w.drew.alloc (.cells (Builtin.zeroCells z.cells n ++ Builtin.zeroCells z.cells (cap - n)) 45) = w1 := ⟨_, rfl⟩
   rw [hw1] at hr
   have HO : Hid (OwnI 45 w1 w.heap.size (.slice (some ⟨w.heap.size, 0, none⟩) 0 cap) []) := by
    rw [← hw1]
    refine ⟨World.ownsRow_made w.drew _ cap (zw0 _) hcm ?_⟩
    rw [Array.size_append, size_zeroCells, size_zeroCells, hzs, ← Nat.add_mul, Nat.add_sub_cancel' hge]
    rfl
   have HB : Hid (Below w.heap.size w w1) := by rw [← hw1]; exact ((Below.refl _ _).drew).alloc (zw0 _) _
   have HR : Hid _ := hr
   have hnp : (n : Int) > 0 := by omega
   have hnn : ¬ ((n : Int) < 0) := by omega
   clear hr ht hi hz hsize hby hzs hpos hcap hcm hw1 h0
   go_enter Tryz.func131, Tryz.ntmps131
   go_wp2_with (at_builtin; refine Lib.wpList_append_run _ rfl _ _ _ _ rfl _ _ rfl rfl _ _ HR.out ?_)
   go_ret
   exact ⟨_, _, rfl, HO.out, HB.out⟩
theorem qRx (w : World) (gb : Nat) (P : Nat → Prop) (a a' : Option Addr) (n c n' c' : Nat) (l l' : List Itm) (hV : Row w gb 36 [.slice a n c, .slice a' n' c']) (hL : rItms.rd w P [.slice a n c] l) (hL' : rItms.rd w P [.slice a' n' c'] l') (hn : n ≤ 1000) (hn' : n' ≤ 1000) :
 Calls Tryz.prog 106 #[.slice (some ⟨gb, 0, none⟩) 2 2] w fun e w' => ∃ ra rn rc, e = .returned (.slice ra rn rc) ∧ OwnI 45 w' w.heap.size (.slice ra rn rc) (l ++ l') ∧ Below w.heap.size w w' := by
 have HV : Hid _ := hV
 have HL : Hid _ := hL
 have HL' : Hid _ := hL'
 have HN : Hid (l.length = n ∧ l'.length = n') := ⟨(q0x hL).1, (q0x hL').1⟩
 obtain ⟨c0, c1⟩ := hV.two
 clear hV hL hL'
 go_enter Tryz.func106, Tryz.ntmps106
 go_wp2
 go_loop [3, 11] (fun sz i => ∃ k : Nat, i = .int .i64 k ∧ ((k = 0 ∧ sz = .int .i64 0) ∨ (k = 1 ∧ sz = .int .i64 (n : Int)) ∨ (k = 2 ∧ sz = .int .i64 ((n + n' : Nat) : Int)))) (fun _ i => 2 - (intOf i).toNat)
 case atStart => exact ⟨0, rfl, .inl ⟨rfl, rfl⟩⟩
 case round =>
  obtain ⟨k, rfl, hk⟩ := hrel
  rcases hk with ⟨rfl, rfl⟩ | ⟨rfl, rfl⟩ | ⟨rfl, rfl⟩
  · go_wp2
    go_round
    case rel => exact ⟨1, by go_num, .inr (.inl ⟨rfl, by go_num⟩)⟩
    case measure => simp [intOf]
  · have hs1 : IntKind.i64.wrap ((n : Int) + (n' : Int)) = ((n + n' : Nat) : Int) := by rw [IntKind.wrap_i64]; omega
    have hs2 : ¬ ((n : Int) + (n' : Int) < 0) := by omega
    go_wp2
    go_round
    case rel => exact ⟨2, by go_num, .inr (.inr ⟨rfl, by go_num⟩)⟩
    case measure => simp [intOf]
  · go_wp2_with fail
    go_at_call 131
    refine (growI_u _ (n + n') (by omega)).mono ?_
    rintro e w1 ⟨ga, gc, rfl, ho1, b1⟩
    have HO1 : Hid _ := ho1
    have HB1 : Hid _ := b1
    clear ho1 b1
    go_wp2
    go_loopw [6, 27] (fun ov i wr => ∃ (k : Nat) (ra : Option Addr) (rn rc : Nat), i = .int .i64 k ∧ ov = .slice ra rn rc ∧ k ≤ 2 ∧ Hid (OwnI 45 wr w.heap.size (.slice ra rn rc) (if k = 0 then [] else if k = 1 then l else l ++ l')) ∧ Hid (Below w.heap.size w wr)) (fun _ i _ => 2 - (intOf i).toNat)
    case atStart => exact ⟨0, _, _, _, rfl, rfl, by omega, HO1, HB1⟩
    case round =>
     obtain ⟨k, ra, rn, rc, rfl, rfl, hk, HO, HB⟩ := hrel
     obtain rfl | rfl | rfl : k = 0 ∨ k = 1 ∨ k = 2 := by omega
     · have ho : OwnI 45 wr w.heap.size (.slice ra rn rc) [] := HO.out
       obtain ⟨v5, w5, hr5, ho5, g5⟩ := q3q ho (Rep.below HL.out HB.out) (by simp; omega) HB.out.size 36
       have b5 : Below w.heap.size wr w5 := ho.base_below HB.out.size g5
       have HB5 : Hid (Below w.heap.size w w5) := HB.out.trans b5
       obtain ⟨qa, qc, rfl, -⟩ := ho5.slice
       obtain ⟨qn, hqn⟩ : ∃ qn, ([] ++ l).length = qn := ⟨_, rfl⟩
       rw [hqn] at hr5 ho5
       have HO5 : Hid _ := ho5
       have HR : Hid _ := hr5
       obtain ⟨d0, d1⟩ := (HV.out.below HB.out).two
       clear ho hr5 ho5 g5 b5 hqn
       go_wp2_with (at_builtin; refine Lib.wpList_append_run _ rfl _ _ _ _ rfl _ _ rfl rfl _ _ HR.out ?_)
       go_roundw
       case rel => exact ⟨1, _, _, _, by go_num, rfl, by omega, HO5, HB5⟩
       case measure => simp [intOf]
     · have ho : OwnI 45 wr w.heap.size (.slice ra rn rc) l := HO.out
       obtain ⟨v5, w5, hr5, ho5, g5⟩ := q3q ho (Rep.below HL'.out HB.out) (by rw [HN.out.1]; omega) HB.out.size 36
       have b5 : Below w.heap.size wr w5 := ho.base_below HB.out.size g5
       have HB5 : Hid (Below w.heap.size w w5) := HB.out.trans b5
       obtain ⟨qa, qc, rfl, -⟩ := ho5.slice
       obtain ⟨qn, hqn⟩ : ∃ qn, (l ++ l').length = qn := ⟨_, rfl⟩
       rw [hqn] at hr5 ho5
       have HO5 : Hid _ := ho5
       have HR : Hid _ := hr5
       obtain ⟨d0, d1⟩ := (HV.out.below HB.out).two
       clear ho hr5 ho5 g5 b5 hqn
       go_wp2_with (at_builtin; refine Lib.wpList_append_run _ rfl _ _ _ _ rfl _ _ rfl rfl _ _ HR.out ?_)
       go_roundw
       case rel => exact ⟨2, _, _, _, by go_num, rfl, by omega, HO5, HB5⟩
       case measure => simp [intOf]
     · go_wp2
       go_ret
       exact ⟨_, _, _, rfl, HO.out, HB.out⟩
theorem growB_u (w : World) (n : Nat) (hn : n ≤ 1000000) :
 Calls Tryz.prog 132 #[.slice none 0 0, .int .i64 (n : Int)] w fun e w' => ∃ a c, e = .returned (.slice a 0 c) ∧ OwnB 133 w' w.heap.size (.slice a 0 c) [] ∧ Below w.heap.size w w' := by
 by_cases h0 : n = 0
 · subst h0
   go_enter Tryz.func132, Tryz.ntmps132
   go_wp2
   go_ret
   exact ⟨none, 0, rfl, OwnB.nil _ _ _, Below.refl _ _⟩
 · obtain ⟨ht, i, z, hi, hz, hsize, hby, hzs, hpos⟩ := qNz
   have hr := Lib.run_append_nil_zeros (P := Tryz.prog) w 109 3 109 133 i z .i64 .i64 ht Tryz.underlying3 hi hz n (by omega) (by rw [hsize]; decide) (by omega) (by rw [hby]; show n * 16 ≤ _; omega)
   obtain ⟨cap, hcap⟩ : ∃ cap, cap = grownCap w n 0 133 := ⟨_, rfl⟩
   rw [← hcap] at hr
   have hge : n ≤ cap := by rw [hcap]; exact grownCap_ge _ _ _ _
   have hcm : cap ≤ maxLen := by rw [hcap]; exact grownCap_le_maxLen _ _ _ _ (by unfold maxLen; omega)
   obtain ⟨w1, hw1⟩ : ∃ w1, w.drew.alloc (.cells (Builtin.zeroCells z.cells n ++ Builtin.zeroCells z.cells (cap - n)) 133) = w1 := ⟨_, rfl⟩
   rw [hw1] at hr
   have HO : Hid (OwnB 133 w1 w.heap.size (.slice (some ⟨w.heap.size, 0, none⟩) 0 cap) []) := by
    rw [← hw1]
    refine ⟨World.ownsRow_made w.drew _ cap (zw0 _) hcm ?_⟩
    rw [Array.size_append, size_zeroCells, size_zeroCells, hzs, ← Nat.add_mul, Nat.add_sub_cancel' hge]
    rfl
   have HB : Hid (Below w.heap.size w w1) := by rw [← hw1]; exact ((Below.refl _ _).drew).alloc (zw0 _) _
   have HR : Hid _ := hr
   have hnp : (n : Int) > 0 := by omega
   have hnn : ¬ ((n : Int) < 0) := by omega
   clear hr ht hi hz hsize hby hzs hpos hcap hcm hw1 h0
   go_enter Tryz.func132, Tryz.ntmps132
   go_wp2_with (at_builtin; refine Lib.wpList_append_run _ rfl _ _ _ _ rfl _ _ rfl rfl _ _ HR.out ?_)
   go_ret
   exact ⟨_, _, rfl, HO.out, HB.out⟩
theorem qRQ (w : World) (gb : Nat) (P : Nat → Prop) (a a' : Option Addr) (n c n' c' : Nat) (l l' : List Brn) (hV : Row w gb 109 [.slice a n c, .slice a' n' c']) (hL : rBrns.rd w P [.slice a n c] l) (hL' : rBrns.rd w P [.slice a' n' c'] l') (hn : n ≤ 1000) (hn' : n' ≤ 1000) :
 Calls Tryz.prog 107 #[.slice (some ⟨gb, 0, none⟩) 2 2] w fun e w' => ∃ ra rn rc, e = .returned (.slice ra rn rc) ∧ OwnB 133 w' w.heap.size (.slice ra rn rc) (l ++ l') ∧ Below w.heap.size w w' := by
 have HV : Hid _ := hV
 have HL : Hid _ := hL
 have HL' : Hid _ := hL'
 have HN : Hid (l.length = n ∧ l'.length = n') := ⟨(q0x hL).1, (q0x hL').1⟩
 obtain ⟨c0, c1⟩ := hV.two
 clear hV hL hL'
 go_enter Tryz.func107, Tryz.ntmps107
 go_wp2
 go_loop [3, 11] (fun sz i => ∃ k : Nat, i = .int .i64 k ∧ ((k = 0 ∧ sz = .int .i64 0) ∨ (k = 1 ∧ sz = .int .i64 (n : Int)) ∨ (k = 2 ∧ sz = .int .i64 ((n + n' : Nat) : Int)))) (fun _ i => 2 - (intOf i).toNat)
 case atStart => exact ⟨0, rfl, .inl ⟨rfl, rfl⟩⟩
 case round =>
  obtain ⟨k, rfl, hk⟩ := hrel
  rcases hk with ⟨rfl, rfl⟩ | ⟨rfl, rfl⟩ | ⟨rfl, rfl⟩
  · go_wp2
    go_round
    case rel => exact ⟨1, by go_num, .inr (.inl ⟨rfl, by go_num⟩)⟩
    case measure => simp [intOf]
  · have hs1 : IntKind.i64.wrap ((n : Int) + (n' : Int)) = ((n + n' : Nat) : Int) := by rw [IntKind.wrap_i64]; omega
    have hs2 : ¬ ((n : Int) + (n' : Int) < 0) := by omega
    go_wp2
    go_round
    case rel => exact ⟨2, by go_num, .inr (.inr ⟨rfl, by go_num⟩)⟩
    case measure => simp [intOf]
  · go_wp2_with fail
    go_at_call 132
    refine (growB_u _ (n + n') (by omega)).mono ?_
    rintro e w1 ⟨ga, gc, rfl, ho1, b1⟩
    have HO1 : Hid _ := ho1
    have HB1 : Hid _ := b1
    clear ho1 b1
    go_wp2
    go_loopw [6, 27] (fun ov i wr => ∃ (k : Nat) (ra : Option Addr) (rn rc : Nat), i = .int .i64 k ∧ ov = .slice ra rn rc ∧ k ≤ 2 ∧ Hid (OwnB 133 wr w.heap.size (.slice ra rn rc) (if k = 0 then [] else if k = 1 then l else l ++ l')) ∧ Hid (Below w.heap.size w wr)) (fun _ i _ => 2 - (intOf i).toNat)
    case atStart => exact ⟨0, _, _, _, rfl, rfl, by omega, HO1, HB1⟩
    case round =>
     obtain ⟨k, ra, rn, rc, rfl, rfl, hk, HO, HB⟩ := hrel
     obtain rfl | rfl | rfl : k = 0 ∨ k = 1 ∨ k = 2 := by omega
     · have ho : OwnB 133 wr w.heap.size (.slice ra rn rc) [] := HO.out
       obtain ⟨v5, w5, hr5, ho5, g5⟩ := q5X ho (Rep.below HL.out HB.out) (by simp; omega) HB.out.size 109
       have b5 : Below w.heap.size wr w5 := ho.base_below HB.out.size g5
       have HB5 : Hid (Below w.heap.size w w5) := HB.out.trans b5
       obtain ⟨qa, qc, rfl, -⟩ := ho5.slice
       obtain ⟨qn, hqn⟩ : ∃ qn, ([] ++ l).length = qn := ⟨_, rfl⟩
       rw [hqn] at hr5 ho5
       have HO5 : Hid _ := ho5
       have HR : Hid _ := hr5
       obtain ⟨d0, d1⟩ := (HV.out.below HB.out).two
       clear ho hr5 ho5 g5 b5 hqn
       go_wp2_with (at_builtin; refine Lib.wpList_append_run _ rfl _ _ _ _ rfl _ _ rfl rfl _ _ HR.out ?_)
       go_roundw
       case rel => exact ⟨1, _, _, _, by go_num, rfl, by omega, HO5, HB5⟩
       case measure => simp [intOf]
     · have ho : OwnB 133 wr w.heap.size (.slice ra rn rc) l := HO.out
       obtain ⟨v5, w5, hr5, ho5, g5⟩ := q5X ho (Rep.below HL'.out HB.out) (by rw [HN.out.1]; omega) HB.out.size 109
       have b5 : Below w.heap.size wr w5 := ho.base_below HB.out.size g5
       have HB5 : Hid (Below w.heap.size w w5) := HB.out.trans b5
       obtain ⟨qa, qc, rfl, -⟩ := ho5.slice
       obtain ⟨qn, hqn⟩ : ∃ qn, (l ++ l').length = qn := ⟨_, rfl⟩
       rw [hqn] at hr5 ho5
       have HO5 : Hid _ := ho5
       have HR : Hid _ := hr5
       obtain ⟨d0, d1⟩ := (HV.out.below HB.out).two
       clear ho hr5 ho5 g5 b5 hqn
       go_wp2_with (at_builtin; refine Lib.wpList_append_run _ rfl _ _ _ _ rfl _ _ rfl rfl _ _ HR.out ?_)
       go_roundw
       case rel => exact ⟨2, _, _, _, by go_num, rfl, by omega, HO5, HB5⟩
       case measure => simp [intOf]
     · go_wp2
       go_ret
       exact ⟨_, _, _, rfl, HO.out, HB.out⟩
theorem qMZ (w : World) (P : Nat → Prop) (a a' d d' : Option Addr) (n c n' c' m k m' k' : Nat) (l1 l2 : List Itm) (l1' l2' : List Brn) (h1 : rItms.rd w P [.slice a n c] l1) (h1' : rBrns.rd w P [.slice a' n' c'] l1') (h2 : rItms.rd w P [.slice d m k] l2) (h2' : rBrns.rd w P [.slice d' m' k'] l2') (hn : n ≤ 1000) (hn' : n' ≤ 1000) (hm : m ≤ 1000) (hm' : m' ≤ 1000) :
 Calls Tryz.prog 82 #[.agg #[.slice a n c, .slice a' n' c'], .agg #[.slice d m k, .slice d' m' k']] w fun e w' => ∃ ra rn rc qa qn qc, e = .returned (.agg #[.slice ra rn rc, .slice qa qn qc]) ∧ IsCnt w' w.heap.size (.slice ra rn rc) (.slice qa qn qc) (Tr.joined (l1, l1') (l2, l2')) ∧ Below w.heap.size w w' := by
 have H1 : Hid _ := h1
 have H1' : Hid _ := h1'
 have H2 : Hid _ := h2
 have H2' : Hid _ := h2'
 obtain ⟨w1, hw1, Va, ba, za⟩ := q0q w 111 [.slice a n c, .slice a' n' c']
 obtain ⟨w2, hw2, Vb, bb, zb⟩ := q0q w1 111 [.slice d m k, .slice d' m' k']
 obtain ⟨w3, hw3, Vc, bc, zc⟩ := q0q w2 111 [.slice none 0 0, .slice none 0 0]
 have B3 : Hid (Below w.heap.size w w3) := on ba (on bb bc)
 have V1 : Hid _ := (Va.below bb).below bc
 have V2 : Hid (Row w3 w1.heap.size 111 [.slice d m k, .slice d' m' k']) := Vb.below bc
 have V3 : Hid _ := Vc
 have HZ : Hid (w.heap.size < w1.heap.size ∧ w1.heap.size < w2.heap.size ∧ w2.heap.size < w3.heap.size) := ⟨by omega, by omega, by omega⟩
 have HSee : Hid (∀ W', Below w3.heap.size w3 W' → W'.cell? ⟨w.heap.size, 0, none⟩ = some (.slice a n c) ∧ W'.cell? ⟨w.heap.size, 1, none⟩ = some (.slice a' n' c') ∧ W'.cell? ⟨w1.heap.size, 0, none⟩ = some (.slice d m k) ∧ W'.cell? ⟨w1.heap.size, 1, none⟩ = some (.slice d' m' k')) := by
  intro W' b'
  exact ⟨(V1.out.below b').cell (j := 0) rfl, (V1.out.below b').cell (j := 1) rfl, (V2.out.below b').cell (j := 0) rfl, (V2.out.below b').cell (j := 1) rfl⟩
 have HSet : Hid (∀ W' u u', Below w3.heap.size w3 W' → ((W'.setCell ⟨w2.heap.size, 0, none⟩ u).setCell ⟨w2.heap.size, 1, none⟩ u').cell? ⟨w.heap.size, 0, none⟩ = some (.slice a n c) ∧ ((W'.setCell ⟨w2.heap.size, 0, none⟩ u).setCell ⟨w2.heap.size, 1, none⟩ u').cell? ⟨w.heap.size, 1, none⟩ = some (.slice a' n' c') ∧ ((W'.setCell ⟨w2.heap.size, 0, none⟩ u).setCell ⟨w2.heap.size, 1, none⟩ u').cell? ⟨w1.heap.size, 0, none⟩ = some (.slice d m k) ∧ ((W'.setCell ⟨w2.heap.size, 0, none⟩ u).setCell ⟨w2.heap.size, 1, none⟩ u').cell? ⟨w1.heap.size, 1, none⟩ = some (.slice d' m' k')) := by
  intro W' u u' b'
  have r1 := ((V1.out.below b').setO (p := ⟨w2.heap.size, 0, none⟩) (by have := HZ.out; show w2.heap.size ≠ _; omega) u).setO (p := ⟨w2.heap.size, 1, none⟩) (by have := HZ.out; show w2.heap.size ≠ _; omega) u'
  have r2 := ((V2.out.below b').setO (p := ⟨w2.heap.size, 0, none⟩) (by have := HZ.out; show w2.heap.size ≠ _; omega) u).setO (p := ⟨w2.heap.size, 1, none⟩) (by have := HZ.out; show w2.heap.size ≠ _; omega) u'
  exact ⟨r1.cell (j := 0) rfl, r1.cell (j := 1) rfl, r2.cell (j := 0) rfl, r2.cell (j := 1) rfl⟩
 clear h1 h1' h2 h2' Va Vb Vc ba bb bc za zb zc
 go_enter Tryz.func82, Tryz.ntmps82
 go_wp2_with fail
 refine wp_region_held_drew (S := (fun w' : World => w'.cell? ⟨w.heap.size, 0, none⟩ = some (.slice a n c) ∧ w'.cell? ⟨w.heap.size, 1, none⟩ = some (.slice a' n' c') ∧ w'.cell? ⟨w1.heap.size, 0, none⟩ = some (.slice d m k) ∧ w'.cell? ⟨w1.heap.size, 1, none⟩ = some (.slice d' m' k'))) (by kernel_rfl) (HSee.out _ (Below.refl _ _).drew) (fun hH => ?_)
 refine tkM 0 _ rfl rfl ?_; simp only [sz, ss]
 refine tkM 1 _ rfl rfl ?_; simp only [sz, ss]
 refine tkM 2 _ rfl rfl ?_; simp only [sz, ss]
 refine tkM 3 _ rfl rfl ?_; simp only [sz, ss]
 refine tkM 6 _ rfl rfl ?_; simp only [sz, ss]
 refine tkM 7 _ rfl rfl ?_; simp only [sz, ss]
 refine tkM 8 _ rfl rfl ?_; simp only [sz, ss]
 refine tkM 9 _ rfl rfl ?_; simp only [sz, ss]
 refine rdL [4, 10] ?_
 refine rcL (fun K hK => ?_) ?_
 · obtain ⟨w4, hw4, V4, s4, z4⟩ := q0q w3.drew 36 [.slice a n c, .slice d m k]
   have V4h : Hid _ := V4
   have s4h : Hid _ := s4
   have b4h : Hid (Below w3.heap.size w3 w4) := on ((Below.refl _ _).drew) s4
   have hS4 := HSee.out _ b4h.out
   clear V4 s4 z4
   go_simp
   refine hK.out _ _ (by exact hS4) fun hH => ?_; clear hK K
   refine rdL [5, 10] ?_
   refine rcL (fun K hK => ?_) ?_
   · go_simp
     go_at_call 106
     refine Calls.mono (qRx _ _ P a d n c m k l1 l2 (V4h.out) (Rep.below H1.out (on B3.out (b4h.out))) (Rep.below H2.out (on B3.out (b4h.out))) hn hm) ?_
     rintro e w5 ⟨r5, n5, c5, rfl, ho5, s5⟩
     have HO5 : Hid (OwnI 45 w5 w3.heap.size (.slice r5 n5 c5) (l1 ++ l2)) := ho5.mono (by have := (b4h.out : Below w3.heap.size w3 w4).size; exact this)
     have s5h : Hid _ := s5
     have b5h : Hid (Below w3.heap.size w3 w5) := on (b4h.out) s5
     have hS5 := HSee.out _ b5h.out
     clear s5 ho5
     go_simp
     refine hK.out _ _ (by exact hS5) fun hH => ?_; clear hK K
     refine r1L 10 rfl fun K hK => ?_
     · obtain ⟨w10, hw10, V10, s10, z10⟩ := q0q w5 109 [.slice a' n' c', .slice d' m' k']
       have V10h : Hid _ := V10
       have s10h : Hid _ := s10
       have b10h : Hid (Below w3.heap.size w3 w10) := on (b5h.out) s10
       have hS10 := HSee.out _ b10h.out
       clear V10 s10 z10
       go_simp
       refine hK.out _ _ (by exact hS10) fun hH => ?_; clear hK K
       refine r1L 11 rfl fun K hK => ?_
       · go_simp
         go_at_call 107
         refine Calls.mono (qRQ _ _ P a' d' n' c' m' k' l1' l2' (V10h.out) (Rep.below H1'.out (on B3.out (b10h.out))) (Rep.below H2'.out (on B3.out (b10h.out))) hn' hm') ?_
         rintro e w11 ⟨r11, n11, c11, rfl, ho11, s11⟩
         have HO11 : Hid (OwnB 133 w11 w3.heap.size (.slice r11 n11 c11) (l1' ++ l2')) := ho11.mono (by have := (b10h.out : Below w3.heap.size w3 w10).size; exact this)
         have s11h : Hid _ := s11
         have b11h : Hid (Below w3.heap.size w3 w11) := on (b10h.out) s11
         have hS11 := HSee.out _ b11h.out
         clear s11 ho11
         go_simp
         refine hK.out _ _ (by exact hS11) fun hH => ?_; clear hK K
         refine tkM 12 _ rfl rfl ?_; simp only [sz, ss]
         refine r1L 13 rfl fun K hK => ?_
         · obtain ⟨q0, q1⟩ := (V3.out.below b11h.out).two
           have f0 := (V3.out.below b11h.out).frozen 0
           have f1 := (V3.out.below b11h.out).frozen 1
           go_simp
           refine hK.out _ _ (by exact HSet.out _ _ _ b11h.out) fun hH => ?_; clear hK K
           refine wpAnyH_done (by kernel_rfl) ?_ _
           clear hH
           go_wp2
           exact qAx (V3.out.below b11h.out) (on B3.out b11h.out) (by have := HZ.out; omega) _ _ rfl rfl Tryz.underlying111 rfl (by kernel_rfl) (fun w' k' b' => ⟨_, _, _, _, _, _, rfl, (IsCnt.mk (((HO5.out.below s10h.out).below s11h.out)) HO11.out).keptL k' HZ.out.2.2 |>.mono B3.out.size, b'⟩)
   refine rcL (fun K hK => ?_) ?_
   · obtain ⟨w10, hw10, V10, s10, z10⟩ := q0q w4 109 [.slice a' n' c', .slice d' m' k']
     have V10h : Hid _ := V10
     have s10h : Hid _ := s10
     have b10h : Hid (Below w3.heap.size w3 w10) := on (b4h.out) s10
     have hS10 := HSee.out _ b10h.out
     clear V10 s10 z10
     go_simp
     refine hK.out _ _ (by exact hS10) fun hH => ?_; clear hK K
     refine r1L 5 rfl fun K hK => ?_
     · go_simp
       go_at_call 106
       refine Calls.mono (qRx _ _ P a d n c m k l1 l2 ((V4h.out.below s10h.out)) (Rep.below H1.out (on B3.out (b10h.out))) (Rep.below H2.out (on B3.out (b10h.out))) hn hm) ?_
       rintro e w5 ⟨r5, n5, c5, rfl, ho5, s5⟩
       have HO5 : Hid (OwnI 45 w5 w3.heap.size (.slice r5 n5 c5) (l1 ++ l2)) := ho5.mono (by have := (b10h.out : Below w3.heap.size w3 w10).size; exact this)
       have s5h : Hid _ := s5
       have b5h : Hid (Below w3.heap.size w3 w5) := on (b10h.out) s5
       have hS5 := HSee.out _ b5h.out
       clear s5 ho5
       go_simp
       refine hK.out _ _ (by exact hS5) fun hH => ?_; clear hK K
       refine r1L 11 rfl fun K hK => ?_
       · go_simp
         go_at_call 107
         refine Calls.mono (qRQ _ _ P a' d' n' c' m' k' l1' l2' ((V10h.out.below s5h.out)) (Rep.below H1'.out (on B3.out (b5h.out))) (Rep.below H2'.out (on B3.out (b5h.out))) hn' hm') ?_
         rintro e w11 ⟨r11, n11, c11, rfl, ho11, s11⟩
         have HO11 : Hid (OwnB 133 w11 w3.heap.size (.slice r11 n11 c11) (l1' ++ l2')) := ho11.mono (by have := (b5h.out : Below w3.heap.size w3 w5).size; exact this)
         have s11h : Hid _ := s11
         have b11h : Hid (Below w3.heap.size w3 w11) := on (b5h.out) s11
         have hS11 := HSee.out _ b11h.out
         clear s11 ho11
         go_simp
         refine hK.out _ _ (by exact hS11) fun hH => ?_; clear hK K
         refine tkM 12 _ rfl rfl ?_; simp only [sz, ss]
         refine r1L 13 rfl fun K hK => ?_
         · obtain ⟨q0, q1⟩ := (V3.out.below b11h.out).two
           have f0 := (V3.out.below b11h.out).frozen 0
           have f1 := (V3.out.below b11h.out).frozen 1
           go_simp
           refine hK.out _ _ (by exact HSet.out _ _ _ b11h.out) fun hH => ?_; clear hK K
           refine wpAnyH_done (by kernel_rfl) ?_ _
           clear hH
           go_wp2
           exact qAx (V3.out.below b11h.out) (on B3.out b11h.out) (by have := HZ.out; omega) _ _ rfl rfl Tryz.underlying111 rfl (by kernel_rfl) (fun w' k' b' => ⟨_, _, _, _, _, _, rfl, (IsCnt.mk ((HO5.out.below s11h.out)) HO11.out).keptL k' HZ.out.2.2 |>.mono B3.out.size, b'⟩)
   exact rnL
 refine rcL (fun K hK => ?_) ?_
 · obtain ⟨w10, hw10, V10, s10, z10⟩ := q0q w3.drew 109 [.slice a' n' c', .slice d' m' k']
   have V10h : Hid _ := V10
   have s10h : Hid _ := s10
   have b10h : Hid (Below w3.heap.size w3 w10) := on ((Below.refl _ _).drew) s10
   have hS10 := HSee.out _ b10h.out
   clear V10 s10 z10
   go_simp
   refine hK.out _ _ (by exact hS10) fun hH => ?_; clear hK K
   refine r1L 4 rfl fun K hK => ?_
   · obtain ⟨w4, hw4, V4, s4, z4⟩ := q0q w10 36 [.slice a n c, .slice d m k]
     have V4h : Hid _ := V4
     have s4h : Hid _ := s4
     have b4h : Hid (Below w3.heap.size w3 w4) := on (b10h.out) s4
     have hS4 := HSee.out _ b4h.out
     clear V4 s4 z4
     go_simp
     refine hK.out _ _ (by exact hS4) fun hH => ?_; clear hK K
     refine r1L 5 rfl fun K hK => ?_
     · go_simp
       go_at_call 106
       refine Calls.mono (qRx _ _ P a d n c m k l1 l2 (V4h.out) (Rep.below H1.out (on B3.out (b4h.out))) (Rep.below H2.out (on B3.out (b4h.out))) hn hm) ?_
       rintro e w5 ⟨r5, n5, c5, rfl, ho5, s5⟩
       have HO5 : Hid (OwnI 45 w5 w3.heap.size (.slice r5 n5 c5) (l1 ++ l2)) := ho5.mono (by have := (b4h.out : Below w3.heap.size w3 w4).size; exact this)
       have s5h : Hid _ := s5
       have b5h : Hid (Below w3.heap.size w3 w5) := on (b4h.out) s5
       have hS5 := HSee.out _ b5h.out
       clear s5 ho5
       go_simp
       refine hK.out _ _ (by exact hS5) fun hH => ?_; clear hK K
       refine r1L 11 rfl fun K hK => ?_
       · go_simp
         go_at_call 107
         refine Calls.mono (qRQ _ _ P a' d' n' c' m' k' l1' l2' (((V10h.out.below s4h.out).below s5h.out)) (Rep.below H1'.out (on B3.out (b5h.out))) (Rep.below H2'.out (on B3.out (b5h.out))) hn' hm') ?_
         rintro e w11 ⟨r11, n11, c11, rfl, ho11, s11⟩
         have HO11 : Hid (OwnB 133 w11 w3.heap.size (.slice r11 n11 c11) (l1' ++ l2')) := ho11.mono (by have := (b5h.out : Below w3.heap.size w3 w5).size; exact this)
         have s11h : Hid _ := s11
         have b11h : Hid (Below w3.heap.size w3 w11) := on (b5h.out) s11
         have hS11 := HSee.out _ b11h.out
         clear s11 ho11
         go_simp
         refine hK.out _ _ (by exact hS11) fun hH => ?_; clear hK K
         refine tkM 12 _ rfl rfl ?_; simp only [sz, ss]
         refine r1L 13 rfl fun K hK => ?_
         · obtain ⟨q0, q1⟩ := (V3.out.below b11h.out).two
           have f0 := (V3.out.below b11h.out).frozen 0
           have f1 := (V3.out.below b11h.out).frozen 1
           go_simp
           refine hK.out _ _ (by exact HSet.out _ _ _ b11h.out) fun hH => ?_; clear hK K
           refine wpAnyH_done (by kernel_rfl) ?_ _
           clear hH
           go_wp2
           exact qAx (V3.out.below b11h.out) (on B3.out b11h.out) (by have := HZ.out; omega) _ _ rfl rfl Tryz.underlying111 rfl (by kernel_rfl) (fun w' k' b' => ⟨_, _, _, _, _, _, rfl, (IsCnt.mk ((HO5.out.below s11h.out)) HO11.out).keptL k' HZ.out.2.2 |>.mono B3.out.size, b'⟩)
 exact rnL
attribute [local go_sem] Oper.semAt_some
theorem chg_plain {T : List Itm → List Itm} {key : UInt64} {f : Nat} {bs : Array Value} {B : Nat} {J : World → Prop} (hT : qEz T f bs B J) (w : World) (g base : Nat) (v : Value) (s : Pgs) (hW : Wr w g base v s (.int .u64 (key.toNat : Int)) (.func (.func f) #[] bs)) (hJ : J w) (hB : B ≤ g ∧ B ≤ base) (fr : UInt64) (p : Int) (hp1 : 1 ≤ p) (hp2 : p ≤ 2049) (nd : Nod) (hnd : Tr.nodeE s p = .ok nd) (s1 : Pgs) (now : Cnt) (hk : nd.2 ≠ []) (kid : Brn) (hkid : (Tr.contOf nd fr).2.getD (Lf.way nd key) (0, 0) = kid) (hrec : ∀ W, Below w.heap.size w W → Calls Tryz.prog 68 #[.pointer (some ⟨g, 0, none⟩), .agg #[.int .u64 (kid.1.toNat : Int), .int .i64 kid.2]] W fun e w' => ChgDone (.ok (s1, now)) g base v (.int .u64 (key.toNat : Int)) (.func (.func f) #[] bs) W e w') (hfew : Tr.csize now ≤ 6) (hpn : Tr.PagesIn now.2) (h2 : 2 ≤ Tr.csize now) :
 Calls Tryz.prog 68 #[.pointer (some ⟨g, 0, none⟩), .agg #[.int .u64 (fr.toNat : Int), .int .i64 p]] w fun e w' => ChgDone (Tr.layR s1 (now) (Tr.contOf nd fr).2 (Lf.way nd key) (Lf.way nd key + 1)) g base v (.int .u64 (key.toNat : Int)) (.func (.func f) #[] bs) w e w' := by
 have HKn : Hid (nd.2 ≠ []) := hk
 have HKid : Hid _ := hkid
 have HRec : Hid _ := hrec
 have HFew : Hid (Tr.csize now ≤ 6) := hfew
 have HPn : Hid (Tr.PagesIn now.2) := hpn
 clear hk hkid hrec hfew hpn
 have HSz1 : Hid (2 ≤ Tr.csize now) := h2
 clear h2
 obtain ⟨pa, pc, rfl, hpl, hpn⟩ := hW.pgs.slice
 obtain ⟨w1, hw1, V1, b1, z1⟩ := q0q w 133 [.int .u64 (fr.toNat : Int), .int .i64 p]
 obtain ⟨w2, hw2, V2r, b2, z2⟩ := q0q w1 111 [.slice none 0 0, .slice none 0 0]
 have HT : Hid _ := hT
 have B2 : Hid (Below w.heap.size w w2) := on b1 b2
 have V2 : Hid _ := V2r
 have V1b : Hid _ := V1.below b2
 have W2 : Hid (Wr w2 g base (.slice pa s.length pc) s (.int .u64 (key.toNat : Int)) (.func (.func f) #[] bs)) := hW.below B2.out
 have HW0 : Hid _ := hW
 have HZ : Hid (w1.heap.size = w.heap.size + 1) := z1
 have HZ2 : Hid (w2.heap.size = w.heap.size + 2) := by unfold Hid; omega
 have HOk : Hid (Lf.Ok nd) := Tr.nodeE_ok hnd
 have HNd : Hid (Tr.nodeE s p = .ok nd) := hnd
 have HJ0 : Hid (J w) := hJ
 have HB : Hid (B ≤ g ∧ B ≤ base) := hB
 have HGw : Hid (g < w.heap.size) := hW.row.lt
 have HSee : Hid (∀ W', Below w2.heap.size w2 W' → W'.cell? ⟨g, 0, none⟩ = some (.slice pa s.length pc) ∧ W'.cell? ⟨w.heap.size, 1, none⟩ = some (.int .i64 p)) := by
  intro W' b'
  exact ⟨(W2.out.row.below b').cell (j := 0) rfl, (V1b.out.below b').cell (j := 1) rfl⟩
 have HRd : Hid (∀ W', Below w2.heap.size w2 W' → rSectors.rd W' (fun b => base ≤ b) [.slice pa s.length pc] s) := fun W' b' => Rep.below (W2.out.pgs.rd hW.few) b'
 have h0 : -9223372036854775808 ≤ p := by omega
 have h1 : p ≤ 9223372036854775807 := by omega
 clear hW hpl hpn V1 V2r b1 b2 z1 z2 hT hnd hJ hB hp1 hp2
 go_enter Tryz.func68, Tryz.ntmps68
 go_wp2_with fail
 go_cut [5] (fun t wx => ∃ nb ia il ic ka kl kc, t = .pointer (some ⟨nb, 0, none⟩) ∧ Hid (w2.heap.size ≤ nb) ∧ Hid (Row wx nb 63 [.slice ia il ic, .slice ka kl kc]) ∧ Hid (OwnI 45 wx w2.heap.size (.slice ia il ic) nd.1) ∧ Hid (OwnK 3 wx w2.heap.size (.slice ka kl kc) nd.2) ∧ Hid (Below w2.heap.size w2 wx))
 case first =>
  refine wp_region_held_drew (S := (fun w' : World => w'.cell? ⟨g, 0, none⟩ = some (.slice pa s.length pc) ∧ w'.cell? ⟨w.heap.size, 1, none⟩ = some (.int .i64 p))) (by kernel_rfl) (HSee.out _ (Below.refl _ _).drew) (fun hH => ?_)
  refine tkM 0 _ rfl rfl ?_; simp only [sz, ss]
  refine tkM 1 _ rfl rfl ?_; simp only [sz, ss]
  refine tkM 2 _ rfl rfl ?_; simp only [sz, ss]
  refine tkM 3 _ rfl rfl ?_; simp only [sz, ss]
  refine tkM 4 _ rfl rfl ?_; simp only [sz, ss]
  refine tkM 5 _ rfl rfl ?_; simp only [sz, ss]
  refine rdL [6, 7] ?_
  refine rcL (fun K hK => ?_) ?_
  · go_simp
    go_at_call 75
    refine Calls.mono (q9z _ _ pa pc s (HRd.out _ ((Below.refl _ _).drew)) p h0 h1) ?_
    rintro e w3 ⟨hb3, hok, -⟩
    have b3 : Below w2.heap.size w2 w3 := on ((Below.refl _ _).drew) hb3
    obtain ⟨ia, il, ic, ka, kl, kc, rfl, hI3, hK3⟩ := hok nd HNd.out
    have HB3 : Hid _ := b3
    have HI3 : Hid _ := hI3
    have HK3 : Hid _ := hK3
    clear hok hI3 hK3 b3 hb3
    go_simp
    refine hK.out _ _ (by exact HSee.out _ HB3.out) fun hH => ?_; clear hK K
    refine r1L 7 rfl fun K hK => ?_
    · go_simp
      refine hK.out _ _ (by exact HSee.out _ (q0Q HB3.out _)) fun hH => ?_; clear hK K
      refine r1L 8 rfl fun K hK => ?_
      · go_simp
        refine hK.out _ _ (by exact HSee.out _ (q0Q HB3.out _)) fun hH => ?_; clear hK K
        refine wpAnyH_done (by kernel_rfl) ?_ _
        clear hH
        go_wp2_with fail
        go_meet
        exact ⟨w3.heap.size, ia, il, ic, ka, kl, kc, rfl, HB3.out.size, q1Z _ _ _, HI3.out.below ((Below.refl _ w3).alloc (zw0 _) _), HK3.out.below ((Below.refl _ w3).alloc (zw0 _) _), q0Q HB3.out _⟩
  refine rcL (fun K hK => ?_) ?_
  · have BZ : Hid (Below w2.heap.size w2 (w2.alloc (.cells #[.slice none 0 0, .slice none 0 0] 63)).drew) := ((Below.refl _ w2).alloc (zw0 _) _).drew
    have VZ : Hid (Row (w2.alloc (.cells #[.slice none 0 0, .slice none 0 0] 63)).drew w2.heap.size 63 [.slice none 0 0, .slice none 0 0]) := (q1Z w2 _ _).keep rfl
    obtain ⟨wZ, hwZ⟩ : ∃ wZ, wZ = (w2.alloc (.cells #[.slice none 0 0, .slice none 0 0] 63)).drew := ⟨_, rfl⟩
    rw [← hwZ] at BZ VZ
    go_simp
    rw [← hwZ]
    clear hwZ
    refine hK.out _ _ (by exact HSee.out _ BZ.out) fun hH => ?_; clear hK K
    refine r1L 6 rfl fun K hK => ?_
    · go_simp
      go_at_call 75
      refine Calls.mono (q9z _ _ pa pc s (HRd.out _ (BZ.out)) p h0 h1) ?_
      rintro e w3 ⟨hb3, hok, -⟩
      have b3 : Below w2.heap.size w2 w3 := on (BZ.out) hb3
      obtain ⟨ia, il, ic, ka, kl, kc, rfl, hI3, hK3⟩ := hok nd HNd.out
      have HB3 : Hid _ := b3
      have VC : Hid _ := VZ.out.below hb3
      have hlt : Hid (w2.heap.size < wZ.heap.size) := VZ.out.lt
      have HI3 : Hid _ := hI3
      have HK3 : Hid _ := hK3
      obtain ⟨g0, g1⟩ := VC.out.two
      have g2 := VC.out.frozen 0
      have g3 := VC.out.frozen 1
      clear hok hI3 hK3 b3 hb3
      go_simp
      refine hK.out _ _ (by exact HSee.out _ HB3.out) fun hH => ?_; clear hK K
      refine r1L 8 rfl fun K hK => ?_
      · go_simp
        refine hK.out _ _ (by exact HSee.out _ ((HB3.out.setCell (p := ⟨w2.heap.size, 0, none⟩) (zw0 _) _).setCell (p := ⟨w2.heap.size, 1, none⟩) (zw0 _) _)) fun hH => ?_; clear hK K
        refine wpAnyH_done (by kernel_rfl) ?_ _
        clear hH
        go_wp2_with fail
        go_meet
        obtain ⟨w9, hw9, V9, K9⟩ := VC.out.whole2 (.slice ia il ic) (.slice ka kl kc)
        rw [hw9]
        exact ⟨w2.heap.size, ia, il, ic, ka, kl, kc, rfl, zw0 _, V9, (HI3.out.keptL K9 hlt.out).mono (Nat.le_of_lt hlt.out), (HK3.out.keptL K9 hlt.out).mono (Nat.le_of_lt hlt.out), Kept.belowOf HB3.out K9 (zw0 _)⟩
  exact rnL
 case rest =>
  obtain ⟨nb, ia, il, ic, ka, kl, kc, rfl, HNb, RN, HI, HK, HB3⟩ := hcut
  obtain ⟨w3, hw3⟩ : ∃ w3, w3 = wc := ⟨_, rfl⟩
  subst hw3
  obtain ⟨r0, r1⟩ := (V1b.out.below HB3.out).two
  obtain ⟨q0, q1⟩ := RN.out.two
  have HKL : Hid (kl = nd.2.length) := by obtain ⟨x, y, e, -⟩ := HK.out.slice; simp only [Value.slice.injEq] at e; exact e.2.1
  clear HSee HRd V1b
  go_wp2_with fail
  go_at_call 80
  refine Calls.mono (q6X _ w2.heap.size ia ka il ic kl kc nd.1 nd.2 fr HI.out HK.out HOk.out.few (Tr.shape HOk.out) HB3.out.size) ?_
  rintro e w4 ⟨ca, cn, cc, da, dn, dc, rfl, hC4, b4⟩
  obtain ⟨w5, hw5, V5r, b5, z5⟩ := q0q w4 111 [.slice ca cn cc, .slice da dn dc]
  have B5 : Hid (Below w2.heap.size w2 w5) := on (on HB3.out b4) b5
  have HC5 : Hid (IsCnt w5 w2.heap.size (.slice ca cn cc) (.slice da dn dc) (Tr.contOf nd fr)) := hC4.below b5
  have RN5 : Hid _ := (RN.out.below b4).below b5
  have HI5 : Hid _ := (HI.out.below b4).below b5
  have V5 : Hid _ := V5r
  have HZ5 : Hid (w2.heap.size ≤ w4.heap.size ∧ w5.heap.size = w4.heap.size + 1) := ⟨(on HB3.out b4).size, z5⟩
  clear r0 r1 q0 q1 RN HI HK HB3 hC4 b4 b5 V5r z5
  obtain ⟨q0, q1⟩ := RN5.out.two
  go_wp2_with fail
  go_at_call 47
  refine (q4z _ _ _ _ _).mono ?_
  rintro e w6 ⟨rfl, b6⟩
  have B6 : Hid _ := on B5.out b6
  have HC6 : Hid _ := HC5.out.below b6
  have RN6 : Hid _ := RN5.out.below b6
  have HI6 : Hid _ := HI5.out.below b6
  have V6 : Hid _ := V5.out.below b6
  have R6 : Hid _ := V2.out.below B6.out
  have W6 : Hid _ := W2.out.below B6.out
  have HB0 : Hid _ := on B2.out B6.out
  have HJ6 : Hid (J w6) := HT.out.stay HJ0.out ((WTurn.of (g := g) HB0.out).under HW0.out HB.out)
  clear q0 q1 b6 B5 HC5 RN5 HI5 V5 W2 V2 hw5 hw1 hw2
  have hkl : ¬ ((kl : Int) = 0) := by have := HKL.out; have : nd.2.length ≠ 0 := fun e => HKn.out (List.length_eq_zero_iff.1 e); omega
  obtain ⟨q, hq⟩ : ∃ q, q = Lf.way (nd.1, nd.2) key := ⟨_, rfl⟩
  have HQ : Hid (q = Lf.way nd key) := hq
  have HDN : Hid (dn = (Tr.contOf nd fr).2.length) := by obtain ⟨x, y, e, -⟩ := HC6.out.kids.slice; simp only [Value.slice.injEq] at e; exact e.2.1
  have HDN4 : Hid (2 ≤ dn ∧ dn ≤ 4) := by have h1 := (Tr.contOf_len fr HOk.out HKn.out).2; have h2 := HOk.out.some_; have h3 := HOk.out.few; have h4 := HDN.out; unfold Hid; omega
  have HQL : Hid (q < dn) := by have h := Tr.way_lt fr key HOk.out HKn.out; rw [← HDN.out, ← HQ.out] at h; exact h
  have HSee5 : Hid (∀ W', Below w6.heap.size w6 W' → W'.cell? ⟨nb, 0, none⟩ = some (.slice ia il ic) ∧ W'.cell? ⟨nb, 1, none⟩ = some (.slice ka kl kc) ∧ W'.cell? ⟨g, 1, none⟩ = some (.int .u64 (key.toNat : Int))) := fun W' b' => ⟨(RN6.out.below b').cell (j := 0) rfl, (RN6.out.below b').cell (j := 1) rfl, (W6.out.row.below b').cell (j := 1) rfl⟩
  have HWy : Hid _ := way_u w6.drew (fun b => w2.heap.size ≤ b) ia il ic (.slice ka kl kc) nd.1 nd.2 (Rep.below (HI6.out.rd (by have := HOk.out.few; omega)) (Below.refl _ _).drew) key
  rw [← hq] at HWy
  clear hq HKL RN6 HI6
  go_wp2_with fail
  refine wp_region_held_drew (S := (fun w' : World => w'.cell? ⟨nb, 0, none⟩ = some (.slice ia il ic) ∧ w'.cell? ⟨nb, 1, none⟩ = some (.slice ka kl kc) ∧ w'.cell? ⟨g, 1, none⟩ = some (.int .u64 (key.toNat : Int)))) (by kernel_rfl) (HSee5.out _ (Below.refl _ _).drew) (fun hH => ?_)
  refine tkM 0 _ rfl rfl ?_; simp only [sz, ss]
  refine tkM 1 _ rfl rfl ?_; simp only [sz, ss]
  refine tkM 2 _ rfl rfl ?_; simp only [sz, ss]
  refine tkM 3 _ rfl rfl ?_; simp only [sz, ss]
  refine tkM 4 _ rfl rfl ?_; simp only [sz, ss]
  refine r1L 5 rfl fun K hK => ?_
  · go_simp
    go_at_call 49
    refine Calls.mono HWy.out ?_
    rintro e w7 ⟨rfl, hb7⟩
    have b7 : Below w6.heap.size w6 w7 := q1Q hb7
    have hS7 := HSee5.out _ b7
    have HB7 : Hid _ := b7
    clear b7 hb7
    go_simp
    refine hK.out _ _ (by exact hS7) fun hH => ?_; clear hK K
    refine tkM 6 _ rfl rfl ?_; simp only [sz, ss]
    refine wpAnyH_done (by kernel_rfl) ?_ _
    clear hH hS7
    have V7 : Hid _ := V6.out.below HB7.out
    have R7 : Hid _ := R6.out.below HB7.out
    have W7 : Hid _ := W6.out.below HB7.out
    have B7 : Hid _ := on HB0.out HB7.out
    have HK7 : Hid (OwnB 133 w7 w2.heap.size (.slice da dn dc) (Tr.contOf nd fr).2) := HC6.out.kids.below HB7.out
    obtain ⟨kb, off, rfl, -, hkb, hat⟩ := q2j (HK7.out.rd (by have := HDN.out; have := HDN4.out; omega)) (by have := HQL.out; omega)
    have hkx : (Tr.contOf nd fr).2[q]'(by have := HDN.out; have := HQL.out; omega) = kid := by
     rw [← HKid.out, ← HQ.out]
     rw [List.getD_eq_getElem?_getD, zw3 (by have := HDN.out; have := HQL.out; omega)]
     rfl
    obtain ⟨c0, c1⟩ := hat q (by have := HDN.out; have := HQL.out; omega)
    rw [hkx] at c0 c1
    obtain ⟨y0, y1⟩ := V7.out.two
    have hq0 : (0 : Int) ≤ (q : Int) := Int.natCast_nonneg _
    have hq1 : (q : Int) < (dn : Int) := by have := HQL.out; omega
    have hq4 : q ≤ 4 := by have := HQL.out; have := HDN4.out; omega
    have hd4 : dn ≤ 4 := HDN4.out.2
    obtain ⟨q1, hq1e⟩ : ∃ q1, q1 = q + 1 := ⟨_, rfl⟩
    have HQ1 : Hid (q1 = q + 1) := hq1e
    have hwq : IntKind.i64.wrap ((q : Int) + 1) = (q1 : Int) := by rw [IntKind.wrap_i64]; omega
    clear hq1e hat hkx V6 R6 W6 HC6 HSee5 HWy
    go_wp2_with fail
    go_at_call 68
    refine Calls.mono (HRec.out w7 B7.out) ?_
    rintro e w8 hd
    obtain ⟨na, nn, nc, ma, mn, mc, v8, rfl, hC8, hW8, t8⟩ := hd.2 s1 now rfl
    have tk8 : TK [107, 53] w7 w8 := TK.turn W7.out t8.turn
    obtain ⟨w9, hw9, V9r, b9, z9⟩ := q0q w8 111 [.slice na nn nc, .slice ma mn mc]
    have HZ9 : Hid (w4.heap.size < w8.heap.size ∧ w1.heap.size < w4.heap.size) := ⟨by have := V7.out.lt; have := t8.turn.size; omega, by have := HZ.out; have := HZ2.out; have := HZ5.out.1; omega⟩
    have HKB : Hid (kb < w8.heap.size) := by have := t8.turn.size; unfold Hid; omega
    have V9 : Hid _ := (V7.out.tk tk8 (by decide)).below b9
    have R9 : Hid _ := (R7.out.tk tk8 (by decide)).below b9
    have N9 : Hid _ := V9r
    have HK9 : Hid _ := (HK7.out.tk tk8 (by decide)).below b9
    have HC9 : Hid _ := (hC8.mono B7.out.size).below b9
    have W9 : Hid (Wr w9 g base v8 s1 (.int .u64 (key.toNat : Int)) (.func (.func f) #[] bs)) := hW8.below b9
    have HT9 : Hid (WTurn g (.slice pa s.length pc) w v8 w9) := ((WTurn.of B7.out).trans t8).trans (WTurn.of b9)
    have HNN : Hid (nn = now.1.length ∧ mn = now.2.length) := ⟨by obtain ⟨x, y, e, -⟩ := hC8.items.slice; simp only [Value.slice.injEq] at e; exact e.2.1, by obtain ⟨x, y, e, -⟩ := hC8.kids.slice; simp only [Value.slice.injEq] at e; exact e.2.1⟩
    have hnm : nn + mn ≤ 6 := by have h := HFew.out; unfold Tr.csize at h; have := HNN.out; omega
    clear hd hC8 hW8 t8 tk8 V9r b9 z9 V7 R7 W7 HK7 y0 y1 c0 c1 hkb hq1
    obtain ⟨y0, y1⟩ := N9.out.two
    go_wp2_with fail
    go_at_call 81
    refine (csize_u _ _ _ _ _ _ _ (by omega) (by omega)).mono ?_
    rintro e wA ⟨rfl, bA⟩
    have VA : Hid _ := V9.out.below bA
    have RA : Hid _ := R9.out.below bA
    have NA : Hid _ := N9.out.below bA
    have HKA : Hid _ := HK9.out.below bA
    have HCA : Hid _ := HC9.out.below bA
    have WA : Hid _ := W9.out.below bA
    have HTA : Hid (WTurn g (.slice pa s.length pc) w v8 wA) := HT9.out.trans (WTurn.of bA)
    have HBA : Hid _ := bA
    clear y0 y1 bA V9 R9 N9 HK9 HC9 W9 HT9 hw9
    have hz : (nn : Int) + (mn : Int) ≥ 2 := by have h := HSz1.out; unfold Tr.csize at h; have := HNN.out; omega
    have HSz : Hid (Tr.csize now ≤ 6) := HFew.out
    have HPg : Hid (Tr.PagesIn now.2) := HPn.out
    have HLA : Hid _ := HNN.out
    have HIJ : Hid (q < q1 ∧ q1 ≤ dn) := ⟨by have := HQ1.out; omega, by have := HQ1.out; have := HQL.out; omega⟩
    have HSeeT : Hid (∀ W', Turn (WS g v8) wA W' → W'.cell? ⟨w4.heap.size, 1, none⟩ = some (.slice (some ⟨kb, off, none⟩) dn dc) ∧ W'.cell? ⟨w8.heap.size, 0, none⟩ = some (.slice na nn nc) ∧ W'.cell? ⟨w8.heap.size, 1, none⟩ = some (.slice ma mn mc)) := fun W' t' => by
     have tk := TK.turn WA.out t'
     exact ⟨(VA.out.tk tk (by decide)).cell (j := 1) rfl, (NA.out.tk tk (by decide)).cell (j := 0) rfl, (NA.out.tk tk (by decide)).cell (j := 1) rfl⟩
    go_wp2_with fail
    refine wp_region_held_drew (S := (fun w' : World => w'.cell? ⟨w4.heap.size, 1, none⟩ = some (.slice (some ⟨kb, off, none⟩) dn dc) ∧ w'.cell? ⟨w8.heap.size, 0, none⟩ = some (.slice na nn nc) ∧ w'.cell? ⟨w8.heap.size, 1, none⟩ = some (.slice ma mn mc))) (by kernel_rfl) (HSeeT.out _ (Turn.of (Below.refl _ _).drew)) (fun hH => ?_)
    refine tkM 0 _ rfl rfl ?_; simp only [sz, ss]
    refine tkM 1 _ rfl rfl ?_; simp only [sz, ss]
    refine tkM 2 _ rfl rfl ?_; simp only [sz, ss]
    refine tkM 3 _ rfl rfl ?_; simp only [sz, ss]
    refine tkM 4 _ rfl rfl ?_; simp only [sz, ss]
    refine tkM 5 _ rfl rfl ?_; simp only [sz, ss]
    refine r1L 6 rfl fun K hK => ?_
    · go_simp
      go_at_call 67
      refine Calls.mono (lay_u wA.drew g base v8 s1 (.int .u64 (key.toNat : Int)) (.func (.func f) #[] bs) (WA.out.below (Below.refl _ _).drew) _ na ma nn nc mn mc (now).1 (now).2 (HCA.out.below (Below.refl _ _).drew |>.rd (by have := HSz.out; unfold Tr.csize at this; omega) (by have := HSz.out; unfold Tr.csize at this; omega)).1 (HCA.out.below (Below.refl _ _).drew |>.rd (by have := HSz.out; unfold Tr.csize at this; omega) (by have := HSz.out; unfold Tr.csize at this; omega)).2 ((HCA.out.below (Below.refl _ _).drew).apartW (WA.out.below (Below.refl _ _).drew)) (by have := HLA.out; have := HSz.out; unfold Tr.csize at this; omega) (by have := HLA.out; have := HSz.out; unfold Tr.csize at this; omega) (fun b hb => by have := HPg.out b hb; omega)) ?_
      rintro e wY hd
      rcases hy : Tr.lay s1 ((now).1, (now).2) with x | ⟨s2, lb⟩
      · obtain ⟨rfl, tY⟩ := hd.1 x hy
        refine ⟨rfl, ChgDone.no (Tr.layR_error (show Tr.lay s1 (now) = .error x from hy) _ _ _) (WTurn.trans HTA.out (v2 := v8) ⟨Turn.trans (Turn.of (Below.refl _ _).drew) tY, fun b e => .inl e⟩).turn⟩
      obtain ⟨oa, om, oc, vY, rfl, ho, hWY, tY, -⟩ := hd.2 s2 lb hy
      have HLy : Hid (Tr.lay s1 (now) = .ok (s2, lb)) := hy
      have t0 : Turn (WS g v8) wA wY := Turn.trans (Turn.of (Below.refl _ _).drew) tY.turn
      have hSY := HSeeT.out _ t0
      have tkY : TK [107, 53] wA wY := TK.turn WA.out t0
      have HLB : Hid (om = lb.length) := by obtain ⟨x, y, e, -⟩ := ho.slice; simp only [Value.slice.injEq] at e; exact e.2.1
      have HLB2 : Hid (1 ≤ lb.length ∧ lb.length ≤ 6) := by have h := (Tr.lay_some WA.out.few hy).1; have h1 := HSz.out; have h2 := HSz1.out; unfold Tr.csize at h1 h2; unfold Hid; simp only at h; omega
      have VY : Hid _ := VA.out.tk tkY (by decide)
      have RY : Hid _ := RA.out.tk tkY (by decide)
      have NY : Hid _ := NA.out.tk tkY (by decide)
      have HKY : Hid _ := HKA.out.tk tkY (by decide)
      have WY : Hid _ := hWY
      have HTY : Hid (WTurn g (.slice pa s.length pc) w vY wY) := HTA.out.trans ⟨t0, tY.place⟩
      have HSY : Hid (w2.heap.size ≤ wY.heap.size) := by have h1 := VY.out.lt; have h2 := HZ5.out.1; unfold Hid; omega
      have HOY : Hid _ := ho
      obtain ⟨vb, vo, rfl, hvP, hvl, -⟩ := q2j (HOY.out.rd (by have := HLB2.out; omega)) (by have := HLB.out; have := HLB2.out; omega)
      have HVB : Hid ((Value.slice (some ⟨kb, off, none⟩) dn dc).ownBlock ≠ some vb) := fun e => by have h := (HKA.out.row.lt vb e).2; have h2 : wA.heap.size ≤ vb := hvP; omega
      clear hd hy ho hWY tY t0 tkY hvP hvl
      go_simp
      refine hK.out _ _ (by exact hSY) fun hH => ?_; clear hK K
      refine r1L 7 rfl fun K hK => ?_
      · go_simp
        go_at_call 84
        refine Calls.mono (qDx wY w2.heap.size _ dn dc q q1 (Tr.contOf nd fr).2 HKY.out _ vb vo om oc lb (HOY.out.rd (by have := HLB2.out; omega)) HVB.out (by have := HLB.out; have := HLB2.out; omega) HIJ.out.1 HIJ.out.2 (by have := HDN4.out; omega) (by have := HLB.out; have := HLB2.out; omega) HSY.out) ?_
        rintro e wR ⟨ra, rn, rc, rfl, hoR, gr⟩
        have tkR : TK [133] wY wR := TK.grewB HKY.out gr
        have bR : Below w2.heap.size wY wR := HKY.out.base_below HSY.out gr
        have VR : Hid _ := VY.out.tk tkR (by decide)
        have RR : Hid _ := RY.out.tk tkR (by decide)
        have NR : Hid _ := NY.out.tk tkR (by decide)
        have WR : Hid (Wr wR g base vY s2 (.int .u64 (key.toNat : Int)) (.func (.func f) #[] bs)) := WY.out.tk tkR (by decide) (by decide) (by decide)
        have HTR : Hid (WTurn g (.slice pa s.length pc) w vY wR) := HTY.out.low (bR.mono B2.out.size)
        have HOR : Hid (OwnB 133 wR w.heap.size (.slice ra rn rc) (Tr.replaced (Tr.contOf nd fr).2 q q1 lb)) := hoR.mono B2.out.size
        have hSR : wR.cell? ⟨w4.heap.size, 1, none⟩ = some (.slice (some ⟨kb, off, none⟩) dn dc) ∧ wR.cell? ⟨w8.heap.size, 0, none⟩ = some (.slice na nn nc) ∧ wR.cell? ⟨w8.heap.size, 1, none⟩ = some (.slice ma mn mc) := ⟨VR.out.cell (j := 1) rfl, NR.out.cell (j := 0) rfl, NR.out.cell (j := 1) rfl⟩
        have HSR2 : Hid (∀ u u', ((wR.setCell ⟨w1.heap.size, 0, none⟩ u).setCell ⟨w1.heap.size, 1, none⟩ u').cell? ⟨w4.heap.size, 1, none⟩ = some (.slice (some ⟨kb, off, none⟩) dn dc) ∧ ((wR.setCell ⟨w1.heap.size, 0, none⟩ u).setCell ⟨w1.heap.size, 1, none⟩ u').cell? ⟨w8.heap.size, 0, none⟩ = some (.slice na nn nc) ∧ ((wR.setCell ⟨w1.heap.size, 0, none⟩ u).setCell ⟨w1.heap.size, 1, none⟩ u').cell? ⟨w8.heap.size, 1, none⟩ = some (.slice ma mn mc)) := fun u u' => by
         obtain ⟨w8', hw8', V8', K8'⟩ := RR.out.whole2 u u'
         rw [hw8']
         have e1 := K8'.block w4.heap.size (by have := HZ9.out; show w4.heap.size ≠ w1.heap.size; omega)
         have e2 := K8'.block w8.heap.size (by have := HZ9.out; show w8.heap.size ≠ w1.heap.size; omega)
         exact ⟨(VR.out.keep e1).cell (j := 1) rfl, (NR.out.keep e2).cell (j := 0) rfl, (NR.out.keep e2).cell (j := 1) rfl⟩
        obtain ⟨g0, g1⟩ := RR.out.two
        have g2 := RR.out.frozen 0
        have g3 := RR.out.frozen 1
        clear hoR gr tkR bR
        go_simp
        refine hK.out _ _ (by exact hSR) fun hH => ?_; clear hK K
        refine tkM 8 _ rfl rfl ?_; simp only [sz, ss]
        refine r1L 9 rfl fun K hK => ?_
        · go_simp
          refine hK.out _ _ (by exact HSR2.out _ _) fun hH => ?_; clear hK K
          refine wpAnyH_done (by kernel_rfl) ?_ _
          clear hH
          go_wp2
          exact qDq RR.out _ _ rfl rfl Tryz.underlying111 rfl (by kernel_rfl) (fun w' k' => ChgDone.yes (by rw [← HQ.out, ← HQ1.out]; exact Tr.layR_ok HLy.out _ _ _) rfl ⟨OwnI.nil _ _ _, HOR.out.tk (TK.box RR.out k') (by decide)⟩ (WR.out.tk (TK.box RR.out k') (by decide) (by decide) (by decide)) (HTR.out.low (Kept.belowOf (Below.refl _ _) k' (by have := HZ.out; omega))))
theorem chg_left {T : List Itm → List Itm} {key : UInt64} {f : Nat} {bs : Array Value} {B : Nat} {J : World → Prop} (hT : qEz T f bs B J) (w : World) (g base : Nat) (v : Value) (s : Pgs) (hW : Wr w g base v s (.int .u64 (key.toNat : Int)) (.func (.func f) #[] bs)) (hJ : J w) (hB : B ≤ g ∧ B ≤ base) (fr : UInt64) (p : Int) (hp1 : 1 ≤ p) (hp2 : p ≤ 2049) (nd : Nod) (hnd : Tr.nodeE s p = .ok nd) (s1 : Pgs) (now : Cnt) (hk : nd.2 ≠ []) (kid : Brn) (hkid : (Tr.contOf nd fr).2.getD (Lf.way nd key) (0, 0) = kid) (hrec : ∀ W, Below w.heap.size w W → Calls Tryz.prog 68 #[.pointer (some ⟨g, 0, none⟩), .agg #[.int .u64 (kid.1.toNat : Int), .int .i64 kid.2]] W fun e w' => ChgDone (.ok (s1, now)) g base v (.int .u64 (key.toNat : Int)) (.func (.func f) #[] bs) W e w') (hfew : Tr.csize now ≤ 6) (hpn : Tr.PagesIn now.2) (h2 : ¬ 2 ≤ Tr.csize now) (I : Nat) (hI : Lf.way nd key = I + 1) (sib : Brn) (hsib : (Tr.contOf nd fr).2.getD I (0, 0) = sib) (n2 : Nod) (hn2 : Tr.nodeE s1 sib.2 = .ok n2) :
 Calls Tryz.prog 68 #[.pointer (some ⟨g, 0, none⟩), .agg #[.int .u64 (fr.toNat : Int), .int .i64 p]] w fun e w' => ChgDone (Tr.layR s1 (Tr.joined (Tr.contOf n2 sib.1) now) (Tr.contOf nd fr).2 (I) (I + 2)) g base v (.int .u64 (key.toNat : Int)) (.func (.func f) #[] bs) w e w' := by
 have HKn : Hid (nd.2 ≠ []) := hk
 have HKid : Hid _ := hkid
 have HRec : Hid _ := hrec
 have HFew : Hid (Tr.csize now ≤ 6) := hfew
 have HPn : Hid (Tr.PagesIn now.2) := hpn
 clear hk hkid hrec hfew hpn
 have HSm : Hid (¬ 2 ≤ Tr.csize now) := h2
 have HI0 : Hid _ := hI
 have HSib : Hid _ := hsib
 have HN2 : Hid (Tr.nodeE s1 sib.2 = .ok n2) := hn2
 have HOk2 : Hid (Lf.Ok n2) := Tr.nodeE_ok hn2
 clear h2 hI hsib hn2
 obtain ⟨pa, pc, rfl, hpl, hpn⟩ := hW.pgs.slice
 obtain ⟨w1, hw1, V1, b1, z1⟩ := q0q w 133 [.int .u64 (fr.toNat : Int), .int .i64 p]
 obtain ⟨w2, hw2, V2r, b2, z2⟩ := q0q w1 111 [.slice none 0 0, .slice none 0 0]
 have HT : Hid _ := hT
 have B2 : Hid (Below w.heap.size w w2) := on b1 b2
 have V2 : Hid _ := V2r
 have V1b : Hid _ := V1.below b2
 have W2 : Hid (Wr w2 g base (.slice pa s.length pc) s (.int .u64 (key.toNat : Int)) (.func (.func f) #[] bs)) := hW.below B2.out
 have HW0 : Hid _ := hW
 have HZ : Hid (w1.heap.size = w.heap.size + 1) := z1
 have HZ2 : Hid (w2.heap.size = w.heap.size + 2) := by unfold Hid; omega
 have HOk : Hid (Lf.Ok nd) := Tr.nodeE_ok hnd
 have HNd : Hid (Tr.nodeE s p = .ok nd) := hnd
 have HJ0 : Hid (J w) := hJ
 have HB : Hid (B ≤ g ∧ B ≤ base) := hB
 have HGw : Hid (g < w.heap.size) := hW.row.lt
 have HSee : Hid (∀ W', Below w2.heap.size w2 W' → W'.cell? ⟨g, 0, none⟩ = some (.slice pa s.length pc) ∧ W'.cell? ⟨w.heap.size, 1, none⟩ = some (.int .i64 p)) := by
  intro W' b'
  exact ⟨(W2.out.row.below b').cell (j := 0) rfl, (V1b.out.below b').cell (j := 1) rfl⟩
 have HRd : Hid (∀ W', Below w2.heap.size w2 W' → rSectors.rd W' (fun b => base ≤ b) [.slice pa s.length pc] s) := fun W' b' => Rep.below (W2.out.pgs.rd hW.few) b'
 have h0 : -9223372036854775808 ≤ p := by omega
 have h1 : p ≤ 9223372036854775807 := by omega
 clear hW hpl hpn V1 V2r b1 b2 z1 z2 hT hnd hJ hB hp1 hp2
 go_enter Tryz.func68, Tryz.ntmps68
 go_wp2_with fail
 go_cut [5] (fun t wx => ∃ nb ia il ic ka kl kc, t = .pointer (some ⟨nb, 0, none⟩) ∧ Hid (w2.heap.size ≤ nb) ∧ Hid (Row wx nb 63 [.slice ia il ic, .slice ka kl kc]) ∧ Hid (OwnI 45 wx w2.heap.size (.slice ia il ic) nd.1) ∧ Hid (OwnK 3 wx w2.heap.size (.slice ka kl kc) nd.2) ∧ Hid (Below w2.heap.size w2 wx))
 case first =>
  refine wp_region_held_drew (S := (fun w' : World => w'.cell? ⟨g, 0, none⟩ = some (.slice pa s.length pc) ∧ w'.cell? ⟨w.heap.size, 1, none⟩ = some (.int .i64 p))) (by kernel_rfl) (HSee.out _ (Below.refl _ _).drew) (fun hH => ?_)
  refine tkM 0 _ rfl rfl ?_; simp only [sz, ss]
  refine tkM 1 _ rfl rfl ?_; simp only [sz, ss]
  refine tkM 2 _ rfl rfl ?_; simp only [sz, ss]
  refine tkM 3 _ rfl rfl ?_; simp only [sz, ss]
  refine tkM 4 _ rfl rfl ?_; simp only [sz, ss]
  refine tkM 5 _ rfl rfl ?_; simp only [sz, ss]
  refine rdL [6, 7] ?_
  refine rcL (fun K hK => ?_) ?_
  · go_simp
    go_at_call 75
    refine Calls.mono (q9z _ _ pa pc s (HRd.out _ ((Below.refl _ _).drew)) p h0 h1) ?_
    rintro e w3 ⟨hb3, hok, -⟩
    have b3 : Below w2.heap.size w2 w3 := on ((Below.refl _ _).drew) hb3
    obtain ⟨ia, il, ic, ka, kl, kc, rfl, hI3, hK3⟩ := hok nd HNd.out
    have HB3 : Hid _ := b3
    have HI3 : Hid _ := hI3
    have HK3 : Hid _ := hK3
    clear hok hI3 hK3 b3 hb3
    go_simp
    refine hK.out _ _ (by exact HSee.out _ HB3.out) fun hH => ?_; clear hK K
    refine r1L 7 rfl fun K hK => ?_
    · go_simp
      refine hK.out _ _ (by exact HSee.out _ (q0Q HB3.out _)) fun hH => ?_; clear hK K
      refine r1L 8 rfl fun K hK => ?_
      · go_simp
        refine hK.out _ _ (by exact HSee.out _ (q0Q HB3.out _)) fun hH => ?_; clear hK K
        refine wpAnyH_done (by kernel_rfl) ?_ _
        clear hH
        go_wp2_with fail
        go_meet
        exact ⟨w3.heap.size, ia, il, ic, ka, kl, kc, rfl, HB3.out.size, q1Z _ _ _, HI3.out.below ((Below.refl _ w3).alloc (zw0 _) _), HK3.out.below ((Below.refl _ w3).alloc (zw0 _) _), q0Q HB3.out _⟩
  refine rcL (fun K hK => ?_) ?_
  · have BZ : Hid (Below w2.heap.size w2 (w2.alloc (.cells #[.slice none 0 0, .slice none 0 0] 63)).drew) := ((Below.refl _ w2).alloc (zw0 _) _).drew
    have VZ : Hid (Row (w2.alloc (.cells #[.slice none 0 0, .slice none 0 0] 63)).drew w2.heap.size 63 [.slice none 0 0, .slice none 0 0]) := (q1Z w2 _ _).keep rfl
    obtain ⟨wZ, hwZ⟩ : ∃ wZ, wZ = (w2.alloc (.cells #[.slice none 0 0, .slice none 0 0] 63)).drew := ⟨_, rfl⟩
    rw [← hwZ] at BZ VZ
    go_simp
    rw [← hwZ]
    clear hwZ
    refine hK.out _ _ (by exact HSee.out _ BZ.out) fun hH => ?_; clear hK K
    refine r1L 6 rfl fun K hK => ?_
    · go_simp
      go_at_call 75
      refine Calls.mono (q9z _ _ pa pc s (HRd.out _ (BZ.out)) p h0 h1) ?_
      rintro e w3 ⟨hb3, hok, -⟩
      have b3 : Below w2.heap.size w2 w3 := on (BZ.out) hb3
      obtain ⟨ia, il, ic, ka, kl, kc, rfl, hI3, hK3⟩ := hok nd HNd.out
      have HB3 : Hid _ := b3
      have VC : Hid _ := VZ.out.below hb3
      have hlt : Hid (w2.heap.size < wZ.heap.size) := VZ.out.lt
      have HI3 : Hid _ := hI3
      have HK3 : Hid _ := hK3
      obtain ⟨g0, g1⟩ := VC.out.two
      have g2 := VC.out.frozen 0
      have g3 := VC.out.frozen 1
      clear hok hI3 hK3 b3 hb3
      go_simp
      refine hK.out _ _ (by exact HSee.out _ HB3.out) fun hH => ?_; clear hK K
      refine r1L 8 rfl fun K hK => ?_
      · go_simp
        refine hK.out _ _ (by exact HSee.out _ ((HB3.out.setCell (p := ⟨w2.heap.size, 0, none⟩) (zw0 _) _).setCell (p := ⟨w2.heap.size, 1, none⟩) (zw0 _) _)) fun hH => ?_; clear hK K
        refine wpAnyH_done (by kernel_rfl) ?_ _
        clear hH
        go_wp2_with fail
        go_meet
        obtain ⟨w9, hw9, V9, K9⟩ := VC.out.whole2 (.slice ia il ic) (.slice ka kl kc)
        rw [hw9]
        exact ⟨w2.heap.size, ia, il, ic, ka, kl, kc, rfl, zw0 _, V9, (HI3.out.keptL K9 hlt.out).mono (Nat.le_of_lt hlt.out), (HK3.out.keptL K9 hlt.out).mono (Nat.le_of_lt hlt.out), Kept.belowOf HB3.out K9 (zw0 _)⟩
  exact rnL
 case rest =>
  obtain ⟨nb, ia, il, ic, ka, kl, kc, rfl, HNb, RN, HI, HK, HB3⟩ := hcut
  obtain ⟨w3, hw3⟩ : ∃ w3, w3 = wc := ⟨_, rfl⟩
  subst hw3
  obtain ⟨r0, r1⟩ := (V1b.out.below HB3.out).two
  obtain ⟨q0, q1⟩ := RN.out.two
  have HKL : Hid (kl = nd.2.length) := by obtain ⟨x, y, e, -⟩ := HK.out.slice; simp only [Value.slice.injEq] at e; exact e.2.1
  clear HSee HRd V1b
  go_wp2_with fail
  go_at_call 80
  refine Calls.mono (q6X _ w2.heap.size ia ka il ic kl kc nd.1 nd.2 fr HI.out HK.out HOk.out.few (Tr.shape HOk.out) HB3.out.size) ?_
  rintro e w4 ⟨ca, cn, cc, da, dn, dc, rfl, hC4, b4⟩
  obtain ⟨w5, hw5, V5r, b5, z5⟩ := q0q w4 111 [.slice ca cn cc, .slice da dn dc]
  have B5 : Hid (Below w2.heap.size w2 w5) := on (on HB3.out b4) b5
  have HC5 : Hid (IsCnt w5 w2.heap.size (.slice ca cn cc) (.slice da dn dc) (Tr.contOf nd fr)) := hC4.below b5
  have RN5 : Hid _ := (RN.out.below b4).below b5
  have HI5 : Hid _ := (HI.out.below b4).below b5
  have V5 : Hid _ := V5r
  have HZ5 : Hid (w2.heap.size ≤ w4.heap.size ∧ w5.heap.size = w4.heap.size + 1) := ⟨(on HB3.out b4).size, z5⟩
  clear r0 r1 q0 q1 RN HI HK HB3 hC4 b4 b5 V5r z5
  obtain ⟨q0, q1⟩ := RN5.out.two
  go_wp2_with fail
  go_at_call 47
  refine (q4z _ _ _ _ _).mono ?_
  rintro e w6 ⟨rfl, b6⟩
  have B6 : Hid _ := on B5.out b6
  have HC6 : Hid _ := HC5.out.below b6
  have RN6 : Hid _ := RN5.out.below b6
  have HI6 : Hid _ := HI5.out.below b6
  have V6 : Hid _ := V5.out.below b6
  have R6 : Hid _ := V2.out.below B6.out
  have W6 : Hid _ := W2.out.below B6.out
  have HB0 : Hid _ := on B2.out B6.out
  have HJ6 : Hid (J w6) := HT.out.stay HJ0.out ((WTurn.of (g := g) HB0.out).under HW0.out HB.out)
  clear q0 q1 b6 B5 HC5 RN5 HI5 V5 W2 V2 hw5 hw1 hw2
  have hkl : ¬ ((kl : Int) = 0) := by have := HKL.out; have : nd.2.length ≠ 0 := fun e => HKn.out (List.length_eq_zero_iff.1 e); omega
  obtain ⟨q, hq⟩ : ∃ q, q = Lf.way (nd.1, nd.2) key := ⟨_, rfl⟩
  have HQ : Hid (q = Lf.way nd key) := hq
  have HDN : Hid (dn = (Tr.contOf nd fr).2.length) := by obtain ⟨x, y, e, -⟩ := HC6.out.kids.slice; simp only [Value.slice.injEq] at e; exact e.2.1
  have HDN4 : Hid (2 ≤ dn ∧ dn ≤ 4) := by have h1 := (Tr.contOf_len fr HOk.out HKn.out).2; have h2 := HOk.out.some_; have h3 := HOk.out.few; have h4 := HDN.out; unfold Hid; omega
  have HQL : Hid (q < dn) := by have h := Tr.way_lt fr key HOk.out HKn.out; rw [← HDN.out, ← HQ.out] at h; exact h
  have HSee5 : Hid (∀ W', Below w6.heap.size w6 W' → W'.cell? ⟨nb, 0, none⟩ = some (.slice ia il ic) ∧ W'.cell? ⟨nb, 1, none⟩ = some (.slice ka kl kc) ∧ W'.cell? ⟨g, 1, none⟩ = some (.int .u64 (key.toNat : Int))) := fun W' b' => ⟨(RN6.out.below b').cell (j := 0) rfl, (RN6.out.below b').cell (j := 1) rfl, (W6.out.row.below b').cell (j := 1) rfl⟩
  have HWy : Hid _ := way_u w6.drew (fun b => w2.heap.size ≤ b) ia il ic (.slice ka kl kc) nd.1 nd.2 (Rep.below (HI6.out.rd (by have := HOk.out.few; omega)) (Below.refl _ _).drew) key
  rw [← hq] at HWy
  clear hq HKL RN6 HI6
  go_wp2_with fail
  refine wp_region_held_drew (S := (fun w' : World => w'.cell? ⟨nb, 0, none⟩ = some (.slice ia il ic) ∧ w'.cell? ⟨nb, 1, none⟩ = some (.slice ka kl kc) ∧ w'.cell? ⟨g, 1, none⟩ = some (.int .u64 (key.toNat : Int)))) (by kernel_rfl) (HSee5.out _ (Below.refl _ _).drew) (fun hH => ?_)
  refine tkM 0 _ rfl rfl ?_; simp only [sz, ss]
  refine tkM 1 _ rfl rfl ?_; simp only [sz, ss]
  refine tkM 2 _ rfl rfl ?_; simp only [sz, ss]
  refine tkM 3 _ rfl rfl ?_; simp only [sz, ss]
  refine tkM 4 _ rfl rfl ?_; simp only [sz, ss]
  refine r1L 5 rfl fun K hK => ?_
  · go_simp
    go_at_call 49
    refine Calls.mono HWy.out ?_
    rintro e w7 ⟨rfl, hb7⟩
    have b7 : Below w6.heap.size w6 w7 := q1Q hb7
    have hS7 := HSee5.out _ b7
    have HB7 : Hid _ := b7
    clear b7 hb7
    go_simp
    refine hK.out _ _ (by exact hS7) fun hH => ?_; clear hK K
    refine tkM 6 _ rfl rfl ?_; simp only [sz, ss]
    refine wpAnyH_done (by kernel_rfl) ?_ _
    clear hH hS7
    have V7 : Hid _ := V6.out.below HB7.out
    have R7 : Hid _ := R6.out.below HB7.out
    have W7 : Hid _ := W6.out.below HB7.out
    have B7 : Hid _ := on HB0.out HB7.out
    have HK7 : Hid (OwnB 133 w7 w2.heap.size (.slice da dn dc) (Tr.contOf nd fr).2) := HC6.out.kids.below HB7.out
    obtain ⟨kb, off, rfl, -, hkb, hat⟩ := q2j (HK7.out.rd (by have := HDN.out; have := HDN4.out; omega)) (by have := HQL.out; omega)
    have hkx : (Tr.contOf nd fr).2[q]'(by have := HDN.out; have := HQL.out; omega) = kid := by
     rw [← HKid.out, ← HQ.out]
     rw [List.getD_eq_getElem?_getD, zw3 (by have := HDN.out; have := HQL.out; omega)]
     rfl
    obtain ⟨c0, c1⟩ := hat q (by have := HDN.out; have := HQL.out; omega)
    rw [hkx] at c0 c1
    obtain ⟨y0, y1⟩ := V7.out.two
    have hq0 : (0 : Int) ≤ (q : Int) := Int.natCast_nonneg _
    have hq1 : (q : Int) < (dn : Int) := by have := HQL.out; omega
    have hq4 : q ≤ 4 := by have := HQL.out; have := HDN4.out; omega
    have hd4 : dn ≤ 4 := HDN4.out.2
    obtain ⟨q1, hq1e⟩ : ∃ q1, q1 = q + 1 := ⟨_, rfl⟩
    have HQ1 : Hid (q1 = q + 1) := hq1e
    have hwq : IntKind.i64.wrap ((q : Int) + 1) = (q1 : Int) := by rw [IntKind.wrap_i64]; omega
    clear hq1e hat hkx V6 R6 W6 HC6 HSee5 HWy
    go_wp2_with fail
    go_at_call 68
    refine Calls.mono (HRec.out w7 B7.out) ?_
    rintro e w8 hd
    obtain ⟨na, nn, nc, ma, mn, mc, v8, rfl, hC8, hW8, t8⟩ := hd.2 s1 now rfl
    have tk8 : TK [107, 53] w7 w8 := TK.turn W7.out t8.turn
    obtain ⟨w9, hw9, V9r, b9, z9⟩ := q0q w8 111 [.slice na nn nc, .slice ma mn mc]
    have HZ9 : Hid (w4.heap.size < w8.heap.size ∧ w1.heap.size < w4.heap.size) := ⟨by have := V7.out.lt; have := t8.turn.size; omega, by have := HZ.out; have := HZ2.out; have := HZ5.out.1; omega⟩
    have HKB : Hid (kb < w8.heap.size) := by have := t8.turn.size; unfold Hid; omega
    have V9 : Hid _ := (V7.out.tk tk8 (by decide)).below b9
    have R9 : Hid _ := (R7.out.tk tk8 (by decide)).below b9
    have N9 : Hid _ := V9r
    have HK9 : Hid _ := (HK7.out.tk tk8 (by decide)).below b9
    have HC9 : Hid _ := (hC8.mono B7.out.size).below b9
    have W9 : Hid (Wr w9 g base v8 s1 (.int .u64 (key.toNat : Int)) (.func (.func f) #[] bs)) := hW8.below b9
    have HT9 : Hid (WTurn g (.slice pa s.length pc) w v8 w9) := ((WTurn.of B7.out).trans t8).trans (WTurn.of b9)
    have HNN : Hid (nn = now.1.length ∧ mn = now.2.length) := ⟨by obtain ⟨x, y, e, -⟩ := hC8.items.slice; simp only [Value.slice.injEq] at e; exact e.2.1, by obtain ⟨x, y, e, -⟩ := hC8.kids.slice; simp only [Value.slice.injEq] at e; exact e.2.1⟩
    have hnm : nn + mn ≤ 6 := by have h := HFew.out; unfold Tr.csize at h; have := HNN.out; omega
    clear hd hC8 hW8 t8 tk8 V9r b9 z9 V7 R7 W7 HK7 y0 y1 c0 c1 hkb hq1
    obtain ⟨y0, y1⟩ := N9.out.two
    go_wp2_with fail
    go_at_call 81
    refine (csize_u _ _ _ _ _ _ _ (by omega) (by omega)).mono ?_
    rintro e wA ⟨rfl, bA⟩
    have VA : Hid _ := V9.out.below bA
    have RA : Hid _ := R9.out.below bA
    have NA : Hid _ := N9.out.below bA
    have HKA : Hid _ := HK9.out.below bA
    have HCA : Hid _ := HC9.out.below bA
    have WA : Hid _ := W9.out.below bA
    have HTA : Hid (WTurn g (.slice pa s.length pc) w v8 wA) := HT9.out.trans (WTurn.of bA)
    have HBA : Hid _ := bA
    clear y0 y1 bA V9 R9 N9 HK9 HC9 W9 HT9 hw9
    have hqI : q = I + 1 := by rw [HQ.out]; exact HI0.out
    have hqp : (q : Int) > 0 := by omega
    have hwi : IntKind.i64.wrap ((q : Int) - 1) = (I : Int) := by rw [IntKind.wrap_i64]; omega
    have hI0 : (0 : Int) ≤ (I : Int) := Int.natCast_nonneg _
    have hIl : (I : Int) < (dn : Int) := by have := HQL.out; omega
    have HIl : Hid (I < dn) := by have := HQL.out; unfold Hid; omega
    have HIJ : Hid (I < q1 ∧ q1 ≤ dn) := ⟨by have := HQ1.out; omega, by have := HQ1.out; have := HQL.out; omega⟩
    have HE : Hid (q1 = I + 2) := by have := HQ1.out; unfold Hid; omega
    have hz : ¬ ((nn : Int) + (mn : Int) ≥ 2) := by have h := HSm.out; unfold Tr.csize at h; have := HNN.out; omega
    obtain ⟨kb', off', he, -, -, hat⟩ := q2j (HKA.out.rd (by have := HDN.out; have := HDN4.out; omega)) (by have := HQL.out; omega)
    simp only [Option.some.injEq, Addr.mk.injEq] at he
    obtain ⟨rfl, rfl, -⟩ := he
    have hsx : (Tr.contOf nd fr).2[I]'(by have := HDN.out; have := HIl.out; omega) = sib := by
     rw [← HSib.out]
     rw [List.getD_eq_getElem?_getD, zw3 (by have := HDN.out; have := HIl.out; omega)]
     rfl
    obtain ⟨c0, c1⟩ := hat I (by have := HDN.out; have := HIl.out; omega)
    rw [hsx] at c0 c1
    have HPS : Hid (1 ≤ sib.2 ∧ sib.2 ≤ 2049) := by have h := Tr.contOf_pages fr HOk.out _ (List.getElem_mem (show I < (Tr.contOf nd fr).2.length by have := HDN.out; have := HIl.out; omega)); rw [hsx] at h; exact h
    have HKBA : Hid (kb < wA.heap.size) := by have h1 := HKB.out; have h2 := NA.out.lt; unfold Hid; omega
    have HSeeJ : Hid (∀ W', Below wA.heap.size wA W' → W'.cell? ⟨w4.heap.size, 1, none⟩ = some (.slice (some ⟨kb, off, none⟩) dn dc) ∧ W'.cell? ⟨kb, off + I * 2, none⟩ = some (.int .u64 (sib.1.toNat : Int)) ∧ W'.cell? ⟨kb, off + I * 2 + 1, none⟩ = some (.int .i64 sib.2)) := fun W' b' => ⟨(VA.out.below b').cell (j := 1) rfl, (Turn.of (S := []) b').cell c0 HKBA.out (by simp), (Turn.of (S := []) b').cell c1 HKBA.out (by simp)⟩
    obtain ⟨y0, y1⟩ := NA.out.two
    clear hat hsx
    go_wp2_with fail
    refine wp_region_held_drew (S := (fun w' : World => w'.cell? ⟨w4.heap.size, 1, none⟩ = some (.slice (some ⟨kb, off, none⟩) dn dc) ∧ w'.cell? ⟨kb, off + I * 2, none⟩ = some (.int .u64 (sib.1.toNat : Int)) ∧ w'.cell? ⟨kb, off + I * 2 + 1, none⟩ = some (.int .i64 sib.2))) (by kernel_rfl) (HSeeJ.out _ (Below.refl _ _).drew) (fun hH => ?_)
    refine tkM 0 _ rfl rfl ?_; simp only [sz, ss]
    refine tkM 1 _ rfl rfl ?_; simp only [sz, ss]
    refine tkM 2 _ rfl rfl ?_; simp only [sz, ss]
    refine tkM 3 _ rfl rfl ?_; simp only [sz, ss]
    refine tkM 4 _ rfl rfl ?_; simp only [sz, ss]
    refine tkM 5 _ rfl rfl ?_; simp only [sz, ss]
    refine rdL [6, 7] ?_
    refine rcL (fun K hK => ?_) ?_
    · go_simp
      go_at_call 83
      refine Calls.mono (read_u wA.drew g base v8 s1 (.int .u64 (key.toNat : Int)) (.func (.func f) #[] bs) (WA.out.below (Below.refl _ _).drew) sib.1 sib.2 (by have := HPS.out; omega) (by have := HPS.out; omega)) ?_
      rintro e wD ⟨bD', -, hok⟩
      obtain ⟨ea, en, ec, fa, fn, fc, rfl, hCD⟩ := hok n2 HN2.out
      have HBD : Hid (Below wA.heap.size wA wD) := q1Q bD'
      have HCD : Hid (IsCnt wD w.heap.size (.slice ea en ec) (.slice fa fn fc) (Tr.contOf n2 sib.1)) := hCD.mono HTA.out.turn.size
      have HCN : Hid _ := HCA.out.below HBD.out
      have HEN : Hid (en ≤ 4 ∧ fn ≤ 4) := by
       have h := (Tr.contOf_size sib.1 HOk2.out).2
       unfold Tr.csize at h
       obtain ⟨x, y, e1, -⟩ := hCD.items.slice
       obtain ⟨x', y', e2, -⟩ := hCD.kids.slice
       simp only [Value.slice.injEq] at e1 e2
       unfold Hid
       omega
      have hSD := HSeeJ.out _ HBD.out
      have ND : Hid _ := NA.out.below HBD.out
      clear bD' hok hCD
      obtain ⟨z0, z1⟩ := ND.out.two
      go_simp
      refine hK.out _ _ (by exact hSD) fun hH => ?_; clear hK K
      refine r1L 7 rfl fun K hK => ?_
      · go_simp
        refine hK.out _ _ (by exact HSeeJ.out _ HBD.out) fun hH => ?_; clear hK K
        refine r1L 8 rfl fun K hK => ?_
        · go_simp
          go_at_call 82
          refine Calls.mono (qMZ wD (fun b => w.heap.size ≤ b) ea fa na ma en ec fn fc nn nc mn mc (Tr.contOf n2 sib.1).1 now.1 (Tr.contOf n2 sib.1).2 now.2 (HCD.out.items.rd (by have h := (Tr.contOf_size sib.1 HOk2.out).2; unfold Tr.csize at h; omega)) (HCD.out.kids.rd (by have h := (Tr.contOf_size sib.1 HOk2.out).2; unfold Tr.csize at h; omega)) (HCN.out.items.rd (by have h := HFew.out; unfold Tr.csize at h; omega)) (HCN.out.kids.rd (by have h := HFew.out; unfold Tr.csize at h; omega)) (by have := HEN.out; omega) (by have := HEN.out; omega) (by omega) (by omega)) ?_
          rintro e wE ⟨ja, jn, jc, la, ln, lc, rfl, hCE, bE⟩
          have HBE : Hid _ := on HBD.out bE
          have HCE : Hid (IsCnt wE w.heap.size (.slice ja jn jc) (.slice la ln lc) (Tr.joined (Tr.contOf n2 sib.1) now)) := hCE.mono (by have h1 := HTA.out.turn.size; have h2 := HBD.out.size; omega)
          have hSE := HSeeJ.out _ HBE.out
          have NE : Hid _ := NA.out.below HBE.out
          have HSF : Hid (∀ u u', ((wE.setCell ⟨w8.heap.size, 0, none⟩ u).setCell ⟨w8.heap.size, 1, none⟩ u').cell? ⟨w4.heap.size, 1, none⟩ = some (.slice (some ⟨kb, off, none⟩) dn dc) ∧ ((wE.setCell ⟨w8.heap.size, 0, none⟩ u).setCell ⟨w8.heap.size, 1, none⟩ u').cell? ⟨kb, off + I * 2, none⟩ = some (.int .u64 (sib.1.toNat : Int)) ∧ ((wE.setCell ⟨w8.heap.size, 0, none⟩ u).setCell ⟨w8.heap.size, 1, none⟩ u').cell? ⟨kb, off + I * 2 + 1, none⟩ = some (.int .i64 sib.2)) := fun u u' => by
           have s1' := HSeeJ.out _ HBE.out
           have k1 : Kept (· ≠ w8.heap.size) wE ((wE.setCell ⟨w8.heap.size, 0, none⟩ u).setCell ⟨w8.heap.size, 1, none⟩ u') := ((Kept.refl _ wE).setCell (p := ⟨w8.heap.size, 0, none⟩) (fun h => h rfl) u).setCell (p := ⟨w8.heap.size, 1, none⟩) (fun h => h rfl) u'
           have n1 : kb ≠ w8.heap.size := by have := HKB.out; omega
           have n2 : w4.heap.size ≠ w8.heap.size := by have := HZ9.out; omega
           exact ⟨k1.cell (p := ⟨w4.heap.size, 1, none⟩) n2 s1'.1, k1.cell (p := ⟨kb, _, none⟩) n1 s1'.2.1, k1.cell (p := ⟨kb, _, none⟩) n1 s1'.2.2⟩
          obtain ⟨g0, g1⟩ := NE.out.two
          have g2 := NE.out.frozen 0
          have g3 := NE.out.frozen 1
          clear hCE bE
          go_simp
          refine hK.out _ _ (by exact hSE) fun hH => ?_; clear hK K
          refine r1L 9 rfl fun K hK => ?_
          · go_simp
            refine hK.out _ _ (by exact HSF.out _ _) fun hH => ?_; clear hK K
            refine wpAnyH_done (by kernel_rfl) ?_ _
            clear hH g0 g1 g2 g3
            obtain ⟨wF, hwF, VnF, KF⟩ := NE.out.whole2 (.slice ja jn jc) (.slice la ln lc)
            rw [hwF]
            have tkF : TK [111] wE wF := TK.box NE.out KF
            have NF : Hid _ := VnF
            have VF : Hid (Row wF w4.heap.size 111 [.slice ca cn cc, .slice (some ⟨kb, off, none⟩) dn dc]) := (VA.out.below HBE.out).keep (KF.block _ (by have := HZ9.out; show w4.heap.size ≠ w8.heap.size; omega))
            have RF : Hid (Row wF w1.heap.size 111 [.slice none 0 0, .slice none 0 0]) := (RA.out.below HBE.out).keep (KF.block _ (by have := HZ9.out; show w1.heap.size ≠ w8.heap.size; omega))
            have HKF : Hid _ := (HKA.out.below HBE.out).tk tkF (by decide)
            have HCF : Hid (IsCnt wF w.heap.size (.slice ja jn jc) (.slice la ln lc) (Tr.joined (Tr.contOf n2 sib.1) now)) := HCE.out.tk tkF (by decide) (by decide)
            have WF : Hid (Wr wF g base v8 s1 (.int .u64 (key.toNat : Int)) (.func (.func f) #[] bs)) := (WA.out.below HBE.out).tk tkF (by decide) (by decide) (by decide)
            have HTF : Hid (WTurn g (.slice pa s.length pc) w v8 wF) := (HTA.out.trans (WTurn.of HBE.out)).low (Kept.belowOf (Below.refl _ _) KF (by have := HZ9.out; have := HZ.out; omega))
            have HLF : Hid (jn = (Tr.joined (Tr.contOf n2 sib.1) now).1.length ∧ ln = (Tr.joined (Tr.contOf n2 sib.1) now).2.length) := ⟨by obtain ⟨x, y, e, -⟩ := HCE.out.items.slice; simp only [Value.slice.injEq] at e; exact e.2.1, by obtain ⟨x, y, e, -⟩ := HCE.out.kids.slice; simp only [Value.slice.injEq] at e; exact e.2.1⟩
            have HSz : Hid (Tr.csize (Tr.joined (Tr.contOf n2 sib.1) now) ≤ 6) := by
             have h1 := (Tr.contOf_size sib.1 HOk2.out).2
             have h2 := HSm.out
             unfold Tr.csize at h1 h2
             unfold Hid Tr.csize Tr.joined
             simp only [zw2]
             omega
            have HSz1 : Hid (1 ≤ Tr.csize (Tr.joined (Tr.contOf n2 sib.1) now)) := by
             have h1 := (Tr.contOf_size sib.1 HOk2.out).1
             unfold Tr.csize at h1
             unfold Hid Tr.csize Tr.joined
             simp only [zw2]
             omega
            have HPg : Hid (Tr.PagesIn (Tr.joined (Tr.contOf n2 sib.1) now).2) := fun b hb => by
             rcases List.mem_append.1 hb with hb | hb
             · exact Tr.contOf_pages _ HOk2.out b hb
             · exact HPn.out b hb
            clear HSeeJ HBE HCE NE HSF ND HCD HCN VnF KF tkF hwF c0 c1 y0 y1 hSD hSE z0 z1 HBD VA RA NA HKA HCA WA HTA
            have HSeeT : Hid (∀ W', Turn (WS g v8) wF W' → W'.cell? ⟨w4.heap.size, 1, none⟩ = some (.slice (some ⟨kb, off, none⟩) dn dc) ∧ W'.cell? ⟨w8.heap.size, 0, none⟩ = some (.slice ja jn jc) ∧ W'.cell? ⟨w8.heap.size, 1, none⟩ = some (.slice la ln lc)) := fun W' t' => by
             have tk := TK.turn WF.out t'
             exact ⟨(VF.out.tk tk (by decide)).cell (j := 1) rfl, (NF.out.tk tk (by decide)).cell (j := 0) rfl, (NF.out.tk tk (by decide)).cell (j := 1) rfl⟩
            go_wp2_with fail
            refine wp_region_held_drew (S := (fun w' : World => w'.cell? ⟨w4.heap.size, 1, none⟩ = some (.slice (some ⟨kb, off, none⟩) dn dc) ∧ w'.cell? ⟨w8.heap.size, 0, none⟩ = some (.slice ja jn jc) ∧ w'.cell? ⟨w8.heap.size, 1, none⟩ = some (.slice la ln lc))) (by kernel_rfl) (HSeeT.out _ (Turn.of (Below.refl _ _).drew)) (fun hH => ?_)
            refine tkM 0 _ rfl rfl ?_; simp only [sz, ss]
            refine tkM 1 _ rfl rfl ?_; simp only [sz, ss]
            refine tkM 2 _ rfl rfl ?_; simp only [sz, ss]
            refine tkM 3 _ rfl rfl ?_; simp only [sz, ss]
            refine tkM 4 _ rfl rfl ?_; simp only [sz, ss]
            refine tkM 5 _ rfl rfl ?_; simp only [sz, ss]
            refine r1L 6 rfl fun K hK => ?_
            · go_simp
              go_at_call 67
              refine Calls.mono (lay_u wF.drew g base v8 s1 (.int .u64 (key.toNat : Int)) (.func (.func f) #[] bs) (WF.out.below (Below.refl _ _).drew) _ ja la jn jc ln lc (Tr.joined (Tr.contOf n2 sib.1) now).1 (Tr.joined (Tr.contOf n2 sib.1) now).2 (HCF.out.below (Below.refl _ _).drew |>.rd (by have := HSz.out; unfold Tr.csize at this; omega) (by have := HSz.out; unfold Tr.csize at this; omega)).1 (HCF.out.below (Below.refl _ _).drew |>.rd (by have := HSz.out; unfold Tr.csize at this; omega) (by have := HSz.out; unfold Tr.csize at this; omega)).2 ((HCF.out.below (Below.refl _ _).drew).apartW (WF.out.below (Below.refl _ _).drew)) (by have := HLF.out; have := HSz.out; unfold Tr.csize at this; omega) (by have := HLF.out; have := HSz.out; unfold Tr.csize at this; omega) (fun b hb => by have := HPg.out b hb; omega)) ?_
              rintro e wY hd
              rcases hy : Tr.lay s1 ((Tr.joined (Tr.contOf n2 sib.1) now).1, (Tr.joined (Tr.contOf n2 sib.1) now).2) with x | ⟨s2, lb⟩
              · obtain ⟨rfl, tY⟩ := hd.1 x hy
                refine ⟨rfl, ChgDone.no (Tr.layR_error (show Tr.lay s1 (Tr.joined (Tr.contOf n2 sib.1) now) = .error x from hy) _ _ _) (WTurn.trans HTF.out (v2 := v8) ⟨Turn.trans (Turn.of (Below.refl _ _).drew) tY, fun b e => .inl e⟩).turn⟩
              obtain ⟨oa, om, oc, vY, rfl, ho, hWY, tY, -⟩ := hd.2 s2 lb hy
              have HLy : Hid (Tr.lay s1 (Tr.joined (Tr.contOf n2 sib.1) now) = .ok (s2, lb)) := hy
              have t0 : Turn (WS g v8) wF wY := Turn.trans (Turn.of (Below.refl _ _).drew) tY.turn
              have hSY := HSeeT.out _ t0
              have tkY : TK [107, 53] wF wY := TK.turn WF.out t0
              have HLB : Hid (om = lb.length) := by obtain ⟨x, y, e, -⟩ := ho.slice; simp only [Value.slice.injEq] at e; exact e.2.1
              have HLB2 : Hid (1 ≤ lb.length ∧ lb.length ≤ 6) := by have h := (Tr.lay_some WF.out.few hy).1; have h1 := HSz.out; have h2 := HSz1.out; unfold Tr.csize at h1 h2; unfold Hid; simp only at h; omega
              have VY : Hid _ := VF.out.tk tkY (by decide)
              have RY : Hid _ := RF.out.tk tkY (by decide)
              have NY : Hid _ := NF.out.tk tkY (by decide)
              have HKY : Hid _ := HKF.out.tk tkY (by decide)
              have WY : Hid _ := hWY
              have HTY : Hid (WTurn g (.slice pa s.length pc) w vY wY) := HTF.out.trans ⟨t0, tY.place⟩
              have HSY : Hid (w2.heap.size ≤ wY.heap.size) := by have h1 := VY.out.lt; have h2 := HZ5.out.1; unfold Hid; omega
              have HOY : Hid _ := ho
              obtain ⟨vb, vo, rfl, hvP, hvl, -⟩ := q2j (HOY.out.rd (by have := HLB2.out; omega)) (by have := HLB.out; have := HLB2.out; omega)
              have HVB : Hid ((Value.slice (some ⟨kb, off, none⟩) dn dc).ownBlock ≠ some vb) := fun e => by have h := (HKF.out.row.lt vb e).2; have h2 : wF.heap.size ≤ vb := hvP; omega
              clear hd hy ho hWY tY t0 tkY hvP hvl
              go_simp
              refine hK.out _ _ (by exact hSY) fun hH => ?_; clear hK K
              refine r1L 7 rfl fun K hK => ?_
              · go_simp
                go_at_call 84
                refine Calls.mono (qDx wY w2.heap.size _ dn dc I q1 (Tr.contOf nd fr).2 HKY.out _ vb vo om oc lb (HOY.out.rd (by have := HLB2.out; omega)) HVB.out (by have := HLB.out; have := HLB2.out; omega) HIJ.out.1 HIJ.out.2 (by have := HDN4.out; omega) (by have := HLB.out; have := HLB2.out; omega) HSY.out) ?_
                rintro e wR ⟨ra, rn, rc, rfl, hoR, gr⟩
                have tkR : TK [133] wY wR := TK.grewB HKY.out gr
                have bR : Below w2.heap.size wY wR := HKY.out.base_below HSY.out gr
                have VR : Hid _ := VY.out.tk tkR (by decide)
                have RR : Hid _ := RY.out.tk tkR (by decide)
                have NR : Hid _ := NY.out.tk tkR (by decide)
                have WR : Hid (Wr wR g base vY s2 (.int .u64 (key.toNat : Int)) (.func (.func f) #[] bs)) := WY.out.tk tkR (by decide) (by decide) (by decide)
                have HTR : Hid (WTurn g (.slice pa s.length pc) w vY wR) := HTY.out.low (bR.mono B2.out.size)
                have HOR : Hid (OwnB 133 wR w.heap.size (.slice ra rn rc) (Tr.replaced (Tr.contOf nd fr).2 I q1 lb)) := hoR.mono B2.out.size
                have hSR : wR.cell? ⟨w4.heap.size, 1, none⟩ = some (.slice (some ⟨kb, off, none⟩) dn dc) ∧ wR.cell? ⟨w8.heap.size, 0, none⟩ = some (.slice ja jn jc) ∧ wR.cell? ⟨w8.heap.size, 1, none⟩ = some (.slice la ln lc) := ⟨VR.out.cell (j := 1) rfl, NR.out.cell (j := 0) rfl, NR.out.cell (j := 1) rfl⟩
                have HSR2 : Hid (∀ u u', ((wR.setCell ⟨w1.heap.size, 0, none⟩ u).setCell ⟨w1.heap.size, 1, none⟩ u').cell? ⟨w4.heap.size, 1, none⟩ = some (.slice (some ⟨kb, off, none⟩) dn dc) ∧ ((wR.setCell ⟨w1.heap.size, 0, none⟩ u).setCell ⟨w1.heap.size, 1, none⟩ u').cell? ⟨w8.heap.size, 0, none⟩ = some (.slice ja jn jc) ∧ ((wR.setCell ⟨w1.heap.size, 0, none⟩ u).setCell ⟨w1.heap.size, 1, none⟩ u').cell? ⟨w8.heap.size, 1, none⟩ = some (.slice la ln lc)) := fun u u' => by
                 obtain ⟨w8', hw8', V8', K8'⟩ := RR.out.whole2 u u'
                 rw [hw8']
                 have e1 := K8'.block w4.heap.size (by have := HZ9.out; show w4.heap.size ≠ w1.heap.size; omega)
                 have e2 := K8'.block w8.heap.size (by have := HZ9.out; show w8.heap.size ≠ w1.heap.size; omega)
                 exact ⟨(VR.out.keep e1).cell (j := 1) rfl, (NR.out.keep e2).cell (j := 0) rfl, (NR.out.keep e2).cell (j := 1) rfl⟩
                obtain ⟨g0, g1⟩ := RR.out.two
                have g2 := RR.out.frozen 0
                have g3 := RR.out.frozen 1
                clear hoR gr tkR bR
                go_simp
                refine hK.out _ _ (by exact hSR) fun hH => ?_; clear hK K
                refine tkM 8 _ rfl rfl ?_; simp only [sz, ss]
                refine r1L 9 rfl fun K hK => ?_
                · go_simp
                  refine hK.out _ _ (by exact HSR2.out _ _) fun hH => ?_; clear hK K
                  refine wpAnyH_done (by kernel_rfl) ?_ _
                  clear hH
                  go_wp2
                  exact qDq RR.out _ _ rfl rfl Tryz.underlying111 rfl (by kernel_rfl) (fun w' k' => ChgDone.yes (by rw [← HE.out]; exact Tr.layR_ok HLy.out _ _ _) rfl ⟨OwnI.nil _ _ _, HOR.out.tk (TK.box RR.out k') (by decide)⟩ (WR.out.tk (TK.box RR.out k') (by decide) (by decide) (by decide)) (HTR.out.low (Kept.belowOf (Below.refl _ _) k' (by have := HZ.out; omega))))
    refine rcL (fun K hK => ?_) ?_
    · go_simp
      refine hK.out _ _ (by exact HSeeJ.out _ (Below.refl _ _).drew) fun hH => ?_; clear hK K
      refine r1L 6 rfl fun K hK => ?_
      · go_simp
        go_at_call 83
        refine Calls.mono (read_u wA.drew g base v8 s1 (.int .u64 (key.toNat : Int)) (.func (.func f) #[] bs) (WA.out.below (Below.refl _ _).drew) sib.1 sib.2 (by have := HPS.out; omega) (by have := HPS.out; omega)) ?_
        rintro e wD ⟨bD', -, hok⟩
        obtain ⟨ea, en, ec, fa, fn, fc, rfl, hCD⟩ := hok n2 HN2.out
        have HBD : Hid (Below wA.heap.size wA wD) := q1Q bD'
        have HCD : Hid (IsCnt wD w.heap.size (.slice ea en ec) (.slice fa fn fc) (Tr.contOf n2 sib.1)) := hCD.mono HTA.out.turn.size
        have HCN : Hid _ := HCA.out.below HBD.out
        have HEN : Hid (en ≤ 4 ∧ fn ≤ 4) := by
         have h := (Tr.contOf_size sib.1 HOk2.out).2
         unfold Tr.csize at h
         obtain ⟨x, y, e1, -⟩ := hCD.items.slice
         obtain ⟨x', y', e2, -⟩ := hCD.kids.slice
         simp only [Value.slice.injEq] at e1 e2
         unfold Hid
         omega
        have hSD := HSeeJ.out _ HBD.out
        have ND : Hid _ := NA.out.below HBD.out
        clear bD' hok hCD
        obtain ⟨z0, z1⟩ := ND.out.two
        go_simp
        refine hK.out _ _ (by exact hSD) fun hH => ?_; clear hK K
        refine r1L 8 rfl fun K hK => ?_
        · go_simp
          go_at_call 82
          refine Calls.mono (qMZ wD (fun b => w.heap.size ≤ b) ea fa na ma en ec fn fc nn nc mn mc (Tr.contOf n2 sib.1).1 now.1 (Tr.contOf n2 sib.1).2 now.2 (HCD.out.items.rd (by have h := (Tr.contOf_size sib.1 HOk2.out).2; unfold Tr.csize at h; omega)) (HCD.out.kids.rd (by have h := (Tr.contOf_size sib.1 HOk2.out).2; unfold Tr.csize at h; omega)) (HCN.out.items.rd (by have h := HFew.out; unfold Tr.csize at h; omega)) (HCN.out.kids.rd (by have h := HFew.out; unfold Tr.csize at h; omega)) (by have := HEN.out; omega) (by have := HEN.out; omega) (by omega) (by omega)) ?_
          rintro e wE ⟨ja, jn, jc, la, ln, lc, rfl, hCE, bE⟩
          have HBE : Hid _ := on HBD.out bE
          have HCE : Hid (IsCnt wE w.heap.size (.slice ja jn jc) (.slice la ln lc) (Tr.joined (Tr.contOf n2 sib.1) now)) := hCE.mono (by have h1 := HTA.out.turn.size; have h2 := HBD.out.size; omega)
          have hSE := HSeeJ.out _ HBE.out
          have NE : Hid _ := NA.out.below HBE.out
          have HSF : Hid (∀ u u', ((wE.setCell ⟨w8.heap.size, 0, none⟩ u).setCell ⟨w8.heap.size, 1, none⟩ u').cell? ⟨w4.heap.size, 1, none⟩ = some (.slice (some ⟨kb, off, none⟩) dn dc) ∧ ((wE.setCell ⟨w8.heap.size, 0, none⟩ u).setCell ⟨w8.heap.size, 1, none⟩ u').cell? ⟨kb, off + I * 2, none⟩ = some (.int .u64 (sib.1.toNat : Int)) ∧ ((wE.setCell ⟨w8.heap.size, 0, none⟩ u).setCell ⟨w8.heap.size, 1, none⟩ u').cell? ⟨kb, off + I * 2 + 1, none⟩ = some (.int .i64 sib.2)) := fun u u' => by
           have s1' := HSeeJ.out _ HBE.out
           have k1 : Kept (· ≠ w8.heap.size) wE ((wE.setCell ⟨w8.heap.size, 0, none⟩ u).setCell ⟨w8.heap.size, 1, none⟩ u') := ((Kept.refl _ wE).setCell (p := ⟨w8.heap.size, 0, none⟩) (fun h => h rfl) u).setCell (p := ⟨w8.heap.size, 1, none⟩) (fun h => h rfl) u'
           have n1 : kb ≠ w8.heap.size := by have := HKB.out; omega
           have n2 : w4.heap.size ≠ w8.heap.size := by have := HZ9.out; omega
           exact ⟨k1.cell (p := ⟨w4.heap.size, 1, none⟩) n2 s1'.1, k1.cell (p := ⟨kb, _, none⟩) n1 s1'.2.1, k1.cell (p := ⟨kb, _, none⟩) n1 s1'.2.2⟩
          obtain ⟨g0, g1⟩ := NE.out.two
          have g2 := NE.out.frozen 0
          have g3 := NE.out.frozen 1
          clear hCE bE
          go_simp
          refine hK.out _ _ (by exact hSE) fun hH => ?_; clear hK K
          refine r1L 9 rfl fun K hK => ?_
          · go_simp
            refine hK.out _ _ (by exact HSF.out _ _) fun hH => ?_; clear hK K
            refine wpAnyH_done (by kernel_rfl) ?_ _
            clear hH g0 g1 g2 g3
            obtain ⟨wF, hwF, VnF, KF⟩ := NE.out.whole2 (.slice ja jn jc) (.slice la ln lc)
            rw [hwF]
            have tkF : TK [111] wE wF := TK.box NE.out KF
            have NF : Hid _ := VnF
            have VF : Hid (Row wF w4.heap.size 111 [.slice ca cn cc, .slice (some ⟨kb, off, none⟩) dn dc]) := (VA.out.below HBE.out).keep (KF.block _ (by have := HZ9.out; show w4.heap.size ≠ w8.heap.size; omega))
            have RF : Hid (Row wF w1.heap.size 111 [.slice none 0 0, .slice none 0 0]) := (RA.out.below HBE.out).keep (KF.block _ (by have := HZ9.out; show w1.heap.size ≠ w8.heap.size; omega))
            have HKF : Hid _ := (HKA.out.below HBE.out).tk tkF (by decide)
            have HCF : Hid (IsCnt wF w.heap.size (.slice ja jn jc) (.slice la ln lc) (Tr.joined (Tr.contOf n2 sib.1) now)) := HCE.out.tk tkF (by decide) (by decide)
            have WF : Hid (Wr wF g base v8 s1 (.int .u64 (key.toNat : Int)) (.func (.func f) #[] bs)) := (WA.out.below HBE.out).tk tkF (by decide) (by decide) (by decide)
            have HTF : Hid (WTurn g (.slice pa s.length pc) w v8 wF) := (HTA.out.trans (WTurn.of HBE.out)).low (Kept.belowOf (Below.refl _ _) KF (by have := HZ9.out; have := HZ.out; omega))
            have HLF : Hid (jn = (Tr.joined (Tr.contOf n2 sib.1) now).1.length ∧ ln = (Tr.joined (Tr.contOf n2 sib.1) now).2.length) := ⟨by obtain ⟨x, y, e, -⟩ := HCE.out.items.slice; simp only [Value.slice.injEq] at e; exact e.2.1, by obtain ⟨x, y, e, -⟩ := HCE.out.kids.slice; simp only [Value.slice.injEq] at e; exact e.2.1⟩
            have HSz : Hid (Tr.csize (Tr.joined (Tr.contOf n2 sib.1) now) ≤ 6) := by
             have h1 := (Tr.contOf_size sib.1 HOk2.out).2
             have h2 := HSm.out
             unfold Tr.csize at h1 h2
             unfold Hid Tr.csize Tr.joined
             simp only [zw2]
             omega
            have HSz1 : Hid (1 ≤ Tr.csize (Tr.joined (Tr.contOf n2 sib.1) now)) := by
             have h1 := (Tr.contOf_size sib.1 HOk2.out).1
             unfold Tr.csize at h1
             unfold Hid Tr.csize Tr.joined
             simp only [zw2]
             omega
            have HPg : Hid (Tr.PagesIn (Tr.joined (Tr.contOf n2 sib.1) now).2) := fun b hb => by
             rcases List.mem_append.1 hb with hb | hb
             · exact Tr.contOf_pages _ HOk2.out b hb
             · exact HPn.out b hb
            clear HSeeJ HBE HCE NE HSF ND HCD HCN VnF KF tkF hwF c0 c1 y0 y1 hSD hSE z0 z1 HBD VA RA NA HKA HCA WA HTA
            have HSeeT : Hid (∀ W', Turn (WS g v8) wF W' → W'.cell? ⟨w4.heap.size, 1, none⟩ = some (.slice (some ⟨kb, off, none⟩) dn dc) ∧ W'.cell? ⟨w8.heap.size, 0, none⟩ = some (.slice ja jn jc) ∧ W'.cell? ⟨w8.heap.size, 1, none⟩ = some (.slice la ln lc)) := fun W' t' => by
             have tk := TK.turn WF.out t'
             exact ⟨(VF.out.tk tk (by decide)).cell (j := 1) rfl, (NF.out.tk tk (by decide)).cell (j := 0) rfl, (NF.out.tk tk (by decide)).cell (j := 1) rfl⟩
            go_wp2_with fail
            refine wp_region_held_drew (S := (fun w' : World => w'.cell? ⟨w4.heap.size, 1, none⟩ = some (.slice (some ⟨kb, off, none⟩) dn dc) ∧ w'.cell? ⟨w8.heap.size, 0, none⟩ = some (.slice ja jn jc) ∧ w'.cell? ⟨w8.heap.size, 1, none⟩ = some (.slice la ln lc))) (by kernel_rfl) (HSeeT.out _ (Turn.of (Below.refl _ _).drew)) (fun hH => ?_)
            refine tkM 0 _ rfl rfl ?_; simp only [sz, ss]
            refine tkM 1 _ rfl rfl ?_; simp only [sz, ss]
            refine tkM 2 _ rfl rfl ?_; simp only [sz, ss]
            refine tkM 3 _ rfl rfl ?_; simp only [sz, ss]
            refine tkM 4 _ rfl rfl ?_; simp only [sz, ss]
            refine tkM 5 _ rfl rfl ?_; simp only [sz, ss]
            refine r1L 6 rfl fun K hK => ?_
            · go_simp
              go_at_call 67
              refine Calls.mono (lay_u wF.drew g base v8 s1 (.int .u64 (key.toNat : Int)) (.func (.func f) #[] bs) (WF.out.below (Below.refl _ _).drew) _ ja la jn jc ln lc (Tr.joined (Tr.contOf n2 sib.1) now).1 (Tr.joined (Tr.contOf n2 sib.1) now).2 (HCF.out.below (Below.refl _ _).drew |>.rd (by have := HSz.out; unfold Tr.csize at this; omega) (by have := HSz.out; unfold Tr.csize at this; omega)).1 (HCF.out.below (Below.refl _ _).drew |>.rd (by have := HSz.out; unfold Tr.csize at this; omega) (by have := HSz.out; unfold Tr.csize at this; omega)).2 ((HCF.out.below (Below.refl _ _).drew).apartW (WF.out.below (Below.refl _ _).drew)) (by have := HLF.out; have := HSz.out; unfold Tr.csize at this; omega) (by have := HLF.out; have := HSz.out; unfold Tr.csize at this; omega) (fun b hb => by have := HPg.out b hb; omega)) ?_
              rintro e wY hd
              rcases hy : Tr.lay s1 ((Tr.joined (Tr.contOf n2 sib.1) now).1, (Tr.joined (Tr.contOf n2 sib.1) now).2) with x | ⟨s2, lb⟩
              · obtain ⟨rfl, tY⟩ := hd.1 x hy
                refine ⟨rfl, ChgDone.no (Tr.layR_error (show Tr.lay s1 (Tr.joined (Tr.contOf n2 sib.1) now) = .error x from hy) _ _ _) (WTurn.trans HTF.out (v2 := v8) ⟨Turn.trans (Turn.of (Below.refl _ _).drew) tY, fun b e => .inl e⟩).turn⟩
              obtain ⟨oa, om, oc, vY, rfl, ho, hWY, tY, -⟩ := hd.2 s2 lb hy
              have HLy : Hid (Tr.lay s1 (Tr.joined (Tr.contOf n2 sib.1) now) = .ok (s2, lb)) := hy
              have t0 : Turn (WS g v8) wF wY := Turn.trans (Turn.of (Below.refl _ _).drew) tY.turn
              have hSY := HSeeT.out _ t0
              have tkY : TK [107, 53] wF wY := TK.turn WF.out t0
              have HLB : Hid (om = lb.length) := by obtain ⟨x, y, e, -⟩ := ho.slice; simp only [Value.slice.injEq] at e; exact e.2.1
              have HLB2 : Hid (1 ≤ lb.length ∧ lb.length ≤ 6) := by have h := (Tr.lay_some WF.out.few hy).1; have h1 := HSz.out; have h2 := HSz1.out; unfold Tr.csize at h1 h2; unfold Hid; simp only at h; omega
              have VY : Hid _ := VF.out.tk tkY (by decide)
              have RY : Hid _ := RF.out.tk tkY (by decide)
              have NY : Hid _ := NF.out.tk tkY (by decide)
              have HKY : Hid _ := HKF.out.tk tkY (by decide)
              have WY : Hid _ := hWY
              have HTY : Hid (WTurn g (.slice pa s.length pc) w vY wY) := HTF.out.trans ⟨t0, tY.place⟩
              have HSY : Hid (w2.heap.size ≤ wY.heap.size) := by have h1 := VY.out.lt; have h2 := HZ5.out.1; unfold Hid; omega
              have HOY : Hid _ := ho
              obtain ⟨vb, vo, rfl, hvP, hvl, -⟩ := q2j (HOY.out.rd (by have := HLB2.out; omega)) (by have := HLB.out; have := HLB2.out; omega)
              have HVB : Hid ((Value.slice (some ⟨kb, off, none⟩) dn dc).ownBlock ≠ some vb) := fun e => by have h := (HKF.out.row.lt vb e).2; have h2 : wF.heap.size ≤ vb := hvP; omega
              clear hd hy ho hWY tY t0 tkY hvP hvl
              go_simp
              refine hK.out _ _ (by exact hSY) fun hH => ?_; clear hK K
              refine r1L 7 rfl fun K hK => ?_
              · go_simp
                go_at_call 84
                refine Calls.mono (qDx wY w2.heap.size _ dn dc I q1 (Tr.contOf nd fr).2 HKY.out _ vb vo om oc lb (HOY.out.rd (by have := HLB2.out; omega)) HVB.out (by have := HLB.out; have := HLB2.out; omega) HIJ.out.1 HIJ.out.2 (by have := HDN4.out; omega) (by have := HLB.out; have := HLB2.out; omega) HSY.out) ?_
                rintro e wR ⟨ra, rn, rc, rfl, hoR, gr⟩
                have tkR : TK [133] wY wR := TK.grewB HKY.out gr
                have bR : Below w2.heap.size wY wR := HKY.out.base_below HSY.out gr
                have VR : Hid _ := VY.out.tk tkR (by decide)
                have RR : Hid _ := RY.out.tk tkR (by decide)
                have NR : Hid _ := NY.out.tk tkR (by decide)
                have WR : Hid (Wr wR g base vY s2 (.int .u64 (key.toNat : Int)) (.func (.func f) #[] bs)) := WY.out.tk tkR (by decide) (by decide) (by decide)
                have HTR : Hid (WTurn g (.slice pa s.length pc) w vY wR) := HTY.out.low (bR.mono B2.out.size)
                have HOR : Hid (OwnB 133 wR w.heap.size (.slice ra rn rc) (Tr.replaced (Tr.contOf nd fr).2 I q1 lb)) := hoR.mono B2.out.size
                have hSR : wR.cell? ⟨w4.heap.size, 1, none⟩ = some (.slice (some ⟨kb, off, none⟩) dn dc) ∧ wR.cell? ⟨w8.heap.size, 0, none⟩ = some (.slice ja jn jc) ∧ wR.cell? ⟨w8.heap.size, 1, none⟩ = some (.slice la ln lc) := ⟨VR.out.cell (j := 1) rfl, NR.out.cell (j := 0) rfl, NR.out.cell (j := 1) rfl⟩
                have HSR2 : Hid (∀ u u', ((wR.setCell ⟨w1.heap.size, 0, none⟩ u).setCell ⟨w1.heap.size, 1, none⟩ u').cell? ⟨w4.heap.size, 1, none⟩ = some (.slice (some ⟨kb, off, none⟩) dn dc) ∧ ((wR.setCell ⟨w1.heap.size, 0, none⟩ u).setCell ⟨w1.heap.size, 1, none⟩ u').cell? ⟨w8.heap.size, 0, none⟩ = some (.slice ja jn jc) ∧ ((wR.setCell ⟨w1.heap.size, 0, none⟩ u).setCell ⟨w1.heap.size, 1, none⟩ u').cell? ⟨w8.heap.size, 1, none⟩ = some (.slice la ln lc)) := fun u u' => by
                 obtain ⟨w8', hw8', V8', K8'⟩ := RR.out.whole2 u u'
                 rw [hw8']
                 have e1 := K8'.block w4.heap.size (by have := HZ9.out; show w4.heap.size ≠ w1.heap.size; omega)
                 have e2 := K8'.block w8.heap.size (by have := HZ9.out; show w8.heap.size ≠ w1.heap.size; omega)
                 exact ⟨(VR.out.keep e1).cell (j := 1) rfl, (NR.out.keep e2).cell (j := 0) rfl, (NR.out.keep e2).cell (j := 1) rfl⟩
                obtain ⟨g0, g1⟩ := RR.out.two
                have g2 := RR.out.frozen 0
                have g3 := RR.out.frozen 1
                clear hoR gr tkR bR
                go_simp
                refine hK.out _ _ (by exact hSR) fun hH => ?_; clear hK K
                refine tkM 8 _ rfl rfl ?_; simp only [sz, ss]
                refine r1L 9 rfl fun K hK => ?_
                · go_simp
                  refine hK.out _ _ (by exact HSR2.out _ _) fun hH => ?_; clear hK K
                  refine wpAnyH_done (by kernel_rfl) ?_ _
                  clear hH
                  go_wp2
                  exact qDq RR.out _ _ rfl rfl Tryz.underlying111 rfl (by kernel_rfl) (fun w' k' => ChgDone.yes (by rw [← HE.out]; exact Tr.layR_ok HLy.out _ _ _) rfl ⟨OwnI.nil _ _ _, HOR.out.tk (TK.box RR.out k') (by decide)⟩ (WR.out.tk (TK.box RR.out k') (by decide) (by decide) (by decide)) (HTR.out.low (Kept.belowOf (Below.refl _ _) k' (by have := HZ.out; omega))))
    exact rnL
theorem chg_right {T : List Itm → List Itm} {key : UInt64} {f : Nat} {bs : Array Value} {B : Nat} {J : World → Prop} (hT : qEz T f bs B J) (w : World) (g base : Nat) (v : Value) (s : Pgs) (hW : Wr w g base v s (.int .u64 (key.toNat : Int)) (.func (.func f) #[] bs)) (hJ : J w) (hB : B ≤ g ∧ B ≤ base) (fr : UInt64) (p : Int) (hp1 : 1 ≤ p) (hp2 : p ≤ 2049) (nd : Nod) (hnd : Tr.nodeE s p = .ok nd) (s1 : Pgs) (now : Cnt) (hk : nd.2 ≠ []) (kid : Brn) (hkid : (Tr.contOf nd fr).2.getD (Lf.way nd key) (0, 0) = kid) (hrec : ∀ W, Below w.heap.size w W → Calls Tryz.prog 68 #[.pointer (some ⟨g, 0, none⟩), .agg #[.int .u64 (kid.1.toNat : Int), .int .i64 kid.2]] W fun e w' => ChgDone (.ok (s1, now)) g base v (.int .u64 (key.toNat : Int)) (.func (.func f) #[] bs) W e w') (hfew : Tr.csize now ≤ 6) (hpn : Tr.PagesIn now.2) (h2 : ¬ 2 ≤ Tr.csize now) (hI : Lf.way nd key = 0) (sib : Brn) (hsib : (Tr.contOf nd fr).2.getD 1 (0, 0) = sib) (n2 : Nod) (hn2 : Tr.nodeE s1 sib.2 = .ok n2) :
 Calls Tryz.prog 68 #[.pointer (some ⟨g, 0, none⟩), .agg #[.int .u64 (fr.toNat : Int), .int .i64 p]] w fun e w' => ChgDone (Tr.layR s1 (Tr.joined now (Tr.contOf n2 sib.1)) (Tr.contOf nd fr).2 (0) (2)) g base v (.int .u64 (key.toNat : Int)) (.func (.func f) #[] bs) w e w' := by
 have HKn : Hid (nd.2 ≠ []) := hk
 have HKid : Hid _ := hkid
 have HRec : Hid _ := hrec
 have HFew : Hid (Tr.csize now ≤ 6) := hfew
 have HPn : Hid (Tr.PagesIn now.2) := hpn
 clear hk hkid hrec hfew hpn
 have HSm : Hid (¬ 2 ≤ Tr.csize now) := h2
 have HI0 : Hid _ := hI
 have HSib : Hid _ := hsib
 have HN2 : Hid (Tr.nodeE s1 sib.2 = .ok n2) := hn2
 have HOk2 : Hid (Lf.Ok n2) := Tr.nodeE_ok hn2
 clear h2 hI hsib hn2
 obtain ⟨pa, pc, rfl, hpl, hpn⟩ := hW.pgs.slice
 obtain ⟨w1, hw1, V1, b1, z1⟩ := q0q w 133 [.int .u64 (fr.toNat : Int), .int .i64 p]
 obtain ⟨w2, hw2, V2r, b2, z2⟩ := q0q w1 111 [.slice none 0 0, .slice none 0 0]
 have HT : Hid _ := hT
 have B2 : Hid (Below w.heap.size w w2) := on b1 b2
 have V2 : Hid _ := V2r
 have V1b : Hid _ := V1.below b2
 have W2 : Hid (Wr w2 g base (.slice pa s.length pc) s (.int .u64 (key.toNat : Int)) (.func (.func f) #[] bs)) := hW.below B2.out
 have HW0 : Hid _ := hW
 have HZ : Hid (w1.heap.size = w.heap.size + 1) := z1
 have HZ2 : Hid (w2.heap.size = w.heap.size + 2) := by unfold Hid; omega
 have HOk : Hid (Lf.Ok nd) := Tr.nodeE_ok hnd
 have HNd : Hid (Tr.nodeE s p = .ok nd) := hnd
 have HJ0 : Hid (J w) := hJ
 have HB : Hid (B ≤ g ∧ B ≤ base) := hB
 have HGw : Hid (g < w.heap.size) := hW.row.lt
 have HSee : Hid (∀ W', Below w2.heap.size w2 W' → W'.cell? ⟨g, 0, none⟩ = some (.slice pa s.length pc) ∧ W'.cell? ⟨w.heap.size, 1, none⟩ = some (.int .i64 p)) := by
  intro W' b'
  exact ⟨(W2.out.row.below b').cell (j := 0) rfl, (V1b.out.below b').cell (j := 1) rfl⟩
 have HRd : Hid (∀ W', Below w2.heap.size w2 W' → rSectors.rd W' (fun b => base ≤ b) [.slice pa s.length pc] s) := fun W' b' => Rep.below (W2.out.pgs.rd hW.few) b'
 have h0 : -9223372036854775808 ≤ p := by omega
 have h1 : p ≤ 9223372036854775807 := by omega
 clear hW hpl hpn V1 V2r b1 b2 z1 z2 hT hnd hJ hB hp1 hp2
 go_enter Tryz.func68, Tryz.ntmps68
 go_wp2_with fail
 go_cut [5] (fun t wx => ∃ nb ia il ic ka kl kc, t = .pointer (some ⟨nb, 0, none⟩) ∧ Hid (w2.heap.size ≤ nb) ∧ Hid (Row wx nb 63 [.slice ia il ic, .slice ka kl kc]) ∧ Hid (OwnI 45 wx w2.heap.size (.slice ia il ic) nd.1) ∧ Hid (OwnK 3 wx w2.heap.size (.slice ka kl kc) nd.2) ∧ Hid (Below w2.heap.size w2 wx))
 case first =>
  refine wp_region_held_drew (S := (fun w' : World => w'.cell? ⟨g, 0, none⟩ = some (.slice pa s.length pc) ∧ w'.cell? ⟨w.heap.size, 1, none⟩ = some (.int .i64 p))) (by kernel_rfl) (HSee.out _ (Below.refl _ _).drew) (fun hH => ?_)
  refine tkM 0 _ rfl rfl ?_; simp only [sz, ss]
  refine tkM 1 _ rfl rfl ?_; simp only [sz, ss]
  refine tkM 2 _ rfl rfl ?_; simp only [sz, ss]
  refine tkM 3 _ rfl rfl ?_; simp only [sz, ss]
  refine tkM 4 _ rfl rfl ?_; simp only [sz, ss]
  refine tkM 5 _ rfl rfl ?_; simp only [sz, ss]
  refine rdL [6, 7] ?_
  refine rcL (fun K hK => ?_) ?_
  · go_simp
    go_at_call 75
    refine Calls.mono (q9z _ _ pa pc s (HRd.out _ ((Below.refl _ _).drew)) p h0 h1) ?_
    rintro e w3 ⟨hb3, hok, -⟩
    have b3 : Below w2.heap.size w2 w3 := on ((Below.refl _ _).drew) hb3
    obtain ⟨ia, il, ic, ka, kl, kc, rfl, hI3, hK3⟩ := hok nd HNd.out
    have HB3 : Hid _ := b3
    have HI3 : Hid _ := hI3
    have HK3 : Hid _ := hK3
    clear hok hI3 hK3 b3 hb3
    go_simp
    refine hK.out _ _ (by exact HSee.out _ HB3.out) fun hH => ?_; clear hK K
    refine r1L 7 rfl fun K hK => ?_
    · go_simp
      refine hK.out _ _ (by exact HSee.out _ (q0Q HB3.out _)) fun hH => ?_; clear hK K
      refine r1L 8 rfl fun K hK => ?_
      · go_simp
        refine hK.out _ _ (by exact HSee.out _ (q0Q HB3.out _)) fun hH => ?_; clear hK K
        refine wpAnyH_done (by kernel_rfl) ?_ _
        clear hH
        go_wp2_with fail
        go_meet
        exact ⟨w3.heap.size, ia, il, ic, ka, kl, kc, rfl, HB3.out.size, q1Z _ _ _, HI3.out.below ((Below.refl _ w3).alloc (zw0 _) _), HK3.out.below ((Below.refl _ w3).alloc (zw0 _) _), q0Q HB3.out _⟩
  refine rcL (fun K hK => ?_) ?_
  · have BZ : Hid (Below w2.heap.size w2 (w2.alloc (.cells #[.slice none 0 0, .slice none 0 0] 63)).drew) := ((Below.refl _ w2).alloc (zw0 _) _).drew
    have VZ : Hid (Row (w2.alloc (.cells #[.slice none 0 0, .slice none 0 0] 63)).drew w2.heap.size 63 [.slice none 0 0, .slice none 0 0]) := (q1Z w2 _ _).keep rfl
    obtain ⟨wZ, hwZ⟩ : ∃ wZ, wZ = (w2.alloc (.cells #[.slice none 0 0, .slice none 0 0] 63)).drew := ⟨_, rfl⟩
    rw [← hwZ] at BZ VZ
    go_simp
    rw [← hwZ]
    clear hwZ
    refine hK.out _ _ (by exact HSee.out _ BZ.out) fun hH => ?_; clear hK K
    refine r1L 6 rfl fun K hK => ?_
    · go_simp
      go_at_call 75
      refine Calls.mono (q9z _ _ pa pc s (HRd.out _ (BZ.out)) p h0 h1) ?_
      rintro e w3 ⟨hb3, hok, -⟩
      have b3 : Below w2.heap.size w2 w3 := on (BZ.out) hb3
      obtain ⟨ia, il, ic, ka, kl, kc, rfl, hI3, hK3⟩ := hok nd HNd.out
      have HB3 : Hid _ := b3
      have VC : Hid _ := VZ.out.below hb3
      have hlt : Hid (w2.heap.size < wZ.heap.size) := VZ.out.lt
      have HI3 : Hid _ := hI3
      have HK3 : Hid _ := hK3
      obtain ⟨g0, g1⟩ := VC.out.two
      have g2 := VC.out.frozen 0
      have g3 := VC.out.frozen 1
      clear hok hI3 hK3 b3 hb3
      go_simp
      refine hK.out _ _ (by exact HSee.out _ HB3.out) fun hH => ?_; clear hK K
      refine r1L 8 rfl fun K hK => ?_
      · go_simp
        refine hK.out _ _ (by exact HSee.out _ ((HB3.out.setCell (p := ⟨w2.heap.size, 0, none⟩) (zw0 _) _).setCell (p := ⟨w2.heap.size, 1, none⟩) (zw0 _) _)) fun hH => ?_; clear hK K
        refine wpAnyH_done (by kernel_rfl) ?_ _
        clear hH
        go_wp2_with fail
        go_meet
        obtain ⟨w9, hw9, V9, K9⟩ := VC.out.whole2 (.slice ia il ic) (.slice ka kl kc)
        rw [hw9]
        exact ⟨w2.heap.size, ia, il, ic, ka, kl, kc, rfl, zw0 _, V9, (HI3.out.keptL K9 hlt.out).mono (Nat.le_of_lt hlt.out), (HK3.out.keptL K9 hlt.out).mono (Nat.le_of_lt hlt.out), Kept.belowOf HB3.out K9 (zw0 _)⟩
  exact rnL
 case rest =>
  obtain ⟨nb, ia, il, ic, ka, kl, kc, rfl, HNb, RN, HI, HK, HB3⟩ := hcut
  obtain ⟨w3, hw3⟩ : ∃ w3, w3 = wc := ⟨_, rfl⟩
  subst hw3
  obtain ⟨r0, r1⟩ := (V1b.out.below HB3.out).two
  obtain ⟨q0, q1⟩ := RN.out.two
  have HKL : Hid (kl = nd.2.length) := by obtain ⟨x, y, e, -⟩ := HK.out.slice; simp only [Value.slice.injEq] at e; exact e.2.1
  clear HSee HRd V1b
  go_wp2_with fail
  go_at_call 80
  refine Calls.mono (q6X _ w2.heap.size ia ka il ic kl kc nd.1 nd.2 fr HI.out HK.out HOk.out.few (Tr.shape HOk.out) HB3.out.size) ?_
  rintro e w4 ⟨ca, cn, cc, da, dn, dc, rfl, hC4, b4⟩
  obtain ⟨w5, hw5, V5r, b5, z5⟩ := q0q w4 111 [.slice ca cn cc, .slice da dn dc]
  have B5 : Hid (Below w2.heap.size w2 w5) := on (on HB3.out b4) b5
  have HC5 : Hid (IsCnt w5 w2.heap.size (.slice ca cn cc) (.slice da dn dc) (Tr.contOf nd fr)) := hC4.below b5
  have RN5 : Hid _ := (RN.out.below b4).below b5
  have HI5 : Hid _ := (HI.out.below b4).below b5
  have V5 : Hid _ := V5r
  have HZ5 : Hid (w2.heap.size ≤ w4.heap.size ∧ w5.heap.size = w4.heap.size + 1) := ⟨(on HB3.out b4).size, z5⟩
  clear r0 r1 q0 q1 RN HI HK HB3 hC4 b4 b5 V5r z5
  obtain ⟨q0, q1⟩ := RN5.out.two
  go_wp2_with fail
  go_at_call 47
  refine (q4z _ _ _ _ _).mono ?_
  rintro e w6 ⟨rfl, b6⟩
  have B6 : Hid _ := on B5.out b6
  have HC6 : Hid _ := HC5.out.below b6
  have RN6 : Hid _ := RN5.out.below b6
  have HI6 : Hid _ := HI5.out.below b6
  have V6 : Hid _ := V5.out.below b6
  have R6 : Hid _ := V2.out.below B6.out
  have W6 : Hid _ := W2.out.below B6.out
  have HB0 : Hid _ := on B2.out B6.out
  have HJ6 : Hid (J w6) := HT.out.stay HJ0.out ((WTurn.of (g := g) HB0.out).under HW0.out HB.out)
  clear q0 q1 b6 B5 HC5 RN5 HI5 V5 W2 V2 hw5 hw1 hw2
  have hkl : ¬ ((kl : Int) = 0) := by have := HKL.out; have : nd.2.length ≠ 0 := fun e => HKn.out (List.length_eq_zero_iff.1 e); omega
  obtain ⟨q, hq⟩ : ∃ q, q = Lf.way (nd.1, nd.2) key := ⟨_, rfl⟩
  have HQ : Hid (q = Lf.way nd key) := hq
  have HDN : Hid (dn = (Tr.contOf nd fr).2.length) := by obtain ⟨x, y, e, -⟩ := HC6.out.kids.slice; simp only [Value.slice.injEq] at e; exact e.2.1
  have HDN4 : Hid (2 ≤ dn ∧ dn ≤ 4) := by have h1 := (Tr.contOf_len fr HOk.out HKn.out).2; have h2 := HOk.out.some_; have h3 := HOk.out.few; have h4 := HDN.out; unfold Hid; omega
  have HQL : Hid (q < dn) := by have h := Tr.way_lt fr key HOk.out HKn.out; rw [← HDN.out, ← HQ.out] at h; exact h
  have HSee5 : Hid (∀ W', Below w6.heap.size w6 W' → W'.cell? ⟨nb, 0, none⟩ = some (.slice ia il ic) ∧ W'.cell? ⟨nb, 1, none⟩ = some (.slice ka kl kc) ∧ W'.cell? ⟨g, 1, none⟩ = some (.int .u64 (key.toNat : Int))) := fun W' b' => ⟨(RN6.out.below b').cell (j := 0) rfl, (RN6.out.below b').cell (j := 1) rfl, (W6.out.row.below b').cell (j := 1) rfl⟩
  have HWy : Hid _ := way_u w6.drew (fun b => w2.heap.size ≤ b) ia il ic (.slice ka kl kc) nd.1 nd.2 (Rep.below (HI6.out.rd (by have := HOk.out.few; omega)) (Below.refl _ _).drew) key
  rw [← hq] at HWy
  clear hq HKL RN6 HI6
  go_wp2_with fail
  refine wp_region_held_drew (S := (fun w' : World => w'.cell? ⟨nb, 0, none⟩ = some (.slice ia il ic) ∧ w'.cell? ⟨nb, 1, none⟩ = some (.slice ka kl kc) ∧ w'.cell? ⟨g, 1, none⟩ = some (.int .u64 (key.toNat : Int)))) (by kernel_rfl) (HSee5.out _ (Below.refl _ _).drew) (fun hH => ?_)
  refine tkM 0 _ rfl rfl ?_; simp only [sz, ss]
  refine tkM 1 _ rfl rfl ?_; simp only [sz, ss]
  refine tkM 2 _ rfl rfl ?_; simp only [sz, ss]
  refine tkM 3 _ rfl rfl ?_; simp only [sz, ss]
  refine tkM 4 _ rfl rfl ?_; simp only [sz, ss]
  refine r1L 5 rfl fun K hK => ?_
  · go_simp
    go_at_call 49
    refine Calls.mono HWy.out ?_
    rintro e w7 ⟨rfl, hb7⟩
    have b7 : Below w6.heap.size w6 w7 := q1Q hb7
    have hS7 := HSee5.out _ b7
    have HB7 : Hid _ := b7
    clear b7 hb7
    go_simp
    refine hK.out _ _ (by exact hS7) fun hH => ?_; clear hK K
    refine tkM 6 _ rfl rfl ?_; simp only [sz, ss]
    refine wpAnyH_done (by kernel_rfl) ?_ _
    clear hH hS7
    have V7 : Hid _ := V6.out.below HB7.out
    have R7 : Hid _ := R6.out.below HB7.out
    have W7 : Hid _ := W6.out.below HB7.out
    have B7 : Hid _ := on HB0.out HB7.out
    have HK7 : Hid (OwnB 133 w7 w2.heap.size (.slice da dn dc) (Tr.contOf nd fr).2) := HC6.out.kids.below HB7.out
    obtain ⟨kb, off, rfl, -, hkb, hat⟩ := q2j (HK7.out.rd (by have := HDN.out; have := HDN4.out; omega)) (by have := HQL.out; omega)
    have hkx : (Tr.contOf nd fr).2[q]'(by have := HDN.out; have := HQL.out; omega) = kid := by
     rw [← HKid.out, ← HQ.out]
     rw [List.getD_eq_getElem?_getD, zw3 (by have := HDN.out; have := HQL.out; omega)]
     rfl
    obtain ⟨c0, c1⟩ := hat q (by have := HDN.out; have := HQL.out; omega)
    rw [hkx] at c0 c1
    obtain ⟨y0, y1⟩ := V7.out.two
    have hq0 : (0 : Int) ≤ (q : Int) := Int.natCast_nonneg _
    have hq1 : (q : Int) < (dn : Int) := by have := HQL.out; omega
    have hq4 : q ≤ 4 := by have := HQL.out; have := HDN4.out; omega
    have hd4 : dn ≤ 4 := HDN4.out.2
    obtain ⟨q1, hq1e⟩ : ∃ q1, q1 = q + 1 := ⟨_, rfl⟩
    have HQ1 : Hid (q1 = q + 1) := hq1e
    have hwq : IntKind.i64.wrap ((q : Int) + 1) = (q1 : Int) := by rw [IntKind.wrap_i64]; omega
    clear hq1e hat hkx V6 R6 W6 HC6 HSee5 HWy
    go_wp2_with fail
    go_at_call 68
    refine Calls.mono (HRec.out w7 B7.out) ?_
    rintro e w8 hd
    obtain ⟨na, nn, nc, ma, mn, mc, v8, rfl, hC8, hW8, t8⟩ := hd.2 s1 now rfl
    have tk8 : TK [107, 53] w7 w8 := TK.turn W7.out t8.turn
    obtain ⟨w9, hw9, V9r, b9, z9⟩ := q0q w8 111 [.slice na nn nc, .slice ma mn mc]
    have HZ9 : Hid (w4.heap.size < w8.heap.size ∧ w1.heap.size < w4.heap.size) := ⟨by have := V7.out.lt; have := t8.turn.size; omega, by have := HZ.out; have := HZ2.out; have := HZ5.out.1; omega⟩
    have HKB : Hid (kb < w8.heap.size) := by have := t8.turn.size; unfold Hid; omega
    have V9 : Hid _ := (V7.out.tk tk8 (by decide)).below b9
    have R9 : Hid _ := (R7.out.tk tk8 (by decide)).below b9
    have N9 : Hid _ := V9r
    have HK9 : Hid _ := (HK7.out.tk tk8 (by decide)).below b9
    have HC9 : Hid _ := (hC8.mono B7.out.size).below b9
    have W9 : Hid (Wr w9 g base v8 s1 (.int .u64 (key.toNat : Int)) (.func (.func f) #[] bs)) := hW8.below b9
    have HT9 : Hid (WTurn g (.slice pa s.length pc) w v8 w9) := ((WTurn.of B7.out).trans t8).trans (WTurn.of b9)
    have HNN : Hid (nn = now.1.length ∧ mn = now.2.length) := ⟨by obtain ⟨x, y, e, -⟩ := hC8.items.slice; simp only [Value.slice.injEq] at e; exact e.2.1, by obtain ⟨x, y, e, -⟩ := hC8.kids.slice; simp only [Value.slice.injEq] at e; exact e.2.1⟩
    have hnm : nn + mn ≤ 6 := by have h := HFew.out; unfold Tr.csize at h; have := HNN.out; omega
    clear hd hC8 hW8 t8 tk8 V9r b9 z9 V7 R7 W7 HK7 y0 y1 c0 c1 hkb hq1
    obtain ⟨y0, y1⟩ := N9.out.two
    go_wp2_with fail
    go_at_call 81
    refine (csize_u _ _ _ _ _ _ _ (by omega) (by omega)).mono ?_
    rintro e wA ⟨rfl, bA⟩
    have VA : Hid _ := V9.out.below bA
    have RA : Hid _ := R9.out.below bA
    have NA : Hid _ := N9.out.below bA
    have HKA : Hid _ := HK9.out.below bA
    have HCA : Hid _ := HC9.out.below bA
    have WA : Hid _ := W9.out.below bA
    have HTA : Hid (WTurn g (.slice pa s.length pc) w v8 wA) := HT9.out.trans (WTurn.of bA)
    have HBA : Hid _ := bA
    clear y0 y1 bA V9 R9 N9 HK9 HC9 W9 HT9 hw9
    have hqz0 : q = 0 := by rw [HQ.out]; exact HI0.out
    have hqz : ¬ ((q : Int) > 0) := by omega
    have HQ0 : Hid (q = 0 ∧ q1 = 1) := ⟨hqz0, by have := HQ1.out; omega⟩
    clear hqz0
    obtain ⟨q2, hq2⟩ : ∃ q2, q2 = q1 + 1 := ⟨_, rfl⟩
    have HQ2 : Hid (q2 = 2) := by have := HQ0.out; unfold Hid; omega
    have hw2 : IntKind.i64.wrap ((q1 : Int) + 1) = (q2 : Int) := by rw [IntKind.wrap_i64]; have := HQ0.out; omega
    have hI0 : (0 : Int) ≤ (q1 : Int) := Int.natCast_nonneg _
    have hIl : (q1 : Int) < (dn : Int) := by have := HDN4.out; have := HQ0.out; omega
    have HIl : Hid (q1 < dn) := by have := HDN4.out; have := HQ0.out; unfold Hid; omega
    have HIJ : Hid (q < q2 ∧ q2 ≤ dn) := ⟨by have := HQ0.out; have := HQ2.out; omega, by have := HQ2.out; have := HDN4.out; omega⟩
    have HSib1 : Hid ((Tr.contOf nd fr).2.getD q1 (0, 0) = sib) := by have h := HSib.out; rw [← HQ0.out.2] at h; exact h
    clear hq2
    have hz : ¬ ((nn : Int) + (mn : Int) ≥ 2) := by have h := HSm.out; unfold Tr.csize at h; have := HNN.out; omega
    obtain ⟨kb', off', he, -, -, hat⟩ := q2j (HKA.out.rd (by have := HDN.out; have := HDN4.out; omega)) (by have := HQL.out; omega)
    simp only [Option.some.injEq, Addr.mk.injEq] at he
    obtain ⟨rfl, rfl, -⟩ := he
    have hsx : (Tr.contOf nd fr).2[q1]'(by have := HDN.out; have := HIl.out; omega) = sib := by
     rw [← HSib1.out]
     rw [List.getD_eq_getElem?_getD, zw3 (by have := HDN.out; have := HIl.out; omega)]
     rfl
    obtain ⟨c0, c1⟩ := hat q1 (by have := HDN.out; have := HIl.out; omega)
    rw [hsx] at c0 c1
    have HPS : Hid (1 ≤ sib.2 ∧ sib.2 ≤ 2049) := by have h := Tr.contOf_pages fr HOk.out _ (List.getElem_mem (show q1 < (Tr.contOf nd fr).2.length by have := HDN.out; have := HIl.out; omega)); rw [hsx] at h; exact h
    have HKBA : Hid (kb < wA.heap.size) := by have h1 := HKB.out; have h2 := NA.out.lt; unfold Hid; omega
    have HSeeJ : Hid (∀ W', Below wA.heap.size wA W' → W'.cell? ⟨w4.heap.size, 1, none⟩ = some (.slice (some ⟨kb, off, none⟩) dn dc) ∧ W'.cell? ⟨kb, off + q1 * 2, none⟩ = some (.int .u64 (sib.1.toNat : Int)) ∧ W'.cell? ⟨kb, off + q1 * 2 + 1, none⟩ = some (.int .i64 sib.2)) := fun W' b' => ⟨(VA.out.below b').cell (j := 1) rfl, (Turn.of (S := []) b').cell c0 HKBA.out (by simp), (Turn.of (S := []) b').cell c1 HKBA.out (by simp)⟩
    obtain ⟨y0, y1⟩ := NA.out.two
    clear hat hsx
    go_wp2_with fail
    refine wp_region_held_drew (S := (fun w' : World => w'.cell? ⟨w4.heap.size, 1, none⟩ = some (.slice (some ⟨kb, off, none⟩) dn dc) ∧ w'.cell? ⟨kb, off + q1 * 2, none⟩ = some (.int .u64 (sib.1.toNat : Int)) ∧ w'.cell? ⟨kb, off + q1 * 2 + 1, none⟩ = some (.int .i64 sib.2))) (by kernel_rfl) (HSeeJ.out _ (Below.refl _ _).drew) (fun hH => ?_)
    refine tkM 1 _ rfl rfl ?_; simp only [sz, ss]
    refine tkM 2 _ rfl rfl ?_; simp only [sz, ss]
    refine tkM 3 _ rfl rfl ?_; simp only [sz, ss]
    refine tkM 4 _ rfl rfl ?_; simp only [sz, ss]
    refine tkM 5 _ rfl rfl ?_; simp only [sz, ss]
    refine tkM 6 _ rfl rfl ?_; simp only [sz, ss]
    refine rdL [0, 7] ?_
    refine rcL (fun K hK => ?_) ?_
    · go_simp
      refine hK.out _ _ (by exact HSeeJ.out _ (Below.refl _ _).drew) fun hH => ?_; clear hK K
      refine r1L 7 rfl fun K hK => ?_
      · go_simp
        go_at_call 83
        refine Calls.mono (read_u wA.drew g base v8 s1 (.int .u64 (key.toNat : Int)) (.func (.func f) #[] bs) (WA.out.below (Below.refl _ _).drew) sib.1 sib.2 (by have := HPS.out; omega) (by have := HPS.out; omega)) ?_
        rintro e wD ⟨bD', -, hok⟩
        obtain ⟨ea, en, ec, fa, fn, fc, rfl, hCD⟩ := hok n2 HN2.out
        have HBD : Hid (Below wA.heap.size wA wD) := q1Q bD'
        have HCD : Hid (IsCnt wD w.heap.size (.slice ea en ec) (.slice fa fn fc) (Tr.contOf n2 sib.1)) := hCD.mono HTA.out.turn.size
        have HCN : Hid _ := HCA.out.below HBD.out
        have HEN : Hid (en ≤ 4 ∧ fn ≤ 4) := by
         have h := (Tr.contOf_size sib.1 HOk2.out).2
         unfold Tr.csize at h
         obtain ⟨x, y, e1, -⟩ := hCD.items.slice
         obtain ⟨x', y', e2, -⟩ := hCD.kids.slice
         simp only [Value.slice.injEq] at e1 e2
         unfold Hid
         omega
        have hSD := HSeeJ.out _ HBD.out
        have ND : Hid _ := NA.out.below HBD.out
        clear bD' hok hCD
        obtain ⟨z0, z1⟩ := ND.out.two
        go_simp
        refine hK.out _ _ (by exact hSD) fun hH => ?_; clear hK K
        refine r1L 8 rfl fun K hK => ?_
        · go_simp
          go_at_call 82
          refine Calls.mono (qMZ wD (fun b => w.heap.size ≤ b) na ma ea fa nn nc mn mc en ec fn fc now.1 (Tr.contOf n2 sib.1).1 now.2 (Tr.contOf n2 sib.1).2 (HCN.out.items.rd (by have h := HFew.out; unfold Tr.csize at h; omega)) (HCN.out.kids.rd (by have h := HFew.out; unfold Tr.csize at h; omega)) (HCD.out.items.rd (by have h := (Tr.contOf_size sib.1 HOk2.out).2; unfold Tr.csize at h; omega)) (HCD.out.kids.rd (by have h := (Tr.contOf_size sib.1 HOk2.out).2; unfold Tr.csize at h; omega)) (by omega) (by omega) (by have := HEN.out; omega) (by have := HEN.out; omega)) ?_
          rintro e wE ⟨ja, jn, jc, la, ln, lc, rfl, hCE, bE⟩
          have HBE : Hid _ := on HBD.out bE
          have HCE : Hid (IsCnt wE w.heap.size (.slice ja jn jc) (.slice la ln lc) (Tr.joined now (Tr.contOf n2 sib.1))) := hCE.mono (by have h1 := HTA.out.turn.size; have h2 := HBD.out.size; omega)
          have hSE := HSeeJ.out _ HBE.out
          have NE : Hid _ := NA.out.below HBE.out
          have HSF : Hid (∀ u u', ((wE.setCell ⟨w8.heap.size, 0, none⟩ u).setCell ⟨w8.heap.size, 1, none⟩ u').cell? ⟨w4.heap.size, 1, none⟩ = some (.slice (some ⟨kb, off, none⟩) dn dc) ∧ ((wE.setCell ⟨w8.heap.size, 0, none⟩ u).setCell ⟨w8.heap.size, 1, none⟩ u').cell? ⟨kb, off + q1 * 2, none⟩ = some (.int .u64 (sib.1.toNat : Int)) ∧ ((wE.setCell ⟨w8.heap.size, 0, none⟩ u).setCell ⟨w8.heap.size, 1, none⟩ u').cell? ⟨kb, off + q1 * 2 + 1, none⟩ = some (.int .i64 sib.2)) := fun u u' => by
           have s1' := HSeeJ.out _ HBE.out
           have k1 : Kept (· ≠ w8.heap.size) wE ((wE.setCell ⟨w8.heap.size, 0, none⟩ u).setCell ⟨w8.heap.size, 1, none⟩ u') := ((Kept.refl _ wE).setCell (p := ⟨w8.heap.size, 0, none⟩) (fun h => h rfl) u).setCell (p := ⟨w8.heap.size, 1, none⟩) (fun h => h rfl) u'
           have n1 : kb ≠ w8.heap.size := by have := HKB.out; omega
           have n2 : w4.heap.size ≠ w8.heap.size := by have := HZ9.out; omega
           exact ⟨k1.cell (p := ⟨w4.heap.size, 1, none⟩) n2 s1'.1, k1.cell (p := ⟨kb, _, none⟩) n1 s1'.2.1, k1.cell (p := ⟨kb, _, none⟩) n1 s1'.2.2⟩
          obtain ⟨g0, g1⟩ := NE.out.two
          have g2 := NE.out.frozen 0
          have g3 := NE.out.frozen 1
          clear hCE bE
          go_simp
          refine hK.out _ _ (by exact hSE) fun hH => ?_; clear hK K
          refine r1L 9 rfl fun K hK => ?_
          · go_simp
            refine hK.out _ _ (by exact HSF.out _ _) fun hH => ?_; clear hK K
            refine wpAnyH_done (by kernel_rfl) ?_ _
            clear hH g0 g1 g2 g3
            obtain ⟨wF, hwF, VnF, KF⟩ := NE.out.whole2 (.slice ja jn jc) (.slice la ln lc)
            rw [hwF]
            have tkF : TK [111] wE wF := TK.box NE.out KF
            have NF : Hid _ := VnF
            have VF : Hid (Row wF w4.heap.size 111 [.slice ca cn cc, .slice (some ⟨kb, off, none⟩) dn dc]) := (VA.out.below HBE.out).keep (KF.block _ (by have := HZ9.out; show w4.heap.size ≠ w8.heap.size; omega))
            have RF : Hid (Row wF w1.heap.size 111 [.slice none 0 0, .slice none 0 0]) := (RA.out.below HBE.out).keep (KF.block _ (by have := HZ9.out; show w1.heap.size ≠ w8.heap.size; omega))
            have HKF : Hid _ := (HKA.out.below HBE.out).tk tkF (by decide)
            have HCF : Hid (IsCnt wF w.heap.size (.slice ja jn jc) (.slice la ln lc) (Tr.joined now (Tr.contOf n2 sib.1))) := HCE.out.tk tkF (by decide) (by decide)
            have WF : Hid (Wr wF g base v8 s1 (.int .u64 (key.toNat : Int)) (.func (.func f) #[] bs)) := (WA.out.below HBE.out).tk tkF (by decide) (by decide) (by decide)
            have HTF : Hid (WTurn g (.slice pa s.length pc) w v8 wF) := (HTA.out.trans (WTurn.of HBE.out)).low (Kept.belowOf (Below.refl _ _) KF (by have := HZ9.out; have := HZ.out; omega))
            have HLF : Hid (jn = (Tr.joined now (Tr.contOf n2 sib.1)).1.length ∧ ln = (Tr.joined now (Tr.contOf n2 sib.1)).2.length) := ⟨by obtain ⟨x, y, e, -⟩ := HCE.out.items.slice; simp only [Value.slice.injEq] at e; exact e.2.1, by obtain ⟨x, y, e, -⟩ := HCE.out.kids.slice; simp only [Value.slice.injEq] at e; exact e.2.1⟩
            have HSz : Hid (Tr.csize (Tr.joined now (Tr.contOf n2 sib.1)) ≤ 6) := by
             have h1 := (Tr.contOf_size sib.1 HOk2.out).2
             have h2 := HSm.out
             unfold Tr.csize at h1 h2
             unfold Hid Tr.csize Tr.joined
             simp only [zw2]
             omega
            have HSz1 : Hid (1 ≤ Tr.csize (Tr.joined now (Tr.contOf n2 sib.1))) := by
             have h1 := (Tr.contOf_size sib.1 HOk2.out).1
             unfold Tr.csize at h1
             unfold Hid Tr.csize Tr.joined
             simp only [zw2]
             omega
            have HPg : Hid (Tr.PagesIn (Tr.joined now (Tr.contOf n2 sib.1)).2) := fun b hb => by
             rcases List.mem_append.1 hb with hb | hb
             · exact HPn.out b hb
             · exact Tr.contOf_pages _ HOk2.out b hb
            clear HSeeJ HBE HCE NE HSF ND HCD HCN VnF KF tkF hwF c0 c1 y0 y1 hSD hSE z0 z1 HBD VA RA NA HKA HCA WA HTA
            have HSeeT : Hid (∀ W', Turn (WS g v8) wF W' → W'.cell? ⟨w4.heap.size, 1, none⟩ = some (.slice (some ⟨kb, off, none⟩) dn dc) ∧ W'.cell? ⟨w8.heap.size, 0, none⟩ = some (.slice ja jn jc) ∧ W'.cell? ⟨w8.heap.size, 1, none⟩ = some (.slice la ln lc)) := fun W' t' => by
             have tk := TK.turn WF.out t'
             exact ⟨(VF.out.tk tk (by decide)).cell (j := 1) rfl, (NF.out.tk tk (by decide)).cell (j := 0) rfl, (NF.out.tk tk (by decide)).cell (j := 1) rfl⟩
            go_wp2_with fail
            refine wp_region_held_drew (S := (fun w' : World => w'.cell? ⟨w4.heap.size, 1, none⟩ = some (.slice (some ⟨kb, off, none⟩) dn dc) ∧ w'.cell? ⟨w8.heap.size, 0, none⟩ = some (.slice ja jn jc) ∧ w'.cell? ⟨w8.heap.size, 1, none⟩ = some (.slice la ln lc))) (by kernel_rfl) (HSeeT.out _ (Turn.of (Below.refl _ _).drew)) (fun hH => ?_)
            refine tkM 0 _ rfl rfl ?_; simp only [sz, ss]
            refine tkM 1 _ rfl rfl ?_; simp only [sz, ss]
            refine tkM 2 _ rfl rfl ?_; simp only [sz, ss]
            refine tkM 3 _ rfl rfl ?_; simp only [sz, ss]
            refine tkM 4 _ rfl rfl ?_; simp only [sz, ss]
            refine tkM 5 _ rfl rfl ?_; simp only [sz, ss]
            refine r1L 6 rfl fun K hK => ?_
            · go_simp
              go_at_call 67
              refine Calls.mono (lay_u wF.drew g base v8 s1 (.int .u64 (key.toNat : Int)) (.func (.func f) #[] bs) (WF.out.below (Below.refl _ _).drew) _ ja la jn jc ln lc (Tr.joined now (Tr.contOf n2 sib.1)).1 (Tr.joined now (Tr.contOf n2 sib.1)).2 (HCF.out.below (Below.refl _ _).drew |>.rd (by have := HSz.out; unfold Tr.csize at this; omega) (by have := HSz.out; unfold Tr.csize at this; omega)).1 (HCF.out.below (Below.refl _ _).drew |>.rd (by have := HSz.out; unfold Tr.csize at this; omega) (by have := HSz.out; unfold Tr.csize at this; omega)).2 ((HCF.out.below (Below.refl _ _).drew).apartW (WF.out.below (Below.refl _ _).drew)) (by have := HLF.out; have := HSz.out; unfold Tr.csize at this; omega) (by have := HLF.out; have := HSz.out; unfold Tr.csize at this; omega) (fun b hb => by have := HPg.out b hb; omega)) ?_
              rintro e wY hd
              rcases hy : Tr.lay s1 ((Tr.joined now (Tr.contOf n2 sib.1)).1, (Tr.joined now (Tr.contOf n2 sib.1)).2) with x | ⟨s2, lb⟩
              · obtain ⟨rfl, tY⟩ := hd.1 x hy
                refine ⟨rfl, ChgDone.no (Tr.layR_error (show Tr.lay s1 (Tr.joined now (Tr.contOf n2 sib.1)) = .error x from hy) _ _ _) (WTurn.trans HTF.out (v2 := v8) ⟨Turn.trans (Turn.of (Below.refl _ _).drew) tY, fun b e => .inl e⟩).turn⟩
              obtain ⟨oa, om, oc, vY, rfl, ho, hWY, tY, -⟩ := hd.2 s2 lb hy
              have HLy : Hid (Tr.lay s1 (Tr.joined now (Tr.contOf n2 sib.1)) = .ok (s2, lb)) := hy
              have t0 : Turn (WS g v8) wF wY := Turn.trans (Turn.of (Below.refl _ _).drew) tY.turn
              have hSY := HSeeT.out _ t0
              have tkY : TK [107, 53] wF wY := TK.turn WF.out t0
              have HLB : Hid (om = lb.length) := by obtain ⟨x, y, e, -⟩ := ho.slice; simp only [Value.slice.injEq] at e; exact e.2.1
              have HLB2 : Hid (1 ≤ lb.length ∧ lb.length ≤ 6) := by have h := (Tr.lay_some WF.out.few hy).1; have h1 := HSz.out; have h2 := HSz1.out; unfold Tr.csize at h1 h2; unfold Hid; simp only at h; omega
              have VY : Hid _ := VF.out.tk tkY (by decide)
              have RY : Hid _ := RF.out.tk tkY (by decide)
              have NY : Hid _ := NF.out.tk tkY (by decide)
              have HKY : Hid _ := HKF.out.tk tkY (by decide)
              have WY : Hid _ := hWY
              have HTY : Hid (WTurn g (.slice pa s.length pc) w vY wY) := HTF.out.trans ⟨t0, tY.place⟩
              have HSY : Hid (w2.heap.size ≤ wY.heap.size) := by have h1 := VY.out.lt; have h2 := HZ5.out.1; unfold Hid; omega
              have HOY : Hid _ := ho
              obtain ⟨vb, vo, rfl, hvP, hvl, -⟩ := q2j (HOY.out.rd (by have := HLB2.out; omega)) (by have := HLB.out; have := HLB2.out; omega)
              have HVB : Hid ((Value.slice (some ⟨kb, off, none⟩) dn dc).ownBlock ≠ some vb) := fun e => by have h := (HKF.out.row.lt vb e).2; have h2 : wF.heap.size ≤ vb := hvP; omega
              clear hd hy ho hWY tY t0 tkY hvP hvl
              go_simp
              refine hK.out _ _ (by exact hSY) fun hH => ?_; clear hK K
              refine r1L 7 rfl fun K hK => ?_
              · go_simp
                go_at_call 84
                refine Calls.mono (qDx wY w2.heap.size _ dn dc q q2 (Tr.contOf nd fr).2 HKY.out _ vb vo om oc lb (HOY.out.rd (by have := HLB2.out; omega)) HVB.out (by have := HLB.out; have := HLB2.out; omega) HIJ.out.1 HIJ.out.2 (by have := HDN4.out; omega) (by have := HLB.out; have := HLB2.out; omega) HSY.out) ?_
                rintro e wR ⟨ra, rn, rc, rfl, hoR, gr⟩
                have tkR : TK [133] wY wR := TK.grewB HKY.out gr
                have bR : Below w2.heap.size wY wR := HKY.out.base_below HSY.out gr
                have VR : Hid _ := VY.out.tk tkR (by decide)
                have RR : Hid _ := RY.out.tk tkR (by decide)
                have NR : Hid _ := NY.out.tk tkR (by decide)
                have WR : Hid (Wr wR g base vY s2 (.int .u64 (key.toNat : Int)) (.func (.func f) #[] bs)) := WY.out.tk tkR (by decide) (by decide) (by decide)
                have HTR : Hid (WTurn g (.slice pa s.length pc) w vY wR) := HTY.out.low (bR.mono B2.out.size)
                have HOR : Hid (OwnB 133 wR w.heap.size (.slice ra rn rc) (Tr.replaced (Tr.contOf nd fr).2 q q2 lb)) := hoR.mono B2.out.size
                have hSR : wR.cell? ⟨w4.heap.size, 1, none⟩ = some (.slice (some ⟨kb, off, none⟩) dn dc) ∧ wR.cell? ⟨w8.heap.size, 0, none⟩ = some (.slice ja jn jc) ∧ wR.cell? ⟨w8.heap.size, 1, none⟩ = some (.slice la ln lc) := ⟨VR.out.cell (j := 1) rfl, NR.out.cell (j := 0) rfl, NR.out.cell (j := 1) rfl⟩
                have HSR2 : Hid (∀ u u', ((wR.setCell ⟨w1.heap.size, 0, none⟩ u).setCell ⟨w1.heap.size, 1, none⟩ u').cell? ⟨w4.heap.size, 1, none⟩ = some (.slice (some ⟨kb, off, none⟩) dn dc) ∧ ((wR.setCell ⟨w1.heap.size, 0, none⟩ u).setCell ⟨w1.heap.size, 1, none⟩ u').cell? ⟨w8.heap.size, 0, none⟩ = some (.slice ja jn jc) ∧ ((wR.setCell ⟨w1.heap.size, 0, none⟩ u).setCell ⟨w1.heap.size, 1, none⟩ u').cell? ⟨w8.heap.size, 1, none⟩ = some (.slice la ln lc)) := fun u u' => by
                 obtain ⟨w8', hw8', V8', K8'⟩ := RR.out.whole2 u u'
                 rw [hw8']
                 have e1 := K8'.block w4.heap.size (by have := HZ9.out; show w4.heap.size ≠ w1.heap.size; omega)
                 have e2 := K8'.block w8.heap.size (by have := HZ9.out; show w8.heap.size ≠ w1.heap.size; omega)
                 exact ⟨(VR.out.keep e1).cell (j := 1) rfl, (NR.out.keep e2).cell (j := 0) rfl, (NR.out.keep e2).cell (j := 1) rfl⟩
                obtain ⟨g0, g1⟩ := RR.out.two
                have g2 := RR.out.frozen 0
                have g3 := RR.out.frozen 1
                clear hoR gr tkR bR
                go_simp
                refine hK.out _ _ (by exact hSR) fun hH => ?_; clear hK K
                refine tkM 8 _ rfl rfl ?_; simp only [sz, ss]
                refine r1L 9 rfl fun K hK => ?_
                · go_simp
                  refine hK.out _ _ (by exact HSR2.out _ _) fun hH => ?_; clear hK K
                  refine wpAnyH_done (by kernel_rfl) ?_ _
                  clear hH
                  go_wp2
                  exact qDq RR.out _ _ rfl rfl Tryz.underlying111 rfl (by kernel_rfl) (fun w' k' => ChgDone.yes (by rw [← HQ2.out, ← HQ0.out.1]; exact Tr.layR_ok HLy.out _ _ _) rfl ⟨OwnI.nil _ _ _, HOR.out.tk (TK.box RR.out k') (by decide)⟩ (WR.out.tk (TK.box RR.out k') (by decide) (by decide) (by decide)) (HTR.out.low (Kept.belowOf (Below.refl _ _) k' (by have := HZ.out; omega))))
    refine rcL (fun K hK => ?_) ?_
    · go_simp
      go_at_call 83
      refine Calls.mono (read_u wA.drew g base v8 s1 (.int .u64 (key.toNat : Int)) (.func (.func f) #[] bs) (WA.out.below (Below.refl _ _).drew) sib.1 sib.2 (by have := HPS.out; omega) (by have := HPS.out; omega)) ?_
      rintro e wD ⟨bD', -, hok⟩
      obtain ⟨ea, en, ec, fa, fn, fc, rfl, hCD⟩ := hok n2 HN2.out
      have HBD : Hid (Below wA.heap.size wA wD) := q1Q bD'
      have HCD : Hid (IsCnt wD w.heap.size (.slice ea en ec) (.slice fa fn fc) (Tr.contOf n2 sib.1)) := hCD.mono HTA.out.turn.size
      have HCN : Hid _ := HCA.out.below HBD.out
      have HEN : Hid (en ≤ 4 ∧ fn ≤ 4) := by
       have h := (Tr.contOf_size sib.1 HOk2.out).2
       unfold Tr.csize at h
       obtain ⟨x, y, e1, -⟩ := hCD.items.slice
       obtain ⟨x', y', e2, -⟩ := hCD.kids.slice
       simp only [Value.slice.injEq] at e1 e2
       unfold Hid
       omega
      have hSD := HSeeJ.out _ HBD.out
      have ND : Hid _ := NA.out.below HBD.out
      clear bD' hok hCD
      obtain ⟨z0, z1⟩ := ND.out.two
      go_simp
      refine hK.out _ _ (by exact hSD) fun hH => ?_; clear hK K
      refine r1L 0 rfl fun K hK => ?_
      · go_simp
        refine hK.out _ _ (by exact HSeeJ.out _ HBD.out) fun hH => ?_; clear hK K
        refine r1L 8 rfl fun K hK => ?_
        · go_simp
          go_at_call 82
          refine Calls.mono (qMZ wD (fun b => w.heap.size ≤ b) na ma ea fa nn nc mn mc en ec fn fc now.1 (Tr.contOf n2 sib.1).1 now.2 (Tr.contOf n2 sib.1).2 (HCN.out.items.rd (by have h := HFew.out; unfold Tr.csize at h; omega)) (HCN.out.kids.rd (by have h := HFew.out; unfold Tr.csize at h; omega)) (HCD.out.items.rd (by have h := (Tr.contOf_size sib.1 HOk2.out).2; unfold Tr.csize at h; omega)) (HCD.out.kids.rd (by have h := (Tr.contOf_size sib.1 HOk2.out).2; unfold Tr.csize at h; omega)) (by omega) (by omega) (by have := HEN.out; omega) (by have := HEN.out; omega)) ?_
          rintro e wE ⟨ja, jn, jc, la, ln, lc, rfl, hCE, bE⟩
          have HBE : Hid _ := on HBD.out bE
          have HCE : Hid (IsCnt wE w.heap.size (.slice ja jn jc) (.slice la ln lc) (Tr.joined now (Tr.contOf n2 sib.1))) := hCE.mono (by have h1 := HTA.out.turn.size; have h2 := HBD.out.size; omega)
          have hSE := HSeeJ.out _ HBE.out
          have NE : Hid _ := NA.out.below HBE.out
          have HSF : Hid (∀ u u', ((wE.setCell ⟨w8.heap.size, 0, none⟩ u).setCell ⟨w8.heap.size, 1, none⟩ u').cell? ⟨w4.heap.size, 1, none⟩ = some (.slice (some ⟨kb, off, none⟩) dn dc) ∧ ((wE.setCell ⟨w8.heap.size, 0, none⟩ u).setCell ⟨w8.heap.size, 1, none⟩ u').cell? ⟨kb, off + q1 * 2, none⟩ = some (.int .u64 (sib.1.toNat : Int)) ∧ ((wE.setCell ⟨w8.heap.size, 0, none⟩ u).setCell ⟨w8.heap.size, 1, none⟩ u').cell? ⟨kb, off + q1 * 2 + 1, none⟩ = some (.int .i64 sib.2)) := fun u u' => by
           have s1' := HSeeJ.out _ HBE.out
           have k1 : Kept (· ≠ w8.heap.size) wE ((wE.setCell ⟨w8.heap.size, 0, none⟩ u).setCell ⟨w8.heap.size, 1, none⟩ u') := ((Kept.refl _ wE).setCell (p := ⟨w8.heap.size, 0, none⟩) (fun h => h rfl) u).setCell (p := ⟨w8.heap.size, 1, none⟩) (fun h => h rfl) u'
           have n1 : kb ≠ w8.heap.size := by have := HKB.out; omega
           have n2 : w4.heap.size ≠ w8.heap.size := by have := HZ9.out; omega
           exact ⟨k1.cell (p := ⟨w4.heap.size, 1, none⟩) n2 s1'.1, k1.cell (p := ⟨kb, _, none⟩) n1 s1'.2.1, k1.cell (p := ⟨kb, _, none⟩) n1 s1'.2.2⟩
          obtain ⟨g0, g1⟩ := NE.out.two
          have g2 := NE.out.frozen 0
          have g3 := NE.out.frozen 1
          clear hCE bE
          go_simp
          refine hK.out _ _ (by exact hSE) fun hH => ?_; clear hK K
          refine r1L 9 rfl fun K hK => ?_
          · go_simp
            refine hK.out _ _ (by exact HSF.out _ _) fun hH => ?_; clear hK K
            refine wpAnyH_done (by kernel_rfl) ?_ _
            clear hH g0 g1 g2 g3
            obtain ⟨wF, hwF, VnF, KF⟩ := NE.out.whole2 (.slice ja jn jc) (.slice la ln lc)
            rw [hwF]
            have tkF : TK [111] wE wF := TK.box NE.out KF
            have NF : Hid _ := VnF
            have VF : Hid (Row wF w4.heap.size 111 [.slice ca cn cc, .slice (some ⟨kb, off, none⟩) dn dc]) := (VA.out.below HBE.out).keep (KF.block _ (by have := HZ9.out; show w4.heap.size ≠ w8.heap.size; omega))
            have RF : Hid (Row wF w1.heap.size 111 [.slice none 0 0, .slice none 0 0]) := (RA.out.below HBE.out).keep (KF.block _ (by have := HZ9.out; show w1.heap.size ≠ w8.heap.size; omega))
            have HKF : Hid _ := (HKA.out.below HBE.out).tk tkF (by decide)
            have HCF : Hid (IsCnt wF w.heap.size (.slice ja jn jc) (.slice la ln lc) (Tr.joined now (Tr.contOf n2 sib.1))) := HCE.out.tk tkF (by decide) (by decide)
            have WF : Hid (Wr wF g base v8 s1 (.int .u64 (key.toNat : Int)) (.func (.func f) #[] bs)) := (WA.out.below HBE.out).tk tkF (by decide) (by decide) (by decide)
            have HTF : Hid (WTurn g (.slice pa s.length pc) w v8 wF) := (HTA.out.trans (WTurn.of HBE.out)).low (Kept.belowOf (Below.refl _ _) KF (by have := HZ9.out; have := HZ.out; omega))
            have HLF : Hid (jn = (Tr.joined now (Tr.contOf n2 sib.1)).1.length ∧ ln = (Tr.joined now (Tr.contOf n2 sib.1)).2.length) := ⟨by obtain ⟨x, y, e, -⟩ := HCE.out.items.slice; simp only [Value.slice.injEq] at e; exact e.2.1, by obtain ⟨x, y, e, -⟩ := HCE.out.kids.slice; simp only [Value.slice.injEq] at e; exact e.2.1⟩
            have HSz : Hid (Tr.csize (Tr.joined now (Tr.contOf n2 sib.1)) ≤ 6) := by
             have h1 := (Tr.contOf_size sib.1 HOk2.out).2
             have h2 := HSm.out
             unfold Tr.csize at h1 h2
             unfold Hid Tr.csize Tr.joined
             simp only [zw2]
             omega
            have HSz1 : Hid (1 ≤ Tr.csize (Tr.joined now (Tr.contOf n2 sib.1))) := by
             have h1 := (Tr.contOf_size sib.1 HOk2.out).1
             unfold Tr.csize at h1
             unfold Hid Tr.csize Tr.joined
             simp only [zw2]
             omega
            have HPg : Hid (Tr.PagesIn (Tr.joined now (Tr.contOf n2 sib.1)).2) := fun b hb => by
             rcases List.mem_append.1 hb with hb | hb
             · exact HPn.out b hb
             · exact Tr.contOf_pages _ HOk2.out b hb
            clear HSeeJ HBE HCE NE HSF ND HCD HCN VnF KF tkF hwF c0 c1 y0 y1 hSD hSE z0 z1 HBD VA RA NA HKA HCA WA HTA
            have HSeeT : Hid (∀ W', Turn (WS g v8) wF W' → W'.cell? ⟨w4.heap.size, 1, none⟩ = some (.slice (some ⟨kb, off, none⟩) dn dc) ∧ W'.cell? ⟨w8.heap.size, 0, none⟩ = some (.slice ja jn jc) ∧ W'.cell? ⟨w8.heap.size, 1, none⟩ = some (.slice la ln lc)) := fun W' t' => by
             have tk := TK.turn WF.out t'
             exact ⟨(VF.out.tk tk (by decide)).cell (j := 1) rfl, (NF.out.tk tk (by decide)).cell (j := 0) rfl, (NF.out.tk tk (by decide)).cell (j := 1) rfl⟩
            go_wp2_with fail
            refine wp_region_held_drew (S := (fun w' : World => w'.cell? ⟨w4.heap.size, 1, none⟩ = some (.slice (some ⟨kb, off, none⟩) dn dc) ∧ w'.cell? ⟨w8.heap.size, 0, none⟩ = some (.slice ja jn jc) ∧ w'.cell? ⟨w8.heap.size, 1, none⟩ = some (.slice la ln lc))) (by kernel_rfl) (HSeeT.out _ (Turn.of (Below.refl _ _).drew)) (fun hH => ?_)
            refine tkM 0 _ rfl rfl ?_; simp only [sz, ss]
            refine tkM 1 _ rfl rfl ?_; simp only [sz, ss]
            refine tkM 2 _ rfl rfl ?_; simp only [sz, ss]
            refine tkM 3 _ rfl rfl ?_; simp only [sz, ss]
            refine tkM 4 _ rfl rfl ?_; simp only [sz, ss]
            refine tkM 5 _ rfl rfl ?_; simp only [sz, ss]
            refine r1L 6 rfl fun K hK => ?_
            · go_simp
              go_at_call 67
              refine Calls.mono (lay_u wF.drew g base v8 s1 (.int .u64 (key.toNat : Int)) (.func (.func f) #[] bs) (WF.out.below (Below.refl _ _).drew) _ ja la jn jc ln lc (Tr.joined now (Tr.contOf n2 sib.1)).1 (Tr.joined now (Tr.contOf n2 sib.1)).2 (HCF.out.below (Below.refl _ _).drew |>.rd (by have := HSz.out; unfold Tr.csize at this; omega) (by have := HSz.out; unfold Tr.csize at this; omega)).1 (HCF.out.below (Below.refl _ _).drew |>.rd (by have := HSz.out; unfold Tr.csize at this; omega) (by have := HSz.out; unfold Tr.csize at this; omega)).2 ((HCF.out.below (Below.refl _ _).drew).apartW (WF.out.below (Below.refl _ _).drew)) (by have := HLF.out; have := HSz.out; unfold Tr.csize at this; omega) (by have := HLF.out; have := HSz.out; unfold Tr.csize at this; omega) (fun b hb => by have := HPg.out b hb; omega)) ?_
              rintro e wY hd
              rcases hy : Tr.lay s1 ((Tr.joined now (Tr.contOf n2 sib.1)).1, (Tr.joined now (Tr.contOf n2 sib.1)).2) with x | ⟨s2, lb⟩
              · obtain ⟨rfl, tY⟩ := hd.1 x hy
                refine ⟨rfl, ChgDone.no (Tr.layR_error (show Tr.lay s1 (Tr.joined now (Tr.contOf n2 sib.1)) = .error x from hy) _ _ _) (WTurn.trans HTF.out (v2 := v8) ⟨Turn.trans (Turn.of (Below.refl _ _).drew) tY, fun b e => .inl e⟩).turn⟩
              obtain ⟨oa, om, oc, vY, rfl, ho, hWY, tY, -⟩ := hd.2 s2 lb hy
              have HLy : Hid (Tr.lay s1 (Tr.joined now (Tr.contOf n2 sib.1)) = .ok (s2, lb)) := hy
              have t0 : Turn (WS g v8) wF wY := Turn.trans (Turn.of (Below.refl _ _).drew) tY.turn
              have hSY := HSeeT.out _ t0
              have tkY : TK [107, 53] wF wY := TK.turn WF.out t0
              have HLB : Hid (om = lb.length) := by obtain ⟨x, y, e, -⟩ := ho.slice; simp only [Value.slice.injEq] at e; exact e.2.1
              have HLB2 : Hid (1 ≤ lb.length ∧ lb.length ≤ 6) := by have h := (Tr.lay_some WF.out.few hy).1; have h1 := HSz.out; have h2 := HSz1.out; unfold Tr.csize at h1 h2; unfold Hid; simp only at h; omega
              have VY : Hid _ := VF.out.tk tkY (by decide)
              have RY : Hid _ := RF.out.tk tkY (by decide)
              have NY : Hid _ := NF.out.tk tkY (by decide)
              have HKY : Hid _ := HKF.out.tk tkY (by decide)
              have WY : Hid _ := hWY
              have HTY : Hid (WTurn g (.slice pa s.length pc) w vY wY) := HTF.out.trans ⟨t0, tY.place⟩
              have HSY : Hid (w2.heap.size ≤ wY.heap.size) := by have h1 := VY.out.lt; have h2 := HZ5.out.1; unfold Hid; omega
              have HOY : Hid _ := ho
              obtain ⟨vb, vo, rfl, hvP, hvl, -⟩ := q2j (HOY.out.rd (by have := HLB2.out; omega)) (by have := HLB.out; have := HLB2.out; omega)
              have HVB : Hid ((Value.slice (some ⟨kb, off, none⟩) dn dc).ownBlock ≠ some vb) := fun e => by have h := (HKF.out.row.lt vb e).2; have h2 : wF.heap.size ≤ vb := hvP; omega
              clear hd hy ho hWY tY t0 tkY hvP hvl
              go_simp
              refine hK.out _ _ (by exact hSY) fun hH => ?_; clear hK K
              refine r1L 7 rfl fun K hK => ?_
              · go_simp
                go_at_call 84
                refine Calls.mono (qDx wY w2.heap.size _ dn dc q q2 (Tr.contOf nd fr).2 HKY.out _ vb vo om oc lb (HOY.out.rd (by have := HLB2.out; omega)) HVB.out (by have := HLB.out; have := HLB2.out; omega) HIJ.out.1 HIJ.out.2 (by have := HDN4.out; omega) (by have := HLB.out; have := HLB2.out; omega) HSY.out) ?_
                rintro e wR ⟨ra, rn, rc, rfl, hoR, gr⟩
                have tkR : TK [133] wY wR := TK.grewB HKY.out gr
                have bR : Below w2.heap.size wY wR := HKY.out.base_below HSY.out gr
                have VR : Hid _ := VY.out.tk tkR (by decide)
                have RR : Hid _ := RY.out.tk tkR (by decide)
                have NR : Hid _ := NY.out.tk tkR (by decide)
                have WR : Hid (Wr wR g base vY s2 (.int .u64 (key.toNat : Int)) (.func (.func f) #[] bs)) := WY.out.tk tkR (by decide) (by decide) (by decide)
                have HTR : Hid (WTurn g (.slice pa s.length pc) w vY wR) := HTY.out.low (bR.mono B2.out.size)
                have HOR : Hid (OwnB 133 wR w.heap.size (.slice ra rn rc) (Tr.replaced (Tr.contOf nd fr).2 q q2 lb)) := hoR.mono B2.out.size
                have hSR : wR.cell? ⟨w4.heap.size, 1, none⟩ = some (.slice (some ⟨kb, off, none⟩) dn dc) ∧ wR.cell? ⟨w8.heap.size, 0, none⟩ = some (.slice ja jn jc) ∧ wR.cell? ⟨w8.heap.size, 1, none⟩ = some (.slice la ln lc) := ⟨VR.out.cell (j := 1) rfl, NR.out.cell (j := 0) rfl, NR.out.cell (j := 1) rfl⟩
                have HSR2 : Hid (∀ u u', ((wR.setCell ⟨w1.heap.size, 0, none⟩ u).setCell ⟨w1.heap.size, 1, none⟩ u').cell? ⟨w4.heap.size, 1, none⟩ = some (.slice (some ⟨kb, off, none⟩) dn dc) ∧ ((wR.setCell ⟨w1.heap.size, 0, none⟩ u).setCell ⟨w1.heap.size, 1, none⟩ u').cell? ⟨w8.heap.size, 0, none⟩ = some (.slice ja jn jc) ∧ ((wR.setCell ⟨w1.heap.size, 0, none⟩ u).setCell ⟨w1.heap.size, 1, none⟩ u').cell? ⟨w8.heap.size, 1, none⟩ = some (.slice la ln lc)) := fun u u' => by
                 obtain ⟨w8', hw8', V8', K8'⟩ := RR.out.whole2 u u'
                 rw [hw8']
                 have e1 := K8'.block w4.heap.size (by have := HZ9.out; show w4.heap.size ≠ w1.heap.size; omega)
                 have e2 := K8'.block w8.heap.size (by have := HZ9.out; show w8.heap.size ≠ w1.heap.size; omega)
                 exact ⟨(VR.out.keep e1).cell (j := 1) rfl, (NR.out.keep e2).cell (j := 0) rfl, (NR.out.keep e2).cell (j := 1) rfl⟩
                obtain ⟨g0, g1⟩ := RR.out.two
                have g2 := RR.out.frozen 0
                have g3 := RR.out.frozen 1
                clear hoR gr tkR bR
                go_simp
                refine hK.out _ _ (by exact hSR) fun hH => ?_; clear hK K
                refine tkM 8 _ rfl rfl ?_; simp only [sz, ss]
                refine r1L 9 rfl fun K hK => ?_
                · go_simp
                  refine hK.out _ _ (by exact HSR2.out _ _) fun hH => ?_; clear hK K
                  refine wpAnyH_done (by kernel_rfl) ?_ _
                  clear hH
                  go_wp2
                  exact qDq RR.out _ _ rfl rfl Tryz.underlying111 rfl (by kernel_rfl) (fun w' k' => ChgDone.yes (by rw [← HQ2.out, ← HQ0.out.1]; exact Tr.layR_ok HLy.out _ _ _) rfl ⟨OwnI.nil _ _ _, HOR.out.tk (TK.box RR.out k') (by decide)⟩ (WR.out.tk (TK.box RR.out k') (by decide) (by decide) (by decide)) (HTR.out.low (Kept.belowOf (Below.refl _ _) k' (by have := HZ.out; omega))))
    exact rnL
theorem qZJ {T : List Itm → List Itm} {key : UInt64} {f : Nat} {bs : Array Value} {B : Nat} {J : World → Prop} (hT : qEz T f bs B J) : ∀ d, ChgSaid T key f bs B J d
 | 0 => fun w g base v s hW hJ hB fr p h1 h2 hne => absurd rfl hne
 | d + 1 => by
   intro w g base v s hW hJ hB fr p h1 h2 hne
   rcases hnd : Tr.nodeE s p with x | nd
   · refine absurd ?_ hne
     unfold Tr.nodeE at hnd
     unfold Tr.change Tr.nodeE
     simp only
     split at hnd
     case isTrue => cases hnd
     case isFalse hh => rw [if_neg hh]
   have hok := Tr.nodeE_ok hnd
   by_cases hk : nd.2 = []
   · have e : Tr.change T key (d + 1) s (fr, p) = .ok (s, (T nd.1, [])) := by unfold Tr.change; simp only [hnd]; rw [if_pos hk]
     rw [e]
     exact chg_leaf hT w g base v s hW hJ hB fr p h1 h2 nd hnd hk
   obtain ⟨kid, hkid⟩ : ∃ kid, (Tr.contOf nd fr).2.getD (Lf.way nd key) (0, 0) = kid := ⟨_, rfl⟩
   have hlt := Tr.way_lt fr key hok hk
   have hkp : 1 ≤ kid.2 ∧ kid.2 ≤ 2049 := by
    rw [← hkid, List.getD_eq_getElem?_getD, zw3 hlt]
    exact Tr.contOf_pages fr hok _ (List.getElem_mem hlt)
   have hun : ∀ R, Tr.change T key d s kid = R → Tr.change T key (d + 1) s (fr, p) = (match R with
    | .error e => .error e
    | .ok r => match Tr.mend r.1 (Tr.contOf nd fr).2 (Lf.way nd key) r.2 with
      | .error e => .error e
      | .ok m => Tr.layR r.1 m.1 (Tr.contOf nd fr).2 m.2.1 m.2.2) := by
    intro R hR
    rw [Tr.change]
    simp only [hnd]
    rw [if_neg hk]
    simp only [hkid, hR]
    cases R with
    | error e => rfl
    | ok r => rfl
   rcases hr : Tr.change T key d s kid with x | ⟨s1, now⟩
   · have e := hun _ hr
     simp only at e
     rw [e] at hne ⊢
     exact chg_error hT w g base v s hW hJ hB fr p h1 h2 nd hnd x hk kid hkid (fun W b => by
      have h := qZJ hT d W g base v s (hW.below b) (hT.stay hJ ((WTurn.of (g := g) (v := v) b).under hW hB)) hB kid.1 kid.2 hkp.1 hkp.2 (by rw [hr]; exact hne)
      rw [show ((kid.1, kid.2) : Brn) = kid from rfl, hr] at h
      exact h)
   · have e := hun _ hr
     simp only at e
     have hc := Tr.change_few hT.few d hW.few hr
     have hrec : ∀ W, Below w.heap.size w W → Calls Tryz.prog 68 #[.pointer (some ⟨g, 0, none⟩), .agg #[.int .u64 (kid.1.toNat : Int), .int .i64 kid.2]] W fun e w' => ChgDone (.ok (s1, now)) g base v (.int .u64 (key.toNat : Int)) (.func (.func f) #[] bs) W e w' := fun W b => by
      have h := qZJ hT d W g base v s (hW.below b) (hT.stay hJ ((WTurn.of (g := g) (v := v) b).under hW hB)) hB kid.1 kid.2 hkp.1 hkp.2 (by rw [show ((kid.1, kid.2) : Brn) = kid from rfl, hr]; exact fun h => by cases h)
      rw [show ((kid.1, kid.2) : Brn) = kid from rfl, hr] at h
      exact h
     by_cases h2s : 2 ≤ Tr.csize now
     · rw [show Tr.mend s1 (Tr.contOf nd fr).2 (Lf.way nd key) now = .ok (now, Lf.way nd key, Lf.way nd key + 1) by unfold Tr.mend; rw [if_pos h2s]] at e
       simp only at e
       rw [e]
       exact chg_plain hT w g base v s hW hJ hB fr p h1 h2 nd hnd s1 now hk kid hkid hrec hc.few hc.pages h2s
     · by_cases hf : 0 < Lf.way nd key
       · obtain ⟨I, hI⟩ : ∃ I, Lf.way nd key = I + 1 := ⟨Lf.way nd key - 1, by omega⟩
         obtain ⟨sib, hsib⟩ : ∃ sib, (Tr.contOf nd fr).2.getD I (0, 0) = sib := ⟨_, rfl⟩
         have hm : Tr.mend s1 (Tr.contOf nd fr).2 (Lf.way nd key) now = (match Tr.nodeE s1 sib.2 with
          | .error e => .error e
          | .ok n => .ok (Tr.joined (Tr.contOf n sib.1) now, I, I + 2)) := by
          unfold Tr.mend
          rw [if_neg h2s, if_pos hf, show Lf.way nd key - 1 = I by omega, hsib, hI]
          rfl
         rcases hn2 : Tr.nodeE s1 sib.2 with x | n2
         · exfalso
           rw [hm, hn2] at e
           simp only at e
           have hx : x = 9 := by unfold Tr.nodeE at hn2; split at hn2; cases hn2; cases hn2; rfl
           rw [hx] at e
           exact hne e
         · rw [hm, hn2] at e
           simp only at e
           rw [e]
           exact chg_left hT w g base v s hW hJ hB fr p h1 h2 nd hnd s1 now hk kid hkid hrec hc.few hc.pages h2s I hI sib hsib n2 hn2
       · have h0 : Lf.way nd key = 0 := by omega
         obtain ⟨sib, hsib⟩ : ∃ sib, (Tr.contOf nd fr).2.getD 1 (0, 0) = sib := ⟨_, rfl⟩
         have hm : Tr.mend s1 (Tr.contOf nd fr).2 (Lf.way nd key) now = (match Tr.nodeE s1 sib.2 with
          | .error e => .error e
          | .ok n => .ok (Tr.joined now (Tr.contOf n sib.1), 0, 2)) := by
          unfold Tr.mend
          rw [if_neg h2s, if_neg hf, h0, Nat.zero_add, hsib]
          rfl
         rcases hn2 : Tr.nodeE s1 sib.2 with x | n2
         · exfalso
           rw [hm, hn2] at e
           simp only at e
           have hx : x = 9 := by unfold Tr.nodeE at hn2; split at hn2; cases hn2; cases hn2; rfl
           rw [hx] at e
           exact hne e
         · rw [hm, hn2] at e
           simp only at e
           rw [e]
           exact chg_right hT w g base v s hW hJ hB fr p h1 h2 nd hnd s1 now hk kid hkid hrec hc.few hc.pages h2s h0 sib hsib n2 hn2
theorem qAq {w : World} {p : Addr} {a : Option Addr} {n c : Nat} (h : w.cell? p = some (.slice a n c)) : qGJ w p = n := by
 unfold qGJ
 rw [h]
theorem RootI.stop {k : Nat} {s : Pgs} {cn : Cnt} {g base b : Nat} {v kv tv : Value} {w wr : World} {kj : Nat} {sj : Pgs} {cj : Cnt} {vj : Value} {a a' : Option Addr} {n c n' c' : Nat} (h : RootI k s cn g base b v kv tv w wr kj sj cj vj a a' n c n' c') (hm : ¬ (0 < n ∨ 1 < n')) : Tr.rootOf k s cn = .ok (sj, (cj.2.head?.map (·.2)).getD 0) := by
 have hp := h.fuel.pos
 obtain ⟨j, rfl⟩ : ∃ j, kj = j + 1 := ⟨kj - 1, by omega⟩
 rw [← h.same]
 unfold Tr.rootOf
 rw [if_neg (fun e => hm (e.imp (fun e => by rw [← h.len.1]; exact List.length_pos_iff.2 e) (fun e => by rw [← h.len.2.1]; exact e)))]
theorem RootI.err {k : Nat} {s : Pgs} {cn : Cnt} {g base b : Nat} {v kv tv : Value} {w wr : World} {kj : Nat} {sj : Pgs} {cj : Cnt} {vj : Value} {a a' : Option Addr} {n c n' c' : Nat} (h : RootI k s cn g base b v kv tv w wr kj sj cj vj a a' n c n' c') (hm : cj.1 ≠ [] ∨ 1 < cj.2.length) {x : Int} (hy : Tr.lay sj cj = .error x) : Tr.rootOf k s cn = .error x := by
 have hp := h.fuel.pos
 obtain ⟨j, rfl⟩ : ∃ j, kj = j + 1 := ⟨kj - 1, by omega⟩
 rw [← h.same]
 unfold Tr.rootOf
 rw [if_pos hm]
 simp only [hy]
theorem rootOf_u (w : World) (g base : Nat) (v : Value) (s : Pgs) (kv tv : Value) (hW : Wr w g base v s kv tv) (a a' : Option Addr) (n c n' c' : Nat) (cn : Cnt) (B : Nat) (hC : IsCnt w B (.slice a n c) (.slice a' n' c') cn) (hpg : ∀ b ∈ cn.2, 1 ≤ b.2 ∧ b.2 ≤ 2049) (k : Nat) (hF : Tr.Fuel k cn) (hn : n ≤ 1000) (hn' : n' ≤ 1000) :
 Calls Tryz.prog 52 #[.pointer (some ⟨g, 0, none⟩), .agg #[.slice a n c, .slice a' n' c']] w fun e w' => RootDone k s cn g base v kv tv w e w' := by
 obtain ⟨w1, hw1, V1, b1, z1⟩ := q0q w 111 [.slice a n c, .slice a' n' c']
 have e1 : n = cn.1.length := by obtain ⟨x, y, e, -⟩ := hC.items.slice; simp only [Value.slice.injEq] at e; exact e.2.1
 have e2 : n' = cn.2.length := by obtain ⟨x, y, e, -⟩ := hC.kids.slice; simp only [Value.slice.injEq] at e; exact e.2.1
 have HI0 : Hid (RootI k s cn g base w.heap.size v kv tv w w1 k s cn v a a' n c n' c') := ⟨V1, (hC.below b1).mono (Nat.zero_le _), hW.below b1, WTurn.of b1, rfl, hF, hpg, e1.symm, e2.symm, hn, hn'⟩
 clear hW hC hpg hF V1 b1 z1 e1 e2 hn hn'
 go_enter Tryz.func52, Tryz.ntmps52
 go_wp2
 go_loopw [] (fun wr => ∃ (kj : Nat) (sj : Pgs) (cj : Cnt) (vj : Value) (a a' : Option Addr) (n c n' c' : Nat), Hid (RootI k s cn g base w.heap.size v kv tv w wr kj sj cj vj a a' n c n' c')) (fun wr => 2 * qGJ wr ⟨w.heap.size, 0, none⟩ + qGJ wr ⟨w.heap.size, 1, none⟩)
 case atStart => exact ⟨k, s, cn, v, a, a', n, c, n', c', HI0⟩
 case round =>
  clear HI0 hw1
  obtain ⟨kj, sj, cj, vj, ia, ka, il, ic, kl, kc, HI⟩ := hrel
  obtain ⟨q0, q1⟩ := HI.out.row.two
  have hn : il ≤ 1000 := HI.out.len.2.2.1
  have hn' : kl ≤ 1000 := HI.out.len.2.2.2
  by_cases hm : 0 < il ∨ 1 < kl
  · have HM : Hid (cj.1 ≠ [] ∨ 1 < cj.2.length) := hm.imp (fun e e' => by rw [← HI.out.len.1, e'] at e; cases e) (fun e => by rw [HI.out.len.2.1]; exact e)
    have HR : Hid _ := HI.out.cnt.rd (by rw [HI.out.len.1]; omega) (by rw [HI.out.len.2.1]; omega)
    have hdec : (il : Int) > 0 ∨ (¬ ((il : Int) > 0) ∧ (kl : Int) > 1) := by omega
    have HLY : Hid _ := lay_u wr g base vj sj kv tv HI.out.wr_ _ ia ka il ic kl kc cj.1 cj.2 HR.out.1 HR.out.2 (HI.out.cnt.apartW HI.out.wr_) hn hn' (fun b hb => by have := HI.out.pages b hb; omega)
    clear HR hm
    rcases hdec with hz | ⟨hz, hz'⟩
    · go_wp2_with fail
      go_at_call 67
      refine Calls.mono HLY.out ?_
      rintro e w5 hdone
      rcases hy : Tr.lay sj (cj.1, cj.2) with x | ⟨s5, bs⟩
      · obtain ⟨rfl, t5⟩ := hdone.1 x hy
        exact ⟨rfl, RootDone.no (HI.out.err HM.out hy) (HI.out.turn.trans (WTurn.mk t5 (v' := vj) (fun b e => .inl e))).turn⟩
      obtain ⟨oa, om, oc, v5, rfl, ho, hW5, t5, -⟩ := hdone.2 s5 bs hy
      obtain ⟨R5, hlt, k5, hI5⟩ := HI.out.next (zw0 _) HM.out hy ho hW5 t5
      obtain ⟨p0, p1⟩ := R5.two
      have f0 := R5.frozen 0
      have f1 := R5.frozen 1
      have HI5 : Hid _ := hI5
      have HMs : Hid (2 * qGJ ((w5.setCell ⟨w.heap.size, 0, none⟩ (.slice none 0 0)).setCell ⟨w.heap.size, 1, none⟩ (.slice oa om oc)) ⟨w.heap.size, 0, none⟩ + qGJ ((w5.setCell ⟨w.heap.size, 0, none⟩ (.slice none 0 0)).setCell ⟨w.heap.size, 1, none⟩ (.slice oa om oc)) ⟨w.heap.size, 1, none⟩ < 2 * qGJ wr ⟨w.heap.size, 0, none⟩ + qGJ wr ⟨w.heap.size, 1, none⟩) := by
       unfold Hid
       rw [qAq q0, qAq q1, qAq (hI5.row.cell (j := 0) rfl), qAq (hI5.row.cell (j := 1) rfl)]
       omega
      clear R5 hI5 ho hW5 t5 hdone hlt
      go_wp2
      go_roundw
      case rel => exact ⟨k5, s5, _, v5, _, _, _, _, _, _, HI5⟩
      case measure => exact HMs.out
    · obtain rfl : il = 0 := by omega
      clear hz
      go_wp2_with fail
      go_at_call 67
      refine Calls.mono HLY.out ?_
      rintro e w5 hdone
      rcases hy : Tr.lay sj (cj.1, cj.2) with x | ⟨s5, bs⟩
      · obtain ⟨rfl, t5⟩ := hdone.1 x hy
        exact ⟨rfl, RootDone.no (HI.out.err HM.out hy) (HI.out.turn.trans (WTurn.mk t5 (v' := vj) (fun b e => .inl e))).turn⟩
      obtain ⟨oa, om, oc, v5, rfl, ho, hW5, t5, -⟩ := hdone.2 s5 bs hy
      obtain ⟨R5, hlt, k5, hI5⟩ := HI.out.next (zw0 _) HM.out hy ho hW5 t5
      obtain ⟨p0, p1⟩ := R5.two
      have f0 := R5.frozen 0
      have f1 := R5.frozen 1
      have HI5 : Hid _ := hI5
      have HMs : Hid (2 * qGJ ((w5.setCell ⟨w.heap.size, 0, none⟩ (.slice none 0 0)).setCell ⟨w.heap.size, 1, none⟩ (.slice oa om oc)) ⟨w.heap.size, 0, none⟩ + qGJ ((w5.setCell ⟨w.heap.size, 0, none⟩ (.slice none 0 0)).setCell ⟨w.heap.size, 1, none⟩ (.slice oa om oc)) ⟨w.heap.size, 1, none⟩ < 2 * qGJ wr ⟨w.heap.size, 0, none⟩ + qGJ wr ⟨w.heap.size, 1, none⟩) := by
       unfold Hid
       rw [qAq q0, qAq q1, qAq (hI5.row.cell (j := 0) rfl), qAq (hI5.row.cell (j := 1) rfl)]
       omega
      clear R5 hI5 ho hW5 t5 hdone hlt
      go_wp2
      go_roundw
      case rel => exact ⟨k5, s5, _, v5, _, _, _, _, _, _, HI5⟩
      case measure => exact HMs.out
  · have HS : Hid _ := HI.out.stop hm
    have hz : ¬ ((il : Int) > 0) := by omega
    have hz' : ¬ ((kl : Int) > 1) := by omega
    by_cases h0 : kl = 0
    · subst h0
      have hc : cj.2 = [] := List.length_eq_zero_iff.1 HI.out.len.2.1
      have HS0 : Hid (Tr.rootOf k s cn = .ok (sj, 0)) := by have h := HS.out; rw [hc] at h; exact h
      clear HS hc hm
      go_wp2
      go_ret
      exact RootDone.yes HS0.out rfl HI.out.wr_ HI.out.turn
    · have h1 : kl = 1 := by omega
      obtain ⟨b, off, rfl, -, -, hat⟩ := q2j (HI.out.cnt.rd (by rw [HI.out.len.1]; omega) (by rw [HI.out.len.2.1]; omega)).2 (by omega)
      have hlen : 0 < cj.2.length := by rw [HI.out.len.2.1]; omega
      have hp := (hat 0 hlen).2
      rw [Nat.zero_mul, Nat.add_zero] at hp
      obtain ⟨q, hq⟩ : ∃ q, q = cj.2[0].2 := ⟨_, rfl⟩
      rw [← hq] at hp
      have HS1 : Hid (Tr.rootOf k s cn = .ok (sj, q)) := by
       have h := HS.out
       rw [List.head?_eq_getElem?, zw3 hlen] at h
       rw [hq]
       exact h
      subst h1
      clear HS hat hq hm h0 hlen
      go_wp2
      go_ret
      exact RootDone.yes HS1.out rfl HI.out.wr_ HI.out.turn
theorem turned_u {T : List Itm → List Itm} {key : UInt64} {f : Nat} {bs : Array Value} {B : Nat} {J : World → Prop} (hT : qEz T f bs B J) (d : Nat) (w : World) (g base : Nat) (v : Value) (s : Pgs) (hW : Wr w g base v s (.int .u64 (key.toNat : Int)) (.func (.func f) #[] bs)) (hJ : J w) (hB : B ≤ g ∧ B ≤ base) (root : Int) (h0 : 0 ≤ root) (h1 : root ≤ 2049) (hne : Tr.turned T key s root d ≠ .error 9) :
 Calls Tryz.prog 53 #[.pointer (some ⟨g, 0, none⟩), .int .i64 root] w fun e w' => ChgDone (Tr.turned T key s root d) g base v (.int .u64 (key.toNat : Int)) (.func (.func f) #[] bs) w e w' := by
 obtain ⟨w1, hw1, V1r, b1, z1⟩ := q0q w 111 [.slice none 0 0, .slice none 0 0]
 have HT : Hid _ := hT
 have V1 : Hid _ := V1r
 have B1 : Hid _ := b1
 have W1 : Hid (Wr w1 g base v s (.int .u64 (key.toNat : Int)) (.func (.func f) #[] bs)) := hW.below b1
 have HJ1 : Hid (J w1) := hT.stay hJ ((WTurn.of (g := g) (v := v) b1).under hW hB)
 have HB : Hid (B ≤ g ∧ B ≤ base) := hB
 have HGw : Hid (g < w.heap.size) := hW.row.lt
 by_cases hr : root = 0
 · subst hr
   have e : Tr.turned T key s 0 d = .ok (s, (T [], [])) := if_pos rfl
   rw [e]
   have eg := hT.enters
   have t2 := W1.out.row.cell (j := 2) rfl
   clear e hne hT hW hJ hB V1r b1 h0 h1
   go_enter Tryz.func53, Tryz.ntmps53
   go_wp2_with fail
   go_at_fn f
   refine Calls.mono (HT.out.call HJ1.out (base := w1.heap.size) (by have := HB.out; have := HGw.out; have := B1.out.size; omega) (zw0 _) (OwnI.nil _ _ _) (by simp) rfl) ?_
   rintro e w2 ⟨ra, rn, rc, rfl, ho, gr⟩
   have tk : TK [45] w1 w2 := TK.grewI (OwnI.nil _ _ w1.heap.size) gr
   have bb : Below w1.heap.size w1 w2 := (OwnI.nil 45 w1 w1.heap.size).base_below (zw0 _) gr
   have HC2 : Hid (OwnI 45 w2 w.heap.size (.slice ra rn rc) (T [])) := ho.mono B1.out.size
   have R2 : Hid _ := V1.out.tk tk (by decide)
   have W2 : Hid (Wr w2 g base v s (.int .u64 (key.toNat : Int)) (.func (.func f) #[] bs)) := W1.out.tk tk (by decide) (by decide) (by decide)
   have B2 : Hid _ := on B1.out bb
   obtain ⟨g0, g1⟩ := R2.out.two
   have g2 := R2.out.frozen 0
   have g3 := R2.out.frozen 1
   clear ho gr tk bb
   go_wp2
   exact qDq R2.out _ _ rfl rfl Tryz.underlying111 rfl (by kernel_rfl) (fun w' k' => ChgDone.yes rfl rfl ⟨HC2.out.tk (TK.box R2.out k') (by decide), OwnB.nil _ _ _⟩ (W2.out.tk (TK.box R2.out k') (by decide) (by decide) (by decide)) (WTurn.of (Kept.belowOf B2.out k' (zw0 _))))
 · have e : Tr.turned T key s root d = Tr.change T key d s (0, root) := if_neg hr
   rw [e] at hne ⊢
   have hc := qZJ hT d w1 g base v s W1.out HJ1.out hB 0 root (by omega) h1 hne
   rw [show ((0 : UInt64).toNat : Int) = 0 from rfl] at hc
   have HC : Hid _ := hc
   have hrz : (root == 0) = false := beq_eq_false_iff_ne.2 hr
   clear e hne hT hW hJ hB V1r b1 h0 h1 hc
   generalize Tr.change T key d s (0, root) = R at *
   go_enter Tryz.func53, Tryz.ntmps53
   go_wp2_with fail
   go_at_call 68
   refine Calls.mono HC.out ?_
   rintro e w2 hd
   rcases R with x | ⟨s2, cn⟩
   · obtain ⟨rfl, t2⟩ := hd.1 x rfl
     exact ⟨rfl, ChgDone.no rfl (Turn.trans (Turn.of B1.out) t2)⟩
   · obtain ⟨ca, n, c, da, n', c', v2, rfl, hC2, hW2, t2⟩ := hd.2 s2 cn rfl
     have tk : TK [107, 53] w1 w2 := TK.turn W1.out t2.turn
     have R2 : Hid _ := V1.out.tk tk (by decide)
     have HC2 : Hid (IsCnt w2 w.heap.size (.slice ca n c) (.slice da n' c') cn) := hC2.mono B1.out.size
     have W2 : Hid _ := hW2
     have HT2 : Hid (WTurn g v w v2 w2) := (WTurn.of B1.out).trans t2
     obtain ⟨g0, g1⟩ := R2.out.two
     have g2 := R2.out.frozen 0
     have g3 := R2.out.frozen 1
     clear hd hC2 hW2 t2 tk
     go_wp2
     exact qDq R2.out _ _ rfl rfl Tryz.underlying111 rfl (by kernel_rfl) (fun w' k' => ChgDone.yes rfl rfl (HC2.out.tk (TK.box R2.out k') (by decide) (by decide)) (W2.out.tk (TK.box R2.out k') (by decide) (by decide) (by decide)) (HT2.out.low (Kept.belowOf (Below.refl _ _) k' (zw0 _))))
end Go.Proofs.YtkbmadoaomoojaaGreat
