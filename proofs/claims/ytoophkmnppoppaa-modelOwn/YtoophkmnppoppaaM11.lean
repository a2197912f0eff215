/-
  Facts that the proof rests on, part 12. Conditions: those that each of them names.
-/
import Derived.Laws.EntriesVeiled
import Derived.Maps.Own
import Derived.Test.YtoophkmnppoppaaM05
import Derived.Test.YtoophkmnppoppaaM08
import Derived.Test.YtoophkmnppoppaaM10
namespace Go.Proofs.Ytoophkmnppoppaa
set_option maxHeartbeats 16000000
open Go.RowKit
set_option linter.unusedVariables false
def q6z (n : Nat) : List (ByteArray × Value) → List MapEntry
 | [] => []
 | z :: l => { key := .string z.1, val := z.2, born := n } :: q6z (n + 1) l
theorem q9X : ∀ (n : Nat) (l m : List (ByteArray × Value)), q6z n (l ++ m) = q6z n l ++ q6z (n + l.length) m
 | n, [], m => by simp [q6z]
 | n, z :: l, m => by
   simp only [List.cons_append, q6z, List.length_cons]
   rw [q9X (n + 1) l m, show n + 1 + l.length = n + (l.length + 1) by omega]
structure IsSeen (w : World) (b : Nat) (l : List (ByteArray × Value)) : Prop where
 eq : w.heap[b]? = some (.map (q6z 0 l).toArray l.length)
theorem IsSeen.lt {w : World} {b : Nat} {l : List (ByteArray × Value)} (h : IsSeen w b l) : b < w.heap.size := (Array.getElem?_eq_some_iff.1 h.eq).1
theorem IsSeen.keep {w w' : World} {b : Nat} {l : List (ByteArray × Value)} (h : IsSeen w b l) (hk : w'.heap[b]? = w.heap[b]?) : IsSeen w' b l := ⟨hk.trans h.eq⟩
theorem IsSeen.below {w w' : World} {b : Nat} {l : List (ByteArray × Value)} (h : IsSeen w b l) (k : Below w.heap.size w w') : IsSeen w' b l := h.keep (k.block b h.lt)
theorem beqS_same (p : ByteArray) : (p == p) = true := by
 obtain ⟨⟨d⟩⟩ := p
 show ((⟨⟨d⟩⟩ : ByteArray).data == _) = true
 simp
theorem beqS_not {p q : ByteArray} (h : p ≠ q) : (p == q) = false := by
 cases hb : (p == q) with
 | false => rfl
 | true =>
   exfalso
   apply h
   obtain ⟨a⟩ := p
   obtain ⟨b⟩ := q
   have : (a == b) = true := hb
   rw [eq_of_beq this]
theorem seen_no (p : ByteArray) : ∀ (l : List (ByteArray × Value)) (n i : Nat), (∀ z ∈ l, z.1 ≠ p) → Instr.findNow .string (.string p) (q6z n l) i = some none
 | [], n, i, _ => rfl
 | z :: l, n, i, h => by
   have hz := h z (by simp)
   unfold q6z Instr.findNow
   have : Instr.sameNow .string (.string p) (.string z.1) = some false := by
    simp only [Instr.sameNow]
    rw [beqS_not (Ne.symm hz)]
   rw [this]
   exact seen_no p l (n + 1) (i + 1) (fun y hy => h y (by simp [hy]))
theorem seen_yes (p : ByteArray) : ∀ (l : List (ByteArray × Value)) (n i : Nat), (∃ z ∈ l, z.1 = p) → ∃ j v, Instr.findNow .string (.string p) (q6z n l) i = some (some (i + j, v)) ∧ ∃ h : j < l.length, l[j].2 = v
 | [], n, i, h => by obtain ⟨z, hz, -⟩ := h; cases hz
 | z :: l, n, i, h => by
   by_cases hz : z.1 = p
   · refine ⟨0, z.2, ?_, by simp, rfl⟩
     unfold q6z Instr.findNow
     have : Instr.sameNow .string (.string p) (.string z.1) = some true := by
      simp only [Instr.sameNow]
      rw [hz, beqS_same]
     rw [this]
     rfl
   · obtain ⟨y, hy, e⟩ := h
     rcases List.mem_cons.1 hy with rfl | hy
     · exact absurd e hz
     · obtain ⟨j, v, h1, h2, h3⟩ := seen_yes p l (n + 1) (i + 1) ⟨y, hy, e⟩
       refine ⟨j + 1, v, ?_, by simpa using h2, by simpa using h3⟩
       unfold q6z Instr.findNow
       have : Instr.sameNow .string (.string p) (.string z.1) = some false := by
        simp only [Instr.sameNow]
        rw [beqS_not (Ne.symm hz)]
       rw [this]
       rw [show i + (j + 1) = i + 1 + j by omega]
       exact h1
theorem lookS_no {w : World} {b : Nat} {l : List (ByteArray × Value)} (h : IsSeen w b l) {p : ByteArray} (hp : ∀ z ∈ l, z.1 ≠ p) :
 (Instr.lookup 83 (.map (some b)) (.string p) true).run Try.prog w = .ok (.tuple #[.int .i64 0, .bool false]) w := by
 have hf := MapKept.run_findKey (P := Try.prog) (w := w) Try.underlying9 (seen_no p l 0 0 hp)
 have hc : ∀ e : Bool, (Instr.checkKey e 10000 9 (.string p)).run Try.prog w = .ok () w := fun e => MapKept.run_checkKey Try.underlying9 (by simp [MapKept.IsKey]) e 9999
 simp [Instr.lookup, run_underlying Try.underlying83, MapKept.run_getObj_map h.eq, Result.andThen, hc, hf]
theorem lookS_yes {w : World} {b : Nat} {l : List (ByteArray × Value)} (h : IsSeen w b l) {p : ByteArray} (hm : ∃ z ∈ l, z.1 = p) :
 ∃ v, (Instr.lookup 83 (.map (some b)) (.string p) true).run Try.prog w = .ok (.tuple #[v, .bool true]) w ∧ ∃ z ∈ l, z.2 = v := by
 obtain ⟨j, v, h1, h2, h3⟩ := seen_yes p l 0 0 hm
 have hf := MapKept.run_findKey (P := Try.prog) (w := w) Try.underlying9 h1
 have hc : ∀ e : Bool, (Instr.checkKey e 10000 9 (.string p)).run Try.prog w = .ok () w := fun e => MapKept.run_checkKey Try.underlying9 (by simp [MapKept.IsKey]) e 9999
 exact ⟨v, by simp [Instr.lookup, run_underlying Try.underlying83, MapKept.run_getObj_map h.eq, Result.andThen, hc, hf], l[j], List.getElem_mem h2, h3⟩
theorem storeS_new {w : World} {b : Nat} {l : List (ByteArray × Value)} (h : IsSeen w b l) {p : ByteArray} (hp : ∀ z ∈ l, z.1 ≠ p) (v : Value) :
 ∃ w', (Instr.mapUpdate 83 (.map (some b)) (.string p) v).run Try.prog w = .ok () w' ∧ IsSeen w' b (l ++ [(p, v)]) ∧ Kept (· ≠ b) w w' ∧ w'.heap.size = w.heap.size := by
 have hf := MapKept.run_findKey (P := Try.prog) (w := w) Try.underlying9 (seen_no p l 0 0 hp)
 have hc : ∀ e : Bool, (Instr.checkKey e 10000 9 (.string p)).run Try.prog w = .ok () w := fun e => MapKept.run_checkKey Try.underlying9 (by simp [MapKept.IsKey]) e 9999
 refine ⟨{ w with heap := w.heap.setIfInBounds b (.map (q6z 0 (l ++ [(p, v)])).toArray (l ++ [(p, v)]).length) }, ?_, ⟨?_⟩, ⟨rfl, rfl, rfl, by simp, fun k hk => ?_⟩, by simp⟩
 · simp [Instr.mapUpdate, run_underlying Try.underlying83, MapKept.run_getObj_map h.eq, Result.andThen, hc, hf, MapKept.run_setObj_map _ h.eq, q9X, q6z]
 · exact (MapKept.heap_set h.eq).1
 · exact (MapKept.heap_set h.eq).2 k hk
theorem seen_new (w : World) : IsSeen (w.alloc (.map #[] 0)) w.heap.size [] := ⟨(MapKept.heap_alloc w _).1⟩
theorem boxedSeen (w : World) : ∃ w0, w.alloc (.map #[] 0) = w0 ∧ IsSeen w0 w.heap.size [] ∧ Below w.heap.size w w0 ∧ w0.heap.size = w.heap.size + 1 :=
 ⟨_, rfl, seen_new w, (Below.refl _ _).alloc (Nat.le_refl _) _, by simp⟩
theorem seen_any {sl : List (ByteArray × Value)} {nm : ByteArray} : (sl.map (·.1)).any (fun n => decide (n = nm)) = true ↔ ∃ z ∈ sl, z.1 = nm := by
 simp
set_option maxRecDepth 20000 in
theorem check_u (w : World) (P : Nat → Prop) (a b : Option Addr) (n c m d : Nat) (s : Sta) (hS : rSta.rd w P [.slice a n c, .slice b m d, .int .i64 s.2.2] s) :
 Calls Try.prog 16 #[.agg #[.slice a n c, .slice b m d, .int .i64 s.2.2]] w fun e w' => e = .returned (.int .i64 (Mo.checkE s)) ∧ Below w.heap.size w w' := by
 obtain ⟨a', n', c', b', m', d', e, hD, hL, hi⟩ := q0X hS
 simp only [List.cons.injEq, Value.slice.injEq, and_true] at e
 obtain ⟨⟨rfl, rfl, rfl⟩, rfl, rfl, rfl⟩ := e
 obtain ⟨D, l, next⟩ := s
 simp only at hD hL hi ⊢
 have HN : Hid (D.length = n) := (q0Q hD).1
 have HM : Hid (l.length = m) := (q0Q hL).1
 have hm0 : m ≤ 5864062014634 := by have : m * 24 ≤ 140737488351232 := by { have := (q0Q hL).2.2.2; exact Nat.le_trans (Nat.mul_le_mul_left m (by decide)) this }; omega
 obtain ⟨E, hE⟩ : ∃ E, E = Mo.checkE (D, l, next) := ⟨_, rfl⟩
 rw [← hE]
 have HE : Hid (E = if (Mo.okDisk D && decide (l.length ≤ 8) && decide (1 ≤ next) && decide (next ≤ 255) && Mo.okSnaps next 0 [] l) then 0 else 9) := hE
 obtain ⟨w0, hw0, V0, b0, z0⟩ := q0q w 31 [.slice a n c, .slice b m d, .int .i64 next]
 have HV0 : Hid _ := V0
 have B0 : Hid _ := b0
 have HD0 : Hid (rSectors.rd w0 P [.slice a n c] D) := Rep.below hD b0
 have HL0 : Hid (rSnps.rd w0 P [.slice b m d] l) := Rep.below hL b0
 have HZ0 : Hid (w.heap.size < w0.heap.size) := V0.lt
 have c0 := V0.cell (j := 0) rfl
 have c1 := V0.cell (j := 1) rfl
 have c2 := V0.cell (j := 2) rfl
 clear hE hS hD hL V0 b0 z0
 by_cases h1 : next < 1
 · have HR : Hid (9 = E) := by unfold Hid; rw [HE.out, decide_eq_false (show ¬ 1 ≤ next by omega)]; simp
   go_enter Try.func16, Try.ntmps16
   go_wp2
   go_ret
   exact ⟨q0z HR.out, B0.out⟩
 by_cases h2 : 255 < next
 · have HR : Hid (9 = E) := by unfold Hid; rw [HE.out, decide_eq_false (show ¬ next ≤ 255 by omega)]; simp
   go_enter Try.func16, Try.ntmps16
   go_wp2
   go_ret
   exact ⟨q0z HR.out, B0.out⟩
 by_cases h3 : 8 < m
 · have h3z : (8 : Int) < (m : Int) := by omega
   have HR : Hid (9 = E) := by unfold Hid; rw [HE.out, decide_eq_false (show ¬ l.length ≤ 8 by rw [HM.out]; omega)]; simp
   go_enter Try.func16, Try.ntmps16
   go_wp2
   go_ret
   exact ⟨q0z HR.out, B0.out⟩
 have h3z : ¬ (8 : Int) < (m : Int) := by omega
 have HE2 : Hid (E = if (Mo.okDisk D && Mo.okSnaps next 0 [] l) then 0 else 9) := by
  unfold Hid; rw [HE.out, decide_eq_true (show l.length ≤ 8 by rw [HM.out]; omega), decide_eq_true (show 1 ≤ next by omega), decide_eq_true (show next ≤ 255 by omega)]; simp
 clear hm0
 cases hd : Mo.okDisk D with
 | false =>
   have HR : Hid (9 = E) := by unfold Hid; rw [HE2.out, hd]; rfl
   have HK : Hid (Mo.okDisk D = false) := hd
   clear hd
   go_enter Try.func16, Try.ntmps16
   go_wp2_with fail
   go_at_call 35
   refine Calls.mono (qDX _ P a n c D HD0.out false HK.out) ?_
   rintro e w1 ⟨rfl, b1⟩
   have B1 : Hid _ := on B0.out b1
   clear b1
   go_wp2
   go_ret
   exact ⟨q0z HR.out, B1.out⟩
 | true =>
   have HE3 : Hid (E = if Mo.okSnaps next 0 [] l then 0 else 9) := by unfold Hid; rw [HE2.out, hd]; rfl
   have HK : Hid (Mo.okDisk D = true) := hd
   clear hd
   have hmm := @run_makeMap Try.prog
   go_enter Try.func16, Try.ntmps16
   go_wp2_with fail
   go_at_call 35
   refine Calls.mono (qDX _ P a n c D HD0.out true HK.out) ?_
   rintro e w1 ⟨rfl, b1⟩
   have B1 : Hid _ := b1
   obtain ⟨mb, hmb⟩ : ∃ mb, mb = w1.heap.size := ⟨_, rfl⟩
   obtain ⟨w2, hw2, V2, b2, z2⟩ := boxedSeen w1
   have hb2 : Below w0.heap.size w0 w2 := on b1 b2
   have B2 : Hid _ := hb2
   have HV2 : Hid (IsSeen w2 mb []) := by rw [hmb]; exact V2
   have HMB : Hid (w0.heap.size ≤ mb ∧ mb < w2.heap.size) := ⟨by rw [hmb]; exact b1.size, by omega⟩
   have hmb' : w1.heap.size = mb := hmb.symm
   have c1 := (HV0.out.below hb2).cell (j := 1) rfl
   have c2 := (HV0.out.below hb2).cell (j := 2) rfl
   clear b1 b2 V2 hb2 hmb
   go_wp2
   clear c1 c2
   go_loopw [4, 33] (fun lv i wr => ∃ (k : Nat) (last : Int) (sl : List (ByteArray × Value)), k ≤ m ∧ i = .int .i64 k ∧ lv = .int .i64 (last + 1) ∧ Hid (E = if Mo.okSnaps next last (sl.map (·.1)) (l.drop k) then 0 else 9) ∧ Hid (IsSeen wr mb sl) ∧ (0 ≤ last ∧ last < 255) ∧ Below w0.heap.size w0 wr ∧ mb < wr.heap.size) (fun _ i _ => m - (intOf i).toNat)
   case atStart => exact ⟨0, 0, [], Nat.zero_le _, rfl, rfl, HE3.out, HV2.out, by omega, B2.out, HMB.out.2⟩
   case round =>
    obtain ⟨k, last, sl, hk, rfl, rfl, HEk, HSl, hlast, bel, hmw⟩ := hrel
    have B : Hid _ := bel
    have HMw : Hid (mb < wr.heap.size) := hmw
    by_cases hlt : k < m
    · have hkl : k < l.length := by rw [HM.out]; exact hlt
      obtain ⟨g, off, rfl, -, hgl, hat⟩ := q1J (Rep.below HL0.out bel) (by omega)
      obtain ⟨x, xm, xd, hX, -, e0, e1, e2, hid, hs⟩ := hat k hkl
      have HEn : Hid (E = if (Mo.okDisk l[k].2.2 && decide (last < l[k].1) && decide (l[k].1 < next) && Mo.okName l[k].2.1 && !((sl.map (·.1)).any (fun n => decide (n = l[k].2.1))) && Mo.okSnaps next l[k].1 (sl.map (·.1) ++ [l[k].2.1]) (l.drop (k + 1))) then 0 else 9) := by
       have h := HEk.out
       rw [List.drop_eq_getElem_cons hkl] at h
       exact h
      have hkz : (k : Int) < (m : Int) := by omega
      obtain ⟨Y, hY⟩ : ∃ Y, Y = l[k] := ⟨_, rfl⟩
      rw [← hY] at hX e0 e1 hid hs HEn
      obtain ⟨id, nm, dk⟩ := Y
      simp only at hX e0 e1 hid hs HEn
      obtain ⟨w4, hw4, V4, b4, z4⟩ := q0q wr 66 [.int .i64 id, .string nm, .slice x xm xd]
      have HV4 : Hid _ := V4
      have HS4 : Hid (IsSeen w4 mb sl) := HSl.out.below b4
      have B4 : Hid (Below w0.heap.size w0 w4) := on bel b4
      have HX4 : Hid (rSectors.rd w4 P [.slice x xm xd] dk) := Rep.below hX b4
      have HNs : Hid (nm.size ≤ maxLen) := hs
      have d0 := V4.cell (j := 0) rfl
      have d1 := V4.cell (j := 1) rfl
      have d2 := V4.cell (j := 2) rfl
      have c2 := (HV0.out.below (on bel b4)).cell (j := 2) rfl
      have HWr : Hid (wr.heap.size < w4.heap.size ∧ wr.heap.size ≠ mb) := ⟨V4.lt, by omega⟩
      clear hY hX hat V4 b4 bel hs z4 hmw
      by_cases hag : ∃ z ∈ sl, z.1 = nm
      · obtain ⟨v, hlk, -⟩ := lookS_yes HS4.out hag
        have HR : Hid (9 = E) := by unfold Hid; rw [HEn.out, seen_any.2 hag]; simp
        clear hag
        go_wp2
        go_ret
        exact ⟨q0z HR.out, on B0.out B4.out⟩
      have hno : ∀ z ∈ sl, z.1 ≠ nm := fun z hz e => hag ⟨z, hz, e⟩
      have hlk := lookS_no HS4.out hno
      have HNo : Hid (∀ z ∈ sl, z.1 ≠ nm) := hno
      have HE5 : Hid (E = if (Mo.okDisk dk && decide (last < id) && decide (id < next) && Mo.okName nm && Mo.okSnaps next id (sl.map (·.1) ++ [nm]) (l.drop (k + 1))) then 0 else 9) := by
       unfold Hid
       rw [HEn.out, show ((sl.map (·.1)).any (fun n => decide (n = nm))) = false from by rw [Bool.eq_false_iff]; exact fun h => hag (seen_any.1 h)]
       simp
      clear hag hno
      cases hn : Mo.okName nm with
      | false =>
        have HR : Hid (9 = E) := by unfold Hid; rw [HE5.out, hn]; simp
        have HKn : Hid (Mo.okName nm = false) := hn
        clear hn
        go_wp2_with (go_at_call 36; refine Calls.mono (q4J nm HNs.out _ false HKn.out) ?_; rintro e w1 ⟨rfl, rfl⟩)
        go_ret
        exact ⟨q0z HR.out, on B0.out B4.out⟩
      | true =>
      have HKn : Hid (Mo.okName nm = true) := hn
      have HE6 : Hid (E = if (Mo.okDisk dk && decide (last < id) && decide (id < next) && Mo.okSnaps next id (sl.map (·.1) ++ [nm]) (l.drop (k + 1))) then 0 else 9) := by unfold Hid; rw [HE5.out, hn]; simp
      clear hn
      by_cases h4 : id < last + 1
      · have HR : Hid (9 = E) := by unfold Hid; rw [HE6.out, decide_eq_false (show ¬ last < id by omega)]; simp
        go_wp2_with (go_at_call 36; refine Calls.mono (q4J nm HNs.out _ true HKn.out) ?_; rintro e w1 ⟨rfl, rfl⟩)
        go_ret
        exact ⟨q0z HR.out, on B0.out B4.out⟩
      by_cases h5 : next ≤ id
      · have HR : Hid (9 = E) := by unfold Hid; rw [HE6.out, decide_eq_false (show ¬ id < next by omega)]; simp
        go_wp2_with (go_at_call 36; refine Calls.mono (q4J nm HNs.out _ true HKn.out) ?_; rintro e w1 ⟨rfl, rfl⟩)
        go_ret
        exact ⟨q0z HR.out, on B0.out B4.out⟩
      have HE7 : Hid (E = if (Mo.okDisk dk && Mo.okSnaps next id (sl.map (·.1) ++ [nm]) (l.drop (k + 1))) then 0 else 9) := by
       unfold Hid; rw [HE6.out, decide_eq_true (show last < id by omega), decide_eq_true (show id < next by omega)]; simp
      cases hd : Mo.okDisk dk with
      | false =>
        have HR : Hid (9 = E) := by unfold Hid; rw [HE7.out, hd]; rfl
        have HKd : Hid (Mo.okDisk dk = false) := hd
        clear hd
        go_wp2_with (go_at_call 36; refine Calls.mono (q4J nm HNs.out _ true HKn.out) ?_; rintro e w1 ⟨rfl, rfl⟩)
        go_at_call 35
        refine Calls.mono (qDX _ P x xm xd dk HX4.out false HKd.out) ?_
        rintro e w5 ⟨rfl, b5⟩
        have B5 : Hid (Below w.heap.size w w5) := on B0.out (on B4.out b5)
        clear b5
        go_wp2
        go_ret
        exact ⟨q0z HR.out, B5.out⟩
      | true =>
        have HE8 : Hid (E = if Mo.okSnaps next id (sl.map (·.1) ++ [nm]) (l.drop (k + 1)) then 0 else 9) := by unfold Hid; rw [HE7.out, hd]; rfl
        have HKd : Hid (Mo.okDisk dk = true) := hd
        clear hd
        go_wp2_with (go_at_call 36; refine Calls.mono (q4J nm HNs.out _ true HKn.out) ?_; rintro e w1 ⟨rfl, rfl⟩)
        go_at_call 35
        refine Calls.mono (qDX _ P x xm xd dk HX4.out true HKd.out) ?_
        rintro e w5 ⟨rfl, b5⟩
        have V5 := HV4.out.below b5
        obtain ⟨w6, hup, hs6, kp6, z6⟩ := storeS_new (HS4.out.below b5) HNo.out (.int .i64 id)
        have d0' := V5.cell (j := 0) rfl
        have d1' := V5.cell (j := 1) rfl
        have d0'' := kp6.cell (p := ⟨wr.heap.size, 0, none⟩) HWr.out.2 d0'
        have HS6 : Hid (IsSeen w6 mb (sl ++ [(nm, .int .i64 id)])) := hs6
        have HE9 : Hid (E = if Mo.okSnaps next id ((sl ++ [(nm, Value.int .i64 id)]).map (·.1)) (l.drop (k + 1)) then 0 else 9) := by unfold Hid; rw [HE8.out, List.map_append]; rfl
        have B6 : Hid (Below w0.heap.size w0 w6) := Kept.belowOf (on B4.out b5) kp6 HMB.out.1
        have HM6 : Hid (mb < w6.heap.size) := by have h1 := HMw.out; have h2 := HWr.out; have h3 := b5.size; unfold Hid at *; omega
        clear V5 hs6 kp6 b5 d0 d1 d2 c2 e0 e1 e2 hlk
        go_wp2
        go_roundw
        case rel => exact ⟨k + 1, id, _, by omega, by go_num, by first | rfl | go_num, HE9, HS6, by omega, B6.out, HM6.out⟩
        case measure => simp [intOf]; omega
    · obtain rfl : m = k := by omega
      have HR : Hid (0 = E) := by
       have h := HEk.out
       unfold Hid
       rw [List.drop_of_length_le (by rw [HM.out]; exact Nat.le_refl _)] at h
       exact h.symm
      clear bel
      go_wp2
      go_ret
      exact ⟨q0z HR.out, on B0.out B.out⟩
end Go.Proofs.Ytoophkmnppoppaa
