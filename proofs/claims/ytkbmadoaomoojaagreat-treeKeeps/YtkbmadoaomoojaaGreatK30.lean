/-
  Facts that the proof rests on, part 31. Conditions: those that each of them names.
-/
import Derived.Test.YtkbmadoaomoojaaGreatK05
import Derived.Test.YtkbmadoaomoojaaGreatK07
import Derived.Test.YtkbmadoaomoojaaGreatK08
import Derived.Test.YtkbmadoaomoojaaGreatK10
import Derived.Test.YtkbmadoaomoojaaGreatK22
import Derived.Test.YtkbmadoaomoojaaGreatK28
import Derived.Test.YtkbmadoaomoojaaGreatK29
namespace Go.Proofs.YtkbmadoaomoojaaGreat
set_option maxRecDepth 20000
open Go.RowKit
set_option linter.unusedVariables false
namespace Tr
theorem add_page {s s' : Pgs} {n : Nod} {q : Int} (hl : s.length ≤ 2048) (h : add s n = .ok (s', q)) : (1 ≤ q ∧ q ≤ 2049) ∧ s'.length ≤ 2048 := by
 have hs := slot_le s
 unfold add at h
 split at h
 case isTrue => cases h
 case isFalse h1 =>
  split at h
  case isTrue =>
   cases h
   refine ⟨by omega, ?_⟩
   unfold putAt
   split
   · rw [List.length_set]; exact hl
   · rw [List.length_append]; simp only [List.length_cons, List.length_nil]; omega
  case isFalse => cases h
theorem layG_some {α : Type} {mk : List α → Nod} {fr : List α → UInt64} : ∀ {gl : List (List α)} {s s' : Pgs} {b0 bs : List Brn}, s.length ≤ 2048 → (∀ b ∈ b0, 1 ≤ b.2 ∧ b.2 ≤ 2049) → layG mk fr gl (s, b0) = .ok (s', bs) → bs.length = b0.length + gl.length ∧ (∀ b ∈ bs, 1 ≤ b.2 ∧ b.2 ≤ 2049) ∧ s'.length ≤ 2048
 | [], s, s', b0, bs, hl, hb, h => by
   unfold layG at h
   cases h
   exact ⟨rfl, hb, hl⟩
 | g :: gl, s, s', b0, bs, hl, hb, h => by
   unfold layG at h
   rcases ha : add s (mk g) with x | ⟨s1, q1⟩
   · simp only [ha] at h
     cases h
   · simp only [ha] at h
     have hp := add_page hl ha
     obtain ⟨k1, k2, k3⟩ := layG_some (gl := gl) hp.2 (fun b h' => by
      rcases List.mem_append.1 h' with h' | h'
      · exact hb b h'
      · simp only [List.mem_singleton] at h'
        rw [h']
        exact hp.1) h
     refine ⟨?_, k2, k3⟩
     rw [k1, List.length_append, List.length_cons, List.length_cons, List.length_nil]
     omega
theorem lay_some {s s' : Pgs} {cn : Cnt} {bs : List Brn} (hl : s.length ≤ 2048) (h : lay s cn = .ok (s', bs)) : bs.length = (cn.1.length + 2) / 3 + (cn.2.length + 3) / 4 ∧ (∀ b ∈ bs, 1 ≤ b.2 ∧ b.2 ≤ 2049) ∧ s'.length ≤ 2048 := by
 unfold lay at h
 rcases h1 : layG leafOver keyF (groups 3 cn.1) (s, []) with x | ⟨s1, b1⟩
 · simp only [h1] at h
   cases h
 · simp only [h1] at h
   obtain ⟨k1, k2, k3⟩ := layG_some hl (fun b hb => by cases hb) h1
   obtain ⟨k4, k5, k6⟩ := layG_some k3 k2 h
   refine ⟨?_, k5, k6⟩
   rw [k4, k1]
   unfold groups
   rw [groupsN_length, groupsN_length, List.length_nil]
   omega
structure Fuel (k : Nat) (cn : Cnt) : Prop where
 one : cn.1 = [] ∨ cn.2 = []
 few : csize cn ≤ 3 ^ (k - 1)
 pos : 1 ≤ k
 two : cn.1 ≠ [] → 2 ≤ k
theorem Fuel.next {k : Nat} {s s' : Pgs} {cn : Cnt} {bs : List Brn} (h : Fuel k cn) (hm : cn.1 ≠ [] ∨ 1 < cn.2.length) (hl : s.length ≤ 2048) (hy : lay s cn = .ok (s', bs)) : ∃ k', k = k' + 1 ∧ Fuel k' ([], bs) ∧ bs.length < 2 * cn.1.length + cn.2.length := by
 have hb := (lay_some hl hy).1
 have hf := h.few
 unfold csize at hf
 have h2 : 2 ≤ k := by
  rcases hm with hm | hm
  · exact h.two hm
  · by_cases hk : k = 1
    · rw [hk] at hf
      simp only [Nat.sub_self, Nat.pow_zero] at hf
      omega
    · have := h.pos; omega
 obtain ⟨j, rfl⟩ : ∃ j, k = j + 1 + 1 := ⟨k - 2, by omega⟩
 simp only [Nat.add_sub_cancel, Nat.pow_succ] at hf
 have hp : 1 ≤ 3 ^ j := Nat.one_le_pow _ _ (by decide)
 have hn : cn.1.length = 0 ∨ cn.2.length = 0 := h.one.imp (fun e => by rw [e]; rfl) (fun e => by rw [e]; rfl)
 have hm' : 0 < cn.1.length ∨ 1 < cn.2.length := hm.imp (fun e => List.length_pos_iff.2 e) id
 refine ⟨j + 1, rfl, ⟨.inl rfl, ?_, by omega, fun e => absurd rfl e⟩, ?_⟩
 · show 0 + bs.length ≤ 3 ^ (j + 1 - 1)
   rw [Nat.add_sub_cancel, hb]
   rcases hn with e | e <;> rw [e] <;> rw [e] at hf <;> omega
 · rw [hb]
   omega
end Tr
theorem Wr.notBox {w : World} {g base b : Nat} {v kv tv : Value} {s : Pgs} {xs : List Value} (h : Wr w g base v s kv tv) (hr : Row w b 111 xs) : b ∉ WS g v := fun e => by
 rcases mem_WS.1 e with rfl | e
 · have := h.row.eq
   rw [hr.eq] at this
   cases this
 · obtain ⟨c, z, h4⟩ := h.pgs.typed b e
   rw [hr.eq] at h4
   cases h4
theorem Wr.setBox {w : World} {g base b : Nat} {v kv tv : Value} {s : Pgs} {xs : List Value} (h : Wr w g base v s kv tv) (hr : Row w b 111 xs) (j : Nat) (u : Value) : Wr (w.setCell ⟨b, j, none⟩ u) g base v s kv tv := by
 have hn := h.notBox hr
 refine ⟨h.row.setO (p := ⟨b, j, none⟩) (fun e => hn (mem_WS.2 (.inl e))) u, h.pgs.keep (fun x hx hc => Below.heap_setCell _ _ _ _ (fun e => ?_)), h.few, by have := h.size; simpa [World.setCell] using this⟩
 simp only at e
 subst e
 rcases hc with ⟨c, z, hc⟩ | hc
 · rw [hr.eq] at hc
   cases hc
 · exact hn (mem_WS.2 (.inr hc))
theorem IsCnt.setBox {w : World} {base b : Nat} {u u' : Value} {cn : Cnt} {xs : List Value} (h : IsCnt w base u u' cn) (hr : Row w b 111 xs) (j : Nat) (x : Value) : IsCnt (w.setCell ⟨b, j, none⟩ x) base u u' cn :=
 h.keep1 fun y hy => Below.heap_setCell _ _ _ _ (fun e => by
  simp only at e
  subst e
  rcases hy with e | e
  · obtain ⟨c, z, h1⟩ := h.items.typed y e
    rw [hr.eq] at h1
    cases h1
  · obtain ⟨c, z, h1⟩ := h.kids.typed y e
    rw [hr.eq] at h1
    cases h1)
def RootDone (k : Nat) (s : Pgs) (cn : Cnt) (g base : Nat) (v kv tv : Value) (w : World) (e : Ending) (w' : World) : Prop :=
 (∀ x, Tr.rootOf k s cn = .error x → e = broke x ∧ Turn (WS g v) w w') ∧ (∀ s' q, Tr.rootOf k s cn = .ok (s', q) → e = .returned (.int .i64 q) ∧ ∃ v', Wr w' g base v' s' kv tv ∧ WTurn g v w v' w')
theorem RootDone.no {k : Nat} {s : Pgs} {cn : Cnt} {g base : Nat} {v kv tv : Value} {w w' : World} {x : Int} (h : Tr.rootOf k s cn = .error x) (t : Turn (WS g v) w w') : RootDone k s cn g base v kv tv w (broke x) w' :=
 ⟨(fun y hy => by rw [h] at hy; cases hy; exact ⟨rfl, t⟩), (fun s' q hq => by rw [h] at hq; cases hq)⟩
theorem RootDone.yes {k : Nat} {s s' : Pgs} {cn : Cnt} {g base : Nat} {v kv tv v' : Value} {w w' : World} {q : Int} {e : Ending} (h : Tr.rootOf k s cn = .ok (s', q)) (he : e = .returned (.int .i64 q)) (hW : Wr w' g base v' s' kv tv) (t : WTurn g v w v' w') : RootDone k s cn g base v kv tv w e w' :=
 ⟨(fun y hy => by rw [h] at hy; cases hy), (fun s2 q2 hq => by rw [h] at hq; cases hq; exact ⟨he, v', hW, t⟩)⟩
structure RootI (k : Nat) (s : Pgs) (cn : Cnt) (g base b : Nat) (v kv tv : Value) (w wr : World) (kj : Nat) (sj : Pgs) (cj : Cnt) (vj : Value) (a a' : Option Addr) (n c n' c' : Nat) : Prop where
 row : Row wr b 111 [.slice a n c, .slice a' n' c']
 cnt : IsCnt wr 0 (.slice a n c) (.slice a' n' c') cj
 wr_ : Wr wr g base vj sj kv tv
 turn : WTurn g v w vj wr
 same : Tr.rootOf kj sj cj = Tr.rootOf k s cn
 fuel : Tr.Fuel kj cj
 pages : ∀ b ∈ cj.2, 1 ≤ b.2 ∧ b.2 ≤ 2049
 len : cj.1.length = n ∧ cj.2.length = n' ∧ n ≤ 1000 ∧ n' ≤ 1000
def lenAt (w : World) (p : Addr) : Nat := match w.cell? p with
 | some (.slice _ n _) => n
 | _ => 0
theorem RootI.next {k : Nat} {s : Pgs} {cn : Cnt} {g base b : Nat} {v kv tv : Value} {w wr : World} {kj : Nat} {sj : Pgs} {cj : Cnt} {vj : Value} {a a' : Option Addr} {n c n' c' : Nat} (h : RootI k s cn g base b v kv tv w wr kj sj cj vj a a' n c n' c') (hb : w.heap.size ≤ b) (hm : cj.1 ≠ [] ∨ 1 < cj.2.length)
 {s5 : Pgs} {bs : List Brn} {w5 : World} {v5 : Value} {oa : Option Addr} {on_ oc : Nat} (hy : Tr.lay sj cj = .ok (s5, bs)) (ho : OwnB 133 w5 wr.heap.size (.slice oa on_ oc) bs) (hW : Wr w5 g base v5 s5 kv tv) (t : WTurn g vj wr v5 w5) :
 Row w5 b 111 [.slice a n c, .slice a' n' c'] ∧ on_ < 2 * n + n' ∧ ∃ k5, RootI k s cn g base b v kv tv w ((w5.setCell ⟨b, 0, none⟩ (.slice none 0 0)).setCell ⟨b, 1, none⟩ (.slice oa on_ oc)) k5 s5 ([], bs) v5 none oa 0 0 on_ oc := by
 obtain ⟨k5, rfl, hf, hlt⟩ := h.fuel.next hm h.wr_.few hy
 have R5 : Row w5 b 111 [.slice a n c, .slice a' n' c'] := t.turn.row h.row (h.wr_.notBox h.row)
 have hon : on_ = bs.length := by obtain ⟨x, y, e, -⟩ := ho.slice; simp only [Value.slice.injEq] at e; exact e.2.1
 have R6 := R5.set 0 (.slice none 0 0)
 have hl := (Tr.lay_some h.wr_.few hy)
 obtain ⟨l1, l2, l3, l4⟩ := h.len
 refine ⟨R5, by rw [hon, ← l1, ← l2]; exact hlt, k5, R6.set 1 _, ?_, (hW.setBox R5 0 _).setBox R6 1 _, ⟨(((h.turn.trans t).turn.set (p := ⟨b, 0, none⟩) (.inl hb) _).set (p := ⟨b, 1, none⟩) (.inl hb) _), (h.turn.trans t).place⟩, ?_, hf, hl.2.1, rfl, hon.symm, by omega, ?_⟩
 · exact ((IsCnt.mk (OwnI.nil _ _ _) (ho.mono (Nat.zero_le _)) : IsCnt w5 0 (.slice none 0 0) (.slice oa on_ oc) ([], bs)).setBox R5 0 _).setBox R6 1 _
 · rw [← h.same]
   conv => rhs; unfold Tr.rootOf
   rw [if_pos hm]
   simp only [hy]
 · rw [hon, hl.1]
   omega
namespace Tr
open Lf
def PagesIn (l : List Brn) : Prop := ∀ b ∈ l, 1 ≤ b.2 ∧ b.2 ≤ 2049
theorem contOf_leaf {n : Nod} (fr : UInt64) (h : n.2 = []) : contOf n fr = (n.1, []) := by unfold contOf; rw [if_pos h]
theorem contOf_kids {n : Nod} (fr : UInt64) (h : n.2 ≠ []) : contOf n fr = ([], (fr, n.2.getD 0 0) :: (n.1.zip n.2.tail).map fun z => (z.1.1, z.2)) := by unfold contOf; rw [if_neg h]
theorem contOf_len {n : Nod} (fr : UInt64) (h : Lf.Ok n) (hk : n.2 ≠ []) : (contOf n fr).1 = [] ∧ (contOf n fr).2.length = n.1.length + 1 := by
 rw [contOf_kids fr hk]
 refine ⟨rfl, ?_⟩
 rcases shape h with e | e
 · exact absurd e hk
 · simp [e]
theorem contOf_size {n : Nod} (fr : UInt64) (h : Lf.Ok n) : 1 ≤ csize (contOf n fr) ∧ csize (contOf n fr) ≤ 4 := by
 have h1 := h.some_
 have h2 := h.few
 by_cases hk : n.2 = []
 · rw [contOf_leaf fr hk]; unfold csize; simp only [List.length_nil]; omega
 · obtain ⟨e1, e2⟩ := contOf_len fr h hk
   unfold csize; rw [e1, e2]; simp only [List.length_nil]; omega
theorem contOf_pages {n : Nod} (fr : UInt64) (h : Lf.Ok n) : PagesIn (contOf n fr).2 := by
 intro b hb
 by_cases hk : n.2 = []
 · rw [contOf_leaf fr hk] at hb; cases hb
 · rw [contOf_kids fr hk] at hb
   have hin : b.2 ∈ n.2 := by
    rcases List.mem_cons.1 hb with rfl | hb
    · obtain ⟨k, ks, e⟩ := List.exists_cons_of_ne_nil hk
      rw [e]; simp
    · obtain ⟨z, hz, rfl⟩ := List.mem_map.1 hb
      exact List.mem_of_mem_tail (List.of_mem_zip hz).2
   have := h.pages _ hin
   omega
theorem way_lt {n : Nod} (fr key : UInt64) (h : Lf.Ok n) (hk : n.2 ≠ []) : way n key < (contOf n fr).2.length := by
 rw [(contOf_len fr h hk).2]
 have : way n key ≤ n.1.length := by unfold way; exact List.length_filter_le _ _
 omega
structure Mended (ks : List Brn) (m : Cnt × Nat × Nat) : Prop where
 some_ : 1 ≤ csize m.1
 few : csize m.1 ≤ 6
 pages : PagesIn m.1.2
 lt : m.2.1 < m.2.2
 le : m.2.2 ≤ ks.length
theorem mend_ok {s : Pgs} {ks : List Brn} {first : Nat} {now : Cnt} {m : Cnt × Nat × Nat} (hf : first < ks.length) (h2 : 2 ≤ ks.length) (hs : csize now ≤ 6) (hp : PagesIn now.2) (h : mend s ks first now = .ok m) : Mended ks m := by
 unfold mend at h
 by_cases h1 : 2 ≤ csize now
 · rw [if_pos h1] at h
   cases h
   exact ⟨by show 1 ≤ csize now; omega, hs, hp, by show first < first + 1; omega, hf⟩
 rw [if_neg h1] at h
 by_cases h3 : 0 < first
 · rw [if_pos h3] at h
   rcases hn : nodeE s (ks.getD (first - 1) (0, 0)).2 with x | nd
   · rw [hn] at h; cases h
   · rw [hn] at h
     cases h
     have ho := nodeE_ok hn
     have c1 := contOf_size (ks.getD (first - 1) (0, 0)).1 ho
     unfold csize at c1 h1
     refine ⟨?_, ?_, ?_, ?_, ?_⟩
     · show 1 ≤ csize (joined _ _); unfold csize joined; simp only [List.length_append]; omega
     · show csize (joined _ _) ≤ 6; unfold csize joined; simp only [List.length_append]; omega
     · intro b hb
       rcases List.mem_append.1 hb with hb | hb
       · exact contOf_pages _ ho b hb
       · exact hp b hb
     · show first - 1 < first + 1; omega
     · show first + 1 ≤ ks.length; omega
 · rw [if_neg h3] at h
   rcases hn : nodeE s (ks.getD (first + 1) (0, 0)).2 with x | nd
   · rw [hn] at h; cases h
   · rw [hn] at h
     cases h
     have ho := nodeE_ok hn
     have c1 := contOf_size (ks.getD (first + 1) (0, 0)).1 ho
     unfold csize at c1 h1
     refine ⟨?_, ?_, ?_, ?_, ?_⟩
     · show 1 ≤ csize (joined _ _); unfold csize joined; simp only [List.length_append]; omega
     · show csize (joined _ _) ≤ 6; unfold csize joined; simp only [List.length_append]; omega
     · intro b hb
       rcases List.mem_append.1 hb with hb | hb
       · exact hp b hb
       · exact contOf_pages _ ho b hb
     · show first < first + 1 + 1; omega
     · show first + 1 + 1 ≤ ks.length; omega
structure Chg (s' : Pgs) (cn : Cnt) : Prop where
 few : csize cn ≤ 6
 pages : PagesIn cn.2
 len : s'.length ≤ 2048
 one : cn.1 = [] ∨ cn.2 = []
theorem replaced_len (l m : List Brn) (i j : Nat) (hij : i < j) (hj : j ≤ l.length) : (replaced l i j m).length = l.length + m.length - (j - i) := by
 unfold replaced
 simp only [List.length_append, List.length_take, List.length_drop]
 omega
theorem change_few {T : List Itm → List Itm} {key : UInt64} (hT : ∀ l, l.length ≤ 3 → (T l).length ≤ 4) : ∀ (d : Nat) {s s' : Pgs} {b : Brn} {cn : Cnt}, s.length ≤ 2048 → change T key d s b = .ok (s', cn) → Chg s' cn
 | 0, s, s', b, cn, _, h => by cases h
 | d + 1, s, s', b, cn, hl, h => by
   unfold change at h
   rcases hn : nodeE s b.2 with x | nd
   · rw [hn] at h; cases h
   rw [hn] at h
   have ho := nodeE_ok hn
   simp only at h
   by_cases hk : nd.2 = []
   · rw [if_pos hk] at h
     cases h
     have := hT nd.1 ho.few
     exact ⟨by unfold csize; simp only [List.length_nil]; omega, (fun b hb => by cases hb), hl, .inr rfl⟩
   · rw [if_neg hk] at h
     rcases hr : change T key d s ((contOf nd b.1).2.getD (way nd key) (0, 0)) with x | r
     · rw [hr] at h; cases h
     rw [hr] at h
     simp only at h
     have hc := change_few hT d (s' := r.1) (cn := r.2) hl hr
     rcases hm : mend r.1 (contOf nd b.1).2 (way nd key) r.2 with x | m
     · rw [hm] at h; cases h
     rw [hm] at h
     simp only at h
     obtain ⟨e1, e2⟩ := contOf_len b.1 ho hk
     have h1 := ho.some_
     have h3 := ho.few
     have hM := mend_ok (way_lt b.1 key ho hk) (by omega) hc.few hc.pages hm
     rcases hy : lay r.1 m.1 with x | q
     · rw [hy] at h; cases h
     rw [hy] at h
     cases h
     obtain ⟨l1, l2, l3⟩ := lay_some (s' := q.1) (bs := q.2) hc.len hy
     have f := hM.few
     have lt := hM.lt
     have le := hM.le
     unfold csize at f
     refine ⟨?_, ?_, l3, .inl rfl⟩
     · unfold csize
       rw [replaced_len _ _ _ _ lt le, e2, l1]
       simp only [List.length_nil]
       omega
     · intro x hx
       unfold replaced at hx
       rcases List.mem_append.1 hx with hx | hx
       · rcases List.mem_append.1 hx with hx | hx
         · exact contOf_pages _ ho x (List.mem_of_mem_take hx)
         · exact l2 x hx
       · exact contOf_pages _ ho x (List.mem_of_mem_drop hx)
end Tr
structure Turner (T : List Itm → List Itm) (f : Nat) (bs : Array Value) (B : Nat) (J : World → Prop) : Prop where
 enters : ∀ args w, (callFunc f args).run Tryz.prog w = .ok (.enter f args) w
 few : ∀ l, l.length ≤ 3 → (T l).length ≤ 4
 stay : ∀ {w w' : World}, J w → Below B w w' → J w'
 call : ∀ {w : World} {base : Nat} {a : Option Addr} {n c : Nat} {l : List Itm}, J w → B ≤ base → base ≤ w.heap.size → OwnI 45 w base (.slice a n c) l → l.length ≤ 3 → Lf.rise l = true →
  Calls Tryz.prog f (#[.slice a n c] ++ bs) w fun e w' => ∃ ra rn rc, e = .returned (.slice ra rn rc) ∧ OwnI 45 w' base (.slice ra rn rc) (T l) ∧ Grew w w' (.slice a n c) (.slice ra rn rc)
structure TK (ts : List TypeId) (w w' : World) : Prop where
 size : w.heap.size ≤ w'.heap.size
 keep : ∀ {b : Nat} {c : Array Value} {z : Nat × Nat} {t : TypeId}, w.heap[b]? = some (.cells c t z) → t ∉ ts → w'.heap[b]? = w.heap[b]?
theorem TK.of {w w' : World} (h : Below w.heap.size w w') (ts : List TypeId) : TK ts w w' := ⟨h.size, fun e _ => h.block _ (Array.getElem?_eq_some_iff.1 e).1⟩
theorem TK.trans {ts : List TypeId} {a b c : World} (h : TK ts a b) (k : TK ts b c) : TK ts a c := ⟨Nat.le_trans h.size k.size, fun e hn => (k.keep ((h.keep e hn).trans e) hn).trans (h.keep e hn)⟩
theorem TK.box {w w' : World} {b : Nat} {t : TypeId} {xs : List Value} (hr : Row w b t xs) (k : Kept (· ≠ b) w w') : TK [t] w w' :=
 ⟨k.size, fun e hn => k.block _ (fun e' => by subst e'; rw [hr.eq] at e; cases e; exact hn (by simp))⟩
theorem TK.grewI {w w' : World} {base : Nat} {v v' : Value} {l : List Itm} (h : OwnI 45 w base v l) (k : Grew w w' v v') : TK [45] w w' :=
 ⟨k.grown.size, fun {b} _ _ _ e hn => k.grown.block b (Array.getElem?_eq_some_iff.1 e).1 (fun e' => by obtain ⟨c, z, h1⟩ := h.typed b e'.symm; rw [h1] at e; cases e; exact hn (by simp))⟩
theorem TK.turn {w w' : World} {g base : Nat} {v kv tv : Value} {s : Pgs} (h : Wr w g base v s kv tv) (k : Turn (WS g v) w w') : TK [107, 53] w w' :=
 ⟨k.size, fun {b} _ _ _ e hn => k.block b ⟨(Array.getElem?_eq_some_iff.1 e).1, fun e' => by
  rcases mem_WS.1 e' with rfl | e'
  · rw [h.row.eq] at e; cases e; exact hn (by simp)
  · obtain ⟨c, z, h1⟩ := h.pgs.typed b e'
    rw [h1] at e; cases e; exact hn (by simp)⟩⟩
theorem Row.tk {ts : List TypeId} {w w' : World} {b : Nat} {t : TypeId} {xs : List Value} (h : Row w b t xs) (k : TK ts w w') (hn : t ∉ ts) : Row w' b t xs := h.keep (k.keep h.eq hn)
theorem OwnB.tk {ts : List TypeId} {e : TypeId} {w w' : World} {base : Nat} {v : Value} {l : List Brn} (h : OwnB e w base v l) (k : TK ts w w') (hn : e ∉ ts) : OwnB e w' base v l := h.keep1 fun b hb => by obtain ⟨c, z, h1⟩ := h.typed b hb; exact k.keep h1 hn
theorem OwnI.tk {ts : List TypeId} {e : TypeId} {w w' : World} {base : Nat} {v : Value} {l : List Itm} (h : OwnI e w base v l) (k : TK ts w w') (hn : e ∉ ts) : OwnI e w' base v l := h.keep1 fun b hb => by obtain ⟨c, z, h1⟩ := h.typed b hb; exact k.keep h1 hn
theorem IsCnt.tk {ts : List TypeId} {w w' : World} {base : Nat} {u u' : Value} {cn : Cnt} (h : IsCnt w base u u' cn) (k : TK ts w w') (hn : 45 ∉ ts) (hn' : 133 ∉ ts) : IsCnt w' base u u' cn := ⟨h.items.tk k hn, h.kids.tk k hn'⟩
theorem Wr.tk {ts : List TypeId} {w w' : World} {g base : Nat} {v kv tv : Value} {s : Pgs} (h : Wr w g base v s kv tv) (k : TK ts w w') (h1 : 107 ∉ ts) (h2 : 53 ∉ ts) (h3 : 5 ∉ ts) : Wr w' g base v s kv tv :=
 ⟨h.row.tk k h1, h.pgs.keep (fun b _ hc => by
  rcases hc with ⟨c, z, e⟩ | e
  · exact k.keep e h3
  · obtain ⟨c, z, e⟩ := h.pgs.typed b e
    exact k.keep e h2), h.few, Nat.le_trans h.size k.size⟩
theorem WTurn.low {g : Nat} {v v' : Value} {w w1 w2 : World} (h : WTurn g v w v' w1) (k : Below w.heap.size w1 w2) : WTurn g v w v' w2 :=
 ⟨⟨k.os.trans h.turn.os, k.tape.trans h.turn.tape, k.output.trans h.turn.output, Nat.le_trans h.turn.size k.size, fun b hb => (k.block b hb.1).trans (h.turn.block b hb)⟩, h.place⟩
theorem WTurn.under {w w' : World} {g base B : Nat} {v v' kv tv : Value} {s : Pgs} (h : Wr w g base v s kv tv) (t : WTurn g v w v' w') (hB : B ≤ g ∧ B ≤ base) : Below B w w' :=
 t.turn.below (by have := h.gb; omega) (fun b hb => by
  rcases mem_WS.1 hb with rfl | e
  · exact hB.1
  · have := (h.pgs.lt b e).1; omega)
theorem st_retT {Pr : Program} {fn : Func} {p : Tmp} {ty t : TypeId} {tmps : Array Value} {w2 : World} {b : Nat} {d : TypeDesc} {x0 x1 : Value} (V : Row w2 b t [x0, x1])
 (u0 u1 : Value) (h : fn.results = #[.cell p ty]) (hp : tmps.getD p undef = .pointer (some ⟨b, 0, none⟩))
 (hu : Pr.underlying ty = some d) (hd : d.isRow = true) (hi : (Pr.info? ty).map (·.size) = some 2) {R : Ending → World → Prop}
 (hR : ∀ w', Kept (· ≠ b) w2 w' → R (.returned (.agg #[u0, u1])) w') :
 bodyPost Pr fn R .ret { tmps := tmps, defers := [] } ((w2.setCell ⟨b, 0, none⟩ u0).setCell ⟨b, 1, none⟩ u1) := by
 obtain ⟨w', hw, V', K'⟩ := V.whole2 u0 u1
 rw [hw]
 have hr := results_row (Pr := Pr) (fn := fn) h hp V' hu hd hi
 exact bodyPost_ret hr rfl (hR w' K')
def ChgDone (R : Except Int (Pgs × Cnt)) (g base : Nat) (v kv tv : Value) (w : World) (e : Ending) (w' : World) : Prop :=
 (∀ x, R = .error x → e = broke x ∧ Turn (WS g v) w w') ∧ (∀ s' cn, R = .ok (s', cn) → ∃ ca n c da n' c' v', e = .returned (.agg #[.slice ca n c, .slice da n' c']) ∧ IsCnt w' w.heap.size (.slice ca n c) (.slice da n' c') cn ∧ Wr w' g base v' s' kv tv ∧ WTurn g v w v' w')
theorem ChgDone.no {R : Except Int (Pgs × Cnt)} {g base : Nat} {v kv tv : Value} {w w' : World} {x : Int} (h : R = .error x) (t : Turn (WS g v) w w') : ChgDone R g base v kv tv w (broke x) w' :=
 ⟨(fun y hy => by rw [h] at hy; cases hy; exact ⟨rfl, t⟩), (fun s' q hq => by rw [h] at hq; cases hq)⟩
theorem ChgDone.yes {R : Except Int (Pgs × Cnt)} {g base : Nat} {v kv tv v' : Value} {w w' : World} {s' : Pgs} {cn : Cnt} {e : Ending} {ca da : Option Addr} {n c n' c' : Nat} (h : R = .ok (s', cn)) (he : e = .returned (.agg #[.slice ca n c, .slice da n' c'])) (hC : IsCnt w' w.heap.size (.slice ca n c) (.slice da n' c') cn) (hW : Wr w' g base v' s' kv tv) (t : WTurn g v w v' w') : ChgDone R g base v kv tv w e w' :=
 ⟨(fun y hy => by rw [h] at hy; cases hy), (fun s2 q2 hq => by rw [h] at hq; cases hq; exact ⟨_, _, _, _, _, _, v', he, hC, hW, t⟩)⟩
end Go.Proofs.YtkbmadoaomoojaaGreat
namespace Go.Proofs.YtkbmadoaomoojaaGreat
set_option maxRecDepth 20000
set_option linter.unusedVariables false
namespace Tr
open Oct Crc Lf
theorem mem_pgs {s : Pgs} {d : Nat} (hd : 1 ≤ d) (p : Int) : p ∈ pgs s d p := by
 cases d with
 | zero => omega
 | succ d => unfold pgs; simp
end Tr
namespace Tr
open Oct Crc Lf
def IsRoot (s : Pgs) (l : List Itm) (r : Int) : Prop := l = [] ∧ r = 0 ∨ ∃ d, 1 ≤ d ∧ Fit s d none none r ∧ its s d r = l ∧ (pgs s d r).Nodup
theorem read_root {s : Pgs} {r : Int} (h : readE s r = 0) : s.length ≤ 2048 ∧ IsRoot s (readI s r) r := by
 obtain ⟨h1, h2⟩ := read_zero h
 refine ⟨h1, ?_⟩
 rcases h2 with ⟨rfl, e, -⟩ | ⟨-, d, W, e, -⟩
 · rw [e]; exact .inl ⟨rfl, rfl⟩
 · rw [e]; exact .inr ⟨d, W.pos, W.fit, rfl, W.nodup⟩
end Tr
namespace Tr
open Oct Crc Lf
abbrev Stk := List (Int × Nat)
def nodeAt (s : Pgs) (z : Int × Nat) : Nod := if z.2 = 0 then ([], []) else nod s z.1
def wgt (s : Pgs) (z : Int × Nat) : Nat := if z.2 = 0 then 1 else (pgs s z.2 z.1).length
def heavy (s : Pgs) (L : Stk) : Nat := (L.map (wgt s)).sum
def sits (s : Pgs) (L : Stk) : List Itm := L.flatMap fun z => its s z.2 z.1
def kidsAt (s : Pgs) (z : Int × Nat) : Stk := (nodeAt s z).2.map fun k => (k, z.2 - 1)
def OneOk (s : Pgs) (met : List Int) (z : Int × Nat) : Prop := (z.2 = 0 ∧ z.1 ∉ met) ∨ (1 ≤ z.2 ∧ (∃ lo hi, Fit s z.2 lo hi z.1) ∧ ∀ q ∈ pgs s z.2 z.1, q ∈ met)
theorem sits_append (s : Pgs) (a b : Stk) : sits s (a ++ b) = sits s a ++ sits s b := by unfold sits; rw [List.flatMap_append]
theorem heavy_append (s : Pgs) (a b : Stk) : heavy s (a ++ b) = heavy s a + heavy s b := by unfold heavy; rw [List.map_append, List.sum_append]
theorem OneOk.shape {s : Pgs} {met : List Int} {z : Int × Nat} (h : OneOk s met z) : (nodeAt s z).1.length ≤ 3 ∧ (nodeAt s z).2.length ≤ 4 ∧ rise (nodeAt s z).1 = true ∧ ((nodeAt s z).2 = [] ∨ (nodeAt s z).2.length = (nodeAt s z).1.length + 1) ∧ 1 ≤ wgt s z := by
 rcases h with ⟨h0, -⟩ | ⟨h1, ⟨lo, hi, hF⟩, -⟩
 · unfold nodeAt wgt; rw [if_pos h0, if_pos h0]; exact ⟨by simp, by simp, rfl, .inl rfl, by omega⟩
 · unfold nodeAt wgt; rw [if_neg (by omega), if_neg (by omega)]
   obtain ⟨d, hd⟩ : ∃ d, z.2 = d + 1 := ⟨z.2 - 1, by omega⟩
   rw [hd] at hF ⊢
   have hok := (good_ok hF.2.1).1
   have hk := hok.kids
   have hf := hok.few
   refine ⟨hf, ?_, hok.rises, ?_, ?_⟩
   · rcases hk with k | k
     · have : (nod s z.1).2 = [] := by simpa [Lf.isLeaf] using k
       rw [this]; simp
     · omega
   · rcases hk with k | k
     · exact .inl (by simpa [Lf.isLeaf] using k)
     · exact .inr k
   · unfold pgs; simp
theorem OneOk.met {s : Pgs} {met : List Int} {z : Int × Nat} (h : OneOk s met z) : (z.2 = 0 ∧ z.1 ∉ met ∧ nodeAt s z = ([], [])) ∨ (z.1 ∈ met ∧ nodeAt s z = nod s z.1 ∧ 1 ≤ z.1 ∧ z.1 ≤ s.length) := by
 rcases h with ⟨h0, h1⟩ | ⟨h1, ⟨lo, hi, hF⟩, h3⟩
 · exact .inl ⟨h0, h1, by unfold nodeAt; rw [if_pos h0]⟩
 · exact .inr ⟨h3 _ (mem_pgs h1 _), by unfold nodeAt; rw [if_neg (by omega)], fit_root hF⟩
theorem OneOk.leaf {s : Pgs} {met : List Int} {z : Int × Nat} (h : OneOk s met z) (hk : (nodeAt s z).2 = []) : its s z.2 z.1 = (nodeAt s z).1 := by
 rcases h with ⟨h0, -⟩ | ⟨h1, -, -⟩
 · unfold nodeAt; rw [if_pos h0, h0]; rfl
 · unfold nodeAt at hk ⊢
   rw [if_neg (by omega)] at hk ⊢
   obtain ⟨d, hd⟩ : ∃ d, z.2 = d + 1 := ⟨z.2 - 1, by omega⟩
   rw [hd]
   unfold its
   rw [if_pos hk]
theorem OneOk.kids {s : Pgs} {met : List Int} {z : Int × Nat} (h : OneOk s met z) (hk : (nodeAt s z).2 ≠ []) : (∀ k ∈ kidsAt s z, OneOk s met k) ∧ heavy s (kidsAt s z) + 1 = wgt s z ∧ its s z.2 z.1 = sits s (kidsAt s z) ∧
 (∀ (i : Nat) (hi : i < (kidsAt s z).length), ∀ x ∈ its s (kidsAt s z)[i].2 (kidsAt s z)[i].1, (∀ (h1 : i < (nodeAt s z).1.length), x.1.toNat < (nodeAt s z).1[i].1.toNat) ∧ (∀ (h1 : 0 < i) (h2 : i - 1 < (nodeAt s z).1.length), (nodeAt s z).1[i - 1].1.toNat ≤ x.1.toNat)) := by
 rcases h with ⟨h0, -⟩ | ⟨h1, ⟨lo, hi, hF⟩, h3⟩
 · exact absurd (by unfold nodeAt; rw [if_pos h0]) hk
 · obtain ⟨p, dz⟩ := z
   simp only at h1 hF h3
   obtain ⟨d, rfl⟩ : ∃ d, dz = d + 1 := ⟨dz - 1, by omega⟩
   have hn : nodeAt s (p, d + 1) = nod s p := by unfold nodeAt; rw [if_neg (by omega)]
   rw [hn] at hk
   have hkd : kidsAt s (p, d + 1) = (nod s p).2.map fun k => (k, d) := by unfold kidsAt; rw [hn]; rfl
   obtain ⟨g1, g2, g3⟩ := hF
   have hd0 : d ≠ 0 := fun e => by rw [if_pos e] at g3; exact hk g3
   rw [if_neg hd0] at g3
   have hpg : pgs s (d + 1) p = p :: (nod s p).2.flatMap (pgs s d) := rfl
   rw [hkd]
   refine ⟨fun k hk' => ?_, ?_, ?_, ?_⟩
   · obtain ⟨q, hq, rfl⟩ := List.mem_map.1 hk'
     obtain ⟨i, hi', rfl⟩ := List.getElem_of_mem hq
     refine .inr ⟨by simp only; omega, ⟨_, _, g3.2 i hi'⟩, fun r hr => h3 r ?_⟩
     rw [hpg]
     exact List.mem_cons_of_mem _ (List.mem_flatMap.2 ⟨_, hq, hr⟩)
   · unfold heavy wgt
     rw [if_neg (by simp only; omega)]
     simp only [List.map_map]
     rw [hpg, List.length_cons, List.length_flatMap]
     congr 1
     congr 1
     refine List.map_congr_left fun k hk' => ?_
     simp [hd0]
   · show its s (d + 1) p = _
     unfold its sits
     rw [if_neg hk, List.flatMap_map]
   · intro i hi' x hx
     rw [hn]
     have hi2 : i < (nod s p).2.length := by simpa using hi'
     simp only [List.getElem_map] at hx
     have hb := (fit_up (g3.2 i hi2)).2 x hx
     refine ⟨fun h1 => ?_, fun h1 h2 => ?_⟩
     · have := hb.2
       unfold hiOf at this
       rw [if_pos h1, List.getElem?_eq_getElem h1] at this
       simpa [under] using this
     · have := hb.1
       unfold loOf at this
       rw [if_pos h1, List.getElem?_eq_getElem h2] at this
       simpa [above] using this
theorem sits_none {s : Pgs} {L : Stk} {f : Itm → Bool} (h : ∀ z ∈ L, ∀ x ∈ its s z.2 z.1, f x = false) : (sits s L).filter f = [] := by
 rw [List.filter_eq_nil_iff]
 intro x hx
 obtain ⟨z, hz, hxz⟩ := List.mem_flatMap.1 hx
 rw [h z hz x hxz]
 decide
theorem from_node {s : Pgs} {met : List Int} {z : Int × Nat} (h : OneOk s met z) (hk : (nodeAt s z).2 ≠ []) (key : UInt64) : (its s z.2 z.1).filter (fun x => decide (key.toNat ≤ x.1.toNat)) = (sits s ((kidsAt s z).drop (way (nodeAt s z) key))).filter (fun x => decide (key.toNat ≤ x.1.toNat)) := by
 obtain ⟨-, -, k3, k4⟩ := h.kids hk
 obtain ⟨-, -, hr, -, -⟩ := h.shape
 have w2 := (way_splits hr key).2
 have w1 := (way_splits hr key).1
 rw [k3]
 conv => lhs; rw [← List.take_append_drop (way (nodeAt s z) key) (kidsAt s z)]
 rw [sits_append, List.filter_append, sits_none (L := (kidsAt s z).take _), List.nil_append]
 intro y hy x hx
 obtain ⟨j, hj, rfl⟩ := List.getElem_of_mem hy
 rw [List.length_take] at hj
 rw [List.getElem_take] at hx
 have hjw : j < way (nodeAt s z) key := by omega
 have hjl : j < (nodeAt s z).1.length := by unfold way at hjw; omega
 have h5 := (k4 j (by omega) x hx).1 hjl
 have h6 := (w2 j hjl).1 hjw
 simp only [decide_eq_false_iff_not]
 omega
end Tr
end Go.Proofs.YtkbmadoaomoojaaGreat
namespace Go.Proofs.YtkbmadoaomoojaaGreat
set_option maxRecDepth 20000
open Go.RowKit
set_option linter.unusedVariables false
theorem OwnK.typed {e : TypeId} {w : World} {base : Nat} {v : Value} {l : List Int} (h : OwnK e w base v l) : ∀ b, v.ownBlock = some b → ∃ c z, w.heap[b]? = some (.cells c e z) := fun b hb => by
 rcases h.row.2 with ⟨rfl, h0⟩ | ⟨g, cap, cur, rfl, g1, g2, -⟩
 · cases hb
 · cases hb; exact ⟨_, _, g2⟩
theorem OwnK.tk {ts : List TypeId} {e : TypeId} {w w' : World} {base : Nat} {v : Value} {l : List Int} (h : OwnK e w base v l) (k : TK ts w w') (hn : e ∉ ts) : OwnK e w' base v l := h.keep1 fun b hb => by obtain ⟨c, z, h1⟩ := h.typed b hb; exact k.keep h1 hn
theorem TK.grewK {w w' : World} {base : Nat} {v v' : Value} {l : List Int} (h : OwnK 3 w base v l) (k : Grew w w' v v') : TK [3] w w' :=
 ⟨k.grown.size, fun {b} _ _ _ e hn => k.grown.block b (Array.getElem?_eq_some_iff.1 e).1 (fun e' => by obtain ⟨c, z, h1⟩ := h.typed b e'.symm; rw [h1] at e; cases e; exact hn (by simp))⟩
theorem OwnK.base_below {w w' : World} {base : Nat} {v v' : Value} {l : List Int} (h : OwnK 3 w base v l) (hb : base ≤ w.heap.size) (g : Grew w w' v v') : Below base w w' :=
 ⟨g.grown.os, g.grown.tape, g.grown.output, g.grown.size, fun b hlt => g.grown.block b (by omega) (fun e => by have := (h.row.lt b e.symm).1; omega)⟩
theorem OwnK.less {e : TypeId} {w : World} {base n c : Nat} {a : Option Addr} {l : List Int} {x : Int} (h : OwnK e w base (.slice a (n + 1) c) (l ++ [x])) : OwnK e w base (.slice a n c) l := by
 have hl : l.length = n := by obtain ⟨p, q, e, -⟩ := h.slice; simp only [Value.slice.injEq, List.length_append, List.length_singleton] at e; omega
 refine ⟨⟨by simp [kidCells], ?_⟩, fun y hy => h.ins y (List.mem_append_left _ hy)⟩
 rcases h.row.2 with ⟨e, h0⟩ | ⟨g, cap, cur, e, g1, g2, g3, g4, g5, g6⟩
 · simp at h0
 · simp only [Value.slice.injEq] at e
   obtain ⟨rfl, -, rfl⟩ := e
   refine .inr ⟨g, c, cur, by rw [hl], g1, g2, ?_, g4, g5, ?_⟩
   · rw [List.length_append, List.length_singleton] at g3; omega
   · rw [List.length_append, List.length_singleton, Nat.mul_one] at g6
     have h1 := congrArg (List.take l.length) g6
     rw [List.take_take, Nat.min_eq_left (by omega)] at h1
     rw [Nat.mul_one, h1]
     simp [kidCells]
set_option maxHeartbeats 1000000 in
theorem takeLast_u (w : World) (b base n c : Nat) (a : Option Addr) (l : List Int) (x : Int) (hV : Row w b 25 [.slice a (n + 1) c]) (hO : OwnK 3 w base (.slice a (n + 1) c) (l ++ [x])) (hn : n ≤ 1000000) :
 Calls Tryz.prog 46 #[.pointer (some ⟨b, 0, none⟩)] w fun e w' => e = .returned (.int .i64 x) ∧ Row w' b 25 [.slice a n c] ∧ OwnK 3 w' base (.slice a n c) l ∧ Kept (· ≠ b) w w' := by
 have hl : l.length = n := by obtain ⟨p, q, e, -⟩ := hO.slice; simp only [Value.slice.injEq, List.length_append, List.length_singleton] at e; omega
 have hnc : n + 1 ≤ c := by obtain ⟨p, q, e, h1, -⟩ := hO.slice; simp only [Value.slice.injEq, List.length_append, List.length_singleton] at e h1; omega
 obtain ⟨g, rfl⟩ : ∃ g, a = some ⟨g, 0, none⟩ := by
  rcases hO.row.2 with ⟨e, h0⟩ | ⟨g, c2, cur, e, -⟩
  · simp at h0
  · simp only [Value.slice.injEq] at e
    exact ⟨g, e.1⟩
 have hcell : w.cell? ⟨g, n, none⟩ = some (.int .i64 x) := by
  rcases hO.row.2 with ⟨e, h0⟩ | ⟨g', cap, cur, e, g1, g2, g3, g4, g5, g6⟩
  · cases e
  · simp only [Value.slice.injEq, Option.some.injEq, Addr.mk.injEq, and_true] at e
    obtain ⟨rfl, -, -⟩ := e
    have R : Row w g 3 cur.toList := ⟨by simpa using g2⟩
    refine R.cell ?_
    have h1 : (cur.toList.take ((l ++ [x]).length * 1))[n]? = some (.int .i64 x) := by
     rw [g6]
     simp [kidCells, ← hl]
    rw [List.getElem?_take] at h1
    split at h1
    · exact h1
    · cases h1
 have HV : Hid _ := hV
 have HO2 : Hid (OwnK 3 w base (.slice (some ⟨g, 0, none⟩) n c) l) := hO.less
 have HG : Hid (∀ q, (Value.slice (some ⟨g, 0, none⟩) n c).ownBlock = some q → q ≠ b) := fun q e h => by
  subst h
  obtain ⟨c, z, h1⟩ := HO2.out.typed _ e
  rw [hV.eq] at h1
  cases h1
 have c0 := hV.cell (j := 0) rfl
 have f0 := hV.frozen 0
 have hw1 : IntKind.i64.wrap (((n + 1 : Nat) : Int) - 1) = (n : Int) := by rw [IntKind.wrap_i64]; omega
 have hn0 : (0 : Int) ≤ (n : Int) := Int.natCast_nonneg _
 have hn1 : (n : Int) < ((n + 1 : Nat) : Int) := by omega
 have hn2 : (n : Int) ≤ (c : Int) := by omega
 have hne : ¬ (c = n) := by omega
 obtain ⟨m, hm⟩ : ∃ m, m = n + 1 := ⟨_, rfl⟩
 rw [← hm] at HV c0 hw1 hn1 hnc
 clear hV hO hl hm
 go_enter Tryz.func46, Tryz.ntmps46
 go_wp2
 go_ret
 refine ⟨rfl, HV.out.set 0 _, HO2.out.keep1 (fun q e => Below.heap_setCell _ _ _ _ (HG.out q e)), (Kept.refl _ w).setCell (p := ⟨b, 0, none⟩) (fun h => h rfl) _⟩
structure Seen (w : World) (g gm : Nat) (s : Pgs) (met : List Int) : Prop where
 cell : ∀ W, Below w.heap.size w W → W.cell? ⟨g, 1, none⟩ = some (.map (some gm))
 look : ∀ W, Below w.heap.size w W → ∀ z, Tr.OneOk s met z → ∃ ia il ic ka kl kc, (Instr.lookup 61 (.map (some gm)) (.int .i64 z.1) false).run Tryz.prog W = .ok (.agg #[.slice ia il ic, .slice ka kl kc]) W ∧ rItms.rd W (fun b => b < w.heap.size) [.slice ia il ic] (Tr.nodeAt s z).1 ∧ rKids.rd W (fun b => b < w.heap.size) [.slice ka kl kc] (Tr.nodeAt s z).2
 lt : g < w.heap.size
theorem rItms_none0 (w : World) (N : Nat) : rItms.rd w (fun b => b < N) [.slice none 0 0] [] := rItms.weaken (P := fun b => w.heap.size ≤ b) ((OwnI.nil 45 w w.heap.size).rd (by simp)) (fun b hb hl => absurd hl (by omega))
theorem rKids_none0 (w : World) (N : Nat) : rKids.rd w (fun b => b < N) [.slice none 0 0] [] := rKids.weaken (P := fun b => w.heap.size ≤ b) ((OwnK.nil 3 w w.heap.size).rd (by simp)) (fun b hb hl => absurd hl (by omega))
theorem LWalks.seen {w : World} {g gm : Nat} {P : Nat → Prop} {pa : Option Addr} {pc base : Nat} {s : Pgs} {k : Tr.Lw} {es : List (Int × Value)} (h : LWalks w g gm P pa pc base s k es) : Seen w g gm s k.met where
 cell W b := (h.row.below b).cell (j := 1) rfl
 lt := h.row.lt
 look W b z hz := by
  have hM := h.met.below b
  have hN : (es.map Prod.fst).Nodup := by rw [h.keys]; exact h.nodup
  rcases hz.met with ⟨-, h1, e⟩ | ⟨h1, e, -, -⟩
  · have hno : ∀ y ∈ es, y.1 ≠ z.1 := fun y hy e' => h1 (by rw [← h.keys, ← e']; exact List.mem_map.2 ⟨y, hy, rfl⟩)
    refine ⟨none, 0, 0, none, 0, 0, look_no hM hno false, ?_, ?_⟩
    · rw [e]; exact rItms_none0 W _
    · rw [e]; exact rKids_none0 W _
  · rw [← h.keys] at h1
    obtain ⟨y, hy, e'⟩ := List.mem_map.1 h1
    obtain ⟨ia, il, ic, ka, kl, kc, ev, hI, hK⟩ := h.nodes y hy
    refine ⟨ia, il, ic, ka, kl, kc, ?_, ?_, ?_⟩
    · have := look_yes hM (p := z.1) (v := y.2) (by rw [← e']; exact hy) hN false
      rw [ev] at this
      exact this
    · rw [e, ← e']; exact Rep.below (rItms.weaken hI (fun b _ hl => hl)) b
    · rw [e, ← e']; exact Rep.below (rKids.weaken hK (fun b _ hl => hl)) b
end Go.Proofs.YtkbmadoaomoojaaGreat
