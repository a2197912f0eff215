/-
  Facts that the proof rests on, part 16. Conditions: those that each of them names.
-/
import Derived.Test.YtkbmadoaomoojaaGreatT00
import Derived.Deep.RegionHeld
import Derived.Deep.RegionHeldLaw
import Derived.Deep.RegionWith
import Derived.LoopIn
import Derived.LoopNIn
import Derived.OwnWalkIn
import Derived.RangeFuncBox
import Derived.RangeFuncLeaves
import Derived.RangeFuncNested
import Derived.Shelf.Abstract
import Derived.TacticsInMore
import Derived.WalkKit
import Derived.Test.YtkbmadoaomoojaaGreatT05
import Derived.Test.YtkbmadoaomoojaaGreatT07
import Derived.Test.YtkbmadoaomoojaaGreatT08
import Derived.Test.YtkbmadoaomoojaaGreatT11
import Derived.Test.YtkbmadoaomoojaaGreatT12
import Derived.Test.YtkbmadoaomoojaaGreatT14
namespace Go.Proofs.YtkbmadoaomoojaaGreat
set_option maxHeartbeats 16000000
set_option maxRecDepth 20000
set_option linter.unusedVariables false
open Go
theorem qNZ {P : Program} {l n : Nat} {ops : Array Oper} {Q : Exit → Go.Act → World → Prop} (hd : ∀ (i : Nat) (o : Oper), ops[i]? = some o → ∀ c, o.op ≠ .defer c) (hL : ¬ LetsOut Q) :
 ∀ (idx : List Nat) (a : Go.Act) (w : World), wpOps P ops Q idx a w → wpOpsIn (Fence.wide.inRound l) n P ops Q idx a w
 | [], a, w, h => h
 | i :: rest, a, w, h => by
   have ih := qNZ (P := P) (l := l) (n := n) hd hL rest
   unfold wpOps at h
   unfold wpOpsIn
   cases ho : ops[i]? with
   | none =>
     rw [ho] at h
     exact ih a w h
   | some o =>
     rw [ho] at h
     simp only at h ⊢
     by_cases hw : Region.wanted o (yielded ops a.tmps) = true
     · rw [if_pos hw] at h ⊢
       replace h := h.resolve_right (fun k => hL k.2)
       refine ⟨fun f _ => trivial, ?_⟩
       rw [Oper.semAt_eq _ _ _ (hd i o ho)]
       unfold Oper.wp at h
       generalize (execOp a.eval o).run P w = r at h
       cases r with
       | ok x w' =>
         cases x <;> first | exact ih _ _ h | exact h.elim | skip
         · rename_i f args
           refine ⟨(fun h => by cases h), CallsIn.inRound l ((callsIn_wide (n := n - 1)).2 (Calls.mono h ?_))⟩
           intro e w'' he
           cases e with
           | returned v => exact ih _ _ he
           | panicked ch => exact he
           | outgrown => exact he
         all_goals
          refine ⟨(fun h => by cases h), fun c cs hroom => ?_⟩
          obtain ⟨v, w'', hR, hs⟩ := h c cs
          exact ⟨v, w'', ih _ _ hR, stepsIn_wide.2 hs⟩
       | halt x w' =>
         cases x <;> first | exact h | exact h.elim
     · rw [if_neg hw] at h ⊢
       exact ⟨fun f _ => trivial, ih _ _ h⟩
theorem qDz {P : Program} {l n : Nat} {ops : Array Oper} {Q : Exit → Go.Act → World → Prop} {S : World → Prop} {id : Nat} {a : Go.Act} {w : World} (hd : ∀ (i : Nat) (o : Oper), ops[i]? = some o → ∀ c, o.op ≠ .defer c) (hL : ¬ LetsOut Q) (hm : P.follows .mixedOrders = true) (hS : S w.drew)
 (h : S w.drew → wpAnyH P .any ops Q S ops.size (Array.replicate ops.size false) a w.drew) : (Code.region id ops true).wpIn (Fence.wide.inRound l) n P Q a w :=
 wpIn_region_draw fun t => by
  simp only [Region.schedule, hm, Bool.true_or, if_true]
  exact qNZ hd hL _ _ _ (wpAny_sound ops.size t _ a _ (wpAny_of_held _ _ _ _ (h hS)))
end Go.Proofs.YtkbmadoaomoojaaGreat
namespace Go.Proofs.YtkbmadoaomoojaaGreat
set_option maxHeartbeats 16000000
set_option maxRecDepth 20000
open Go.RowKit
set_option linter.unusedVariables false
theorem rd_take {α : Type} {A : Rep α} {hs : 0 < A.size} {w : World} {P : Nat → Prop} {b off n c k : Nat} {l : List α} (h : (qAQ A hs).rd w P [.slice (some ⟨b, off, none⟩) n c] l) (hk : k ≤ n) : (qAQ A hs).rd w P [.slice (some ⟨b, off, none⟩) k c] (l.take k) := by
 obtain ⟨a', n', c', e, h1, h2, h3, h4, h5⟩ := h
 simp only [List.cons.injEq, Value.slice.injEq, and_true] at e
 obtain ⟨rfl, rfl, rfl⟩ := e
 refine ⟨_, _, _, rfl, by rw [zw4]; omega, by omega, h3, zw1 (Nat.mul_le_mul_right _ hk) h4, fun x hx j hj => ?_⟩
 rw [zw4] at hj
 obtain ⟨p1, cj, p2, p3⟩ := h5 x hx j (by omega)
 exact ⟨p1, cj, by rw [List.getElem_take]; exact p2, p3⟩
theorem rd_drop {α : Type} {A : Rep α} {hs : 0 < A.size} {w : World} {P : Nat → Prop} {b off n c k : Nat} {l : List α} (h : (qAQ A hs).rd w P [.slice (some ⟨b, off, none⟩) n c] l) (hk : k ≤ n) : (qAQ A hs).rd w P [.slice (some ⟨b, off + k * A.size, none⟩) (n - k) (c - k)] (l.drop k) := by
 obtain ⟨a', n', c', e, h1, h2, h3, h4, h5⟩ := h
 simp only [List.cons.injEq, Value.slice.injEq, and_true] at e
 obtain ⟨rfl, rfl, rfl⟩ := e
 refine ⟨_, _, _, rfl, by rw [List.length_drop]; omega, by omega, (fun e => by cases e), zw1 (Nat.mul_le_mul_right _ (by omega)) h4, fun x hx j hj => ?_⟩
 simp only [Option.some.injEq] at hx
 subst hx
 rw [List.length_drop] at hj
 obtain ⟨p1, cj, p2, p3⟩ := h5 _ rfl (k + j) (by omega)
 refine ⟨p1, cj, by rw [List.getElem_drop]; exact p2, fun i v hv => ?_⟩
 have := p3 i v hv
 rw [Addr.add_lit] at this ⊢
 rw [show off + k * A.size + (j * A.size + i) = off + ((k + j) * A.size + i) by rw [Nat.add_mul]; omega]
 exact this
theorem qZq {α : Type} {A : Rep α} {hs : 0 < A.size} (h2 : A.size = 2) {w : World} {P : Nat → Prop} {b : Nat} : ∀ {c off n cap : Nat} {l : List α}, (qAQ A hs).rd w P [.slice (some ⟨b, off, none⟩) n cap] l → ∀ (j : Nat) (args : Array Value), (q6J b c off n cap)[j]? = some args →
 ∃ off' k cap', args = #[.slice (some ⟨b, off', none⟩) k cap'] ∧ ∃ g, (Tr.groupsN c l)[j]? = some g ∧ (qAQ A hs).rd w P [.slice (some ⟨b, off', none⟩) k cap'] g
 | 0, off, n, cap, l, h, j, args, hj => by simp [q6J] at hj
 | c + 1, off, n, cap, l, h, 0, args, hj => by
   have hl : l.length = n := (q0x h).1
   unfold q6J at hj
   simp only [List.getElem?_cons_zero, Option.some.injEq] at hj
   subst hj
   refine ⟨off, _, cap, rfl, _, rfl, ?_⟩
   rw [hl]
   exact rd_take h (gk_le n c)
 | c + 1, off, n, cap, l, h, j + 1, args, hj => by
   have hl : l.length = n := (q0x h).1
   unfold q6J at hj
   simp only [List.getElem?_cons_succ] at hj
   have hd := rd_drop h (gk_le n c)
   rw [h2] at hd
   obtain ⟨off', k, cap', e, g, hg, hr⟩ := qZq h2 hd j args hj
   refine ⟨off', k, cap', e, g, ?_, hr⟩
   unfold Tr.groupsN
   rw [List.getElem?_cons_succ, hl]
   exact hg
theorem q1X {α : Type} : ∀ (c : Nat) (l : List α), (Tr.groupsN c l).length = c
 | 0, _ => rfl
 | c + 1, l => by unfold Tr.groupsN; rw [List.length_cons, q1X c]
theorem qKZ {α : Type} : ∀ {c : Nat} {l : List α}, c ≤ l.length → ∀ g ∈ Tr.groupsN c l, g ≠ []
 | 0, l, _, g, hg => by simp [Tr.groupsN] at hg
 | c + 1, l, h, g, hg => by
   unfold Tr.groupsN at hg
   have hk := gk_left (n := l.length) (c := c) h
   have hk1 : 1 ≤ (l.length + c) / (c + 1) := (Nat.one_le_div_iff (by omega)).2 (by omega)
   rcases List.mem_cons.1 hg with rfl | hg
   · intro e
     have := congrArg List.length e
     rw [zw4] at this
     simp only [List.length_nil] at this
     omega
   · exact qKZ (by rw [List.length_drop]; exact hk) g hg
theorem qHj {α : Type} : ∀ {c : Nat} {l : List α}, ∀ g ∈ Tr.groupsN c l, g.Sublist l
 | 0, l, g, hg => by simp [Tr.groupsN] at hg
 | c + 1, l, g, hg => by
   unfold Tr.groupsN at hg
   rcases List.mem_cons.1 hg with rfl | hg
   · exact List.take_sublist _ _
   · exact (qHj g hg).trans (List.drop_sublist _ _)
theorem groups_le {α : Type} (most : Nat) (l g : List α) (h : g ∈ Tr.groups most l) : g.length ≤ l.length := (qHj g h).length_le
theorem groups_mem {α : Type} (most : Nat) (l g : List α) (h : g ∈ Tr.groups most l) : ∀ b ∈ g, b ∈ l := fun b hb => (qHj g h).subset hb
theorem groupsI_all (bl bm : Nat) {w : World} {P : Nat → Prop} {a : Option Addr} {n c most : Nat} (hm : 1 ≤ most) (hm2 : most ≤ 1000) (hn : n ≤ 1000) {l : List Itm} (h : rItms.rd w P [.slice a n c] l) :
 ∃ encs : List (Array Value), Hands Tryz.prog 101 #[.pointer (some ⟨bl, 0, none⟩), .pointer (some ⟨bm, 0, none⟩)] encs (fun W => W.cell? ⟨bl, 0, none⟩ = some (.slice a n c) ∧ W.cell? ⟨bm, 0, none⟩ = some (.int .i64 (most : Int))) ∧ encs.length = (Tr.groups most l).length ∧
   ∀ (j : Nat) (args : Array Value), encs[j]? = some args → ∃ b off' k cap', args = #[Value.slice (some ⟨b, off', none⟩) k cap'] ∧ ∃ g, (Tr.groups most l)[j]? = some g ∧ g ≠ [] ∧ rItms.rd w P [.slice (some ⟨b, off', none⟩) k cap'] g := by
 obtain ⟨hl, hnc, hnil, -⟩ := q0x h
 by_cases h0 : n = 0
 · subst h0
   refine ⟨[], qSJ bl bm c most a hm hm2, ?_, (fun j args hj => by cases j <;> cases hj)⟩
   unfold Tr.groups
   rw [q1X, hl, Nat.zero_add, Nat.div_eq_of_lt (by omega)]
   rfl
 · obtain ⟨b, off, rfl, -⟩ := qFq h (by omega)
   refine ⟨_, qYJ bl bm b off n c most hm hm2 (by omega) hnc, ?_, fun j args hj => ?_⟩
   · unfold Tr.groups
     rw [q1X, q7Q, hl]
     rfl
   · obtain ⟨off', k, cap', e, g, hg, hr⟩ := qZq rfl h j args hj
     refine ⟨b, off', k, cap', e, g, ?_, ?_, hr⟩
     · unfold Tr.groups
       rw [hl]
       exact hg
     · exact qKZ (by rw [hl]; exact qMX hm) g (List.mem_of_getElem? hg)
theorem groupsB_all (bl bm : Nat) {w : World} {P : Nat → Prop} {a : Option Addr} {n c most : Nat} (hm : 1 ≤ most) (hm2 : most ≤ 1000) (hn : n ≤ 1000) {l : List Brn} (h : rBrns.rd w P [.slice a n c] l) :
 ∃ encs : List (Array Value), Hands Tryz.prog 105 #[.pointer (some ⟨bl, 0, none⟩), .pointer (some ⟨bm, 0, none⟩)] encs (fun W => W.cell? ⟨bl, 0, none⟩ = some (.slice a n c) ∧ W.cell? ⟨bm, 0, none⟩ = some (.int .i64 (most : Int))) ∧ encs.length = (Tr.groups most l).length ∧
   ∀ (j : Nat) (args : Array Value), encs[j]? = some args → ∃ b off' k cap', args = #[Value.slice (some ⟨b, off', none⟩) k cap'] ∧ ∃ g, (Tr.groups most l)[j]? = some g ∧ g ≠ [] ∧ rBrns.rd w P [.slice (some ⟨b, off', none⟩) k cap'] g := by
 obtain ⟨hl, hnc, hnil, -⟩ := q0x h
 by_cases h0 : n = 0
 · subst h0
   refine ⟨[], qSX bl bm c most a hm hm2, ?_, (fun j args hj => by cases j <;> cases hj)⟩
   unfold Tr.groups
   rw [q1X, hl, Nat.zero_add, Nat.div_eq_of_lt (by omega)]
   rfl
 · obtain ⟨b, off, rfl, -⟩ := qFq h (by omega)
   refine ⟨_, qYX bl bm b off n c most hm hm2 (by omega) hnc, ?_, fun j args hj => ?_⟩
   · unfold Tr.groups
     rw [q1X, q7Q, hl]
     rfl
   · obtain ⟨off', k, cap', e, g, hg, hr⟩ := qZq rfl h j args hj
     refine ⟨b, off', k, cap', e, g, ?_, ?_, hr⟩
     · unfold Tr.groups
       rw [hl]
       exact hg
     · exact qKZ (by rw [hl]; exact qMX hm) g (List.mem_of_getElem? hg)
structure LayI (g base ob : Nat) (v kv tv : Value) (wd W : World) (vj : Value) (sj : Pgs) (ov : Value) (bs : List Brn) : Prop where
 wr : Wr W g base vj sj kv tv
 place : ∀ b, vj.ownBlock = some b → v.ownBlock = some b ∨ wd.heap.size ≤ b
 turn : Turn (ob :: WS g v) wd W
 row : Row W ob 109 [ov]
 out : OwnB 133 W wd.heap.size ov bs
 apart : ∀ b, ov.ownBlock = some b → vj.ownBlock ≠ some b
theorem LayI.below {g base ob : Nat} {v kv tv : Value} {wd W W' : World} {vj : Value} {sj : Pgs} {ov : Value} {bs : List Brn} (h : LayI g base ob v kv tv wd W vj sj ov bs) (b : Below W.heap.size W W') : LayI g base ob v kv tv wd W' vj sj ov bs :=
 ⟨h.wr.below b, h.place, h.turn.on b, h.row.below b, h.out.below b, h.apart⟩
theorem OwnB.cells {e : TypeId} {w : World} {base : Nat} {v : Value} {l : List Brn} (h : OwnB e w base v l) : ∀ b, v.ownBlock = some b → CellB w b := fun b hb => by
 rcases h.row.2 with ⟨rfl, h0⟩ | ⟨g, cap, cur, rfl, g1, g2, -⟩
 · cases hb
 · cases hb; exact ⟨_, _, _, g2⟩
theorem CellB.ne {w : World} {b r : Nat} {o : Obj} (h : CellB w b) (hr : w.heap[r]? = some o) (ho : o.isCells = false) : b ≠ r := fun e => by
 obtain ⟨c, t, z, hb⟩ := h
 rw [e, hr] at hb
 cases hb
 cases ho
theorem LayI.put {g base ob : Nat} {v kv tv : Value} {wd W : World} {vj : Value} {sj : Pgs} {ov : Value} {bs : List Brn} (h : LayI g base ob v kv tv wd W vj sj ov bs) {r : Nat} {o : Obj} (o' : Obj) (hd : wd.heap.size ≤ r) (hr : W.heap[r]? = some o) (ho : o.isCells = false) : LayI g base ob v kv tv wd (W.putObj r o') vj sj ov bs := by
 refine ⟨h.wr.put o' hr ho, h.place, ⟨h.turn.os, h.turn.tape, h.turn.output, by have := h.turn.size; simpa [World.putObj] using this, fun b hb => ?_⟩, h.row.keep (World.putObj_heap_other ?_), h.out.keep1 (fun b hb => World.putObj_heap_other ((h.out.cells b hb).ne hr ho)), h.apart⟩
 · exact (World.putObj_heap_other (by have := hb.1; omega)).trans (h.turn.block b hb)
 · exact CellB.ne ⟨_, _, _, h.row.eq⟩ hr ho
theorem LayI.step {g base ob : Nat} {v kv tv : Value} {wd W W' : World} {vj v' : Value} {sj s' : Pgs} {ov : Value} {bs : List Brn} (h : LayI g base ob v kv tv wd W vj sj ov bs) (hob : ob ∉ WS g v) (hod : ob < wd.heap.size) (hgd : g < wd.heap.size) (hW : Wr W' g base v' s' kv tv) (t : WTurn g vj W v' W') : LayI g base ob v kv tv wd W' v' s' ov bs := by
 have hsz : wd.heap.size ≤ W.heap.size := h.turn.size
 have hnew : ∀ b, b < wd.heap.size → b ∉ WS g v → b ∉ WS g vj := fun b hb hn e => by
  rcases mem_WS.1 e with e | e
  · exact hn (mem_WS.2 (.inl e))
  · rcases h.place b e with k | k
    · exact hn (mem_WS.2 (.inr k))
    · omega
 have hov : ∀ b, ov.ownBlock = some b → b ∉ WS g vj := fun b hb e => by
  rcases mem_WS.1 e with e | e
  · have := (h.out.row.lt b hb).1; omega
  · exact h.apart b hb e
 refine ⟨hW, fun b e => (t.place b e).elim (h.place b) (fun k => .inr (zw1 hsz k)), ?_, t.turn.row h.row (hnew ob hod hob), h.out.keep1 (fun b hb => t.turn.block b ⟨(h.out.row.lt b hb).2, hov b hb⟩), fun b hb e => ?_⟩
 · exact ⟨t.turn.os.trans h.turn.os, t.turn.tape.trans h.turn.tape, t.turn.output.trans h.turn.output, zw1 hsz t.turn.size, fun b hb => (t.turn.block b ⟨Nat.lt_of_lt_of_le hb.1 hsz, hnew b hb.1 (fun e => hb.2 (List.mem_cons_of_mem _ e))⟩).trans (h.turn.block b hb)⟩
 · rcases t.place b e with k | k
   · exact h.apart b hb k
   · have := (h.out.row.lt b hb).2; omega
theorem LayI.more {g base ob : Nat} {v kv tv : Value} {wd W W1 W2 : World} {vj : Value} {sj : Pgs} {ov ov' : Value} {bs bs' : List Brn} (h : LayI g base ob v kv tv wd W vj sj ov bs) (hob : ob ∉ WS g v) (hod : ob < wd.heap.size) (hgd : g < wd.heap.size) (b1 : Below W.heap.size W W1)
 (ho : OwnB 133 W2 wd.heap.size ov' bs') (gr : Grew W1 W2 ov ov') : LayI g base ob v kv tv wd (W2.setCell ⟨ob, 0, none⟩ ov') vj sj ov' bs' := by
 have hsz : wd.heap.size ≤ W.heap.size := h.turn.size
 have h1 := h.below b1
 have hk : ∀ b, b < W1.heap.size → ov.ownBlock ≠ some b → b ≠ ob → (W2.setCell ⟨ob, 0, none⟩ ov').heap[b]? = W1.heap[b]? := fun b hb hn hne => (Below.heap_setCell _ _ _ _ (by exact hne)).trans (gr.grown.block b hb (fun e => hn e.symm))
 have hobW : ov.ownBlock ≠ some ob := fun e => by have := (h.out.row.lt ob e).1; omega
 have hgo : g ≠ ob := fun e => hob (mem_WS.2 (.inl e.symm))
 have hgv : ov.ownBlock ≠ some g := fun e => by have := (h.out.row.lt g e).1; omega
 have hvo : ∀ b, vj.ownBlock = some b → b ≠ ob := fun b hb e => by
  rcases h.place b hb with k | k
  · exact hob (mem_WS.2 (.inr (e ▸ k)))
  · omega
 refine ⟨⟨h1.wr.row.keep (hk g h1.wr.row.lt hgv hgo), ?_, h1.wr.few, ?_⟩, h.place, ?_, ?_, ho.keep1 (fun b hb => Below.heap_setCell _ _ _ _ ?_), fun b hb e => ?_⟩
 · refine h1.wr.pgs.keep (fun b hb hc => hk b (h1.wr.pgs.lt2 hc) (fun e => ?_) (fun e => ?_))
   · rcases hc with hc | hc
     · obtain ⟨c1, z1, e1⟩ := hc
       rcases h1.out.row.2 with ⟨e0, -⟩ | ⟨g2, cap, cur, e0, -, e2, -⟩
       · rw [e0] at e; cases e
       · rw [e0] at e
         cases e
         rw [e2] at e1
         cases e1
     · exact h.apart b e hc
   · rcases hc with hc | hc
     · obtain ⟨c1, z1, e1⟩ := hc
       have := h1.row.eq
       rw [← e, e1] at this
       cases this
     · exact hvo b hc e
 · have := h1.wr.size; have := gr.grown.size; simp [World.setCell]; omega
 · refine Turn.set (p := ⟨ob, 0, none⟩) ?_ (.inr (by simp)) _
   exact ⟨gr.grown.os.trans h1.turn.os, gr.grown.tape.trans h1.turn.tape, gr.grown.output.trans h1.turn.output, zw1 h1.turn.size gr.grown.size, fun b hb => (gr.grown.block b (Nat.lt_of_lt_of_le hb.1 h1.turn.size) (fun e => by have := (h.out.row.lt b e.symm).1; have := hb.1; omega)).trans (h1.turn.block b hb)⟩
 · exact (h1.row.grew gr hobW).set 0 _
 · intro e
   have := (ho.row.lt b hb).1
   simp only at e
   omega
 · rcases gr.place b hb with k | k
   · exact h.apart b k e
   · have := (h1.wr.pgs.lt b e).2; omega
def Nc (w w' : World) : Prop := ∀ (r : Nat) (o : Obj), w.heap[r]? = some o → o.isCells = false → w'.heap[r]? = some o
theorem Nc.trans {a b c : World} (h : Nc a b) (k : Nc b c) : Nc a c := fun r o hr ho => k r o (h r o hr ho) ho
theorem Nc.below {w w' : World} (h : Below w.heap.size w w') : Nc w w' := fun r o hr _ => (h.block r (Array.getElem?_eq_some_iff.1 hr).1).trans hr
theorem Nc.turn {S : List Nat} {w w' : World} (t : Turn S w w') (hS : ∀ b ∈ S, CellB w b) : Nc w w' := fun r o hr ho =>
 (t.block r ⟨(Array.getElem?_eq_some_iff.1 hr).1, fun e => (hS r e).ne hr ho rfl⟩).trans hr
theorem Wr.cellsS {w : World} {g base : Nat} {v : Value} {s : Pgs} {kv tv : Value} (h : Wr w g base v s kv tv) : ∀ b ∈ WS g v, CellB w b := fun b hb => by
 rcases mem_WS.1 hb with rfl | e
 · exact ⟨_, _, _, h.row.eq⟩
 · exact h.pgs.cells b e
theorem Nc.grew {e : TypeId} {w w' : World} {base : Nat} {v v' : Value} {l : List Brn} (h : OwnB e w base v l) (gr : Grew w w' v v') : Nc w w' := fun r o hr ho =>
 (gr.grown.block r (Array.getElem?_eq_some_iff.1 hr).1 (fun e => (h.cells r e.symm).ne hr ho rfl)).trans hr
theorem Nc.set {w : World} {p : Addr} (h : CellB w p.block) (u : Value) : Nc w (w.setCell p u) := fun r o hr ho =>
 (Below.heap_setCell _ _ _ _ (fun e => h.ne hr ho e.symm)).trans hr
theorem LayI.turnW {g base ob : Nat} {v kv tv : Value} {wd W W' : World} {vj : Value} {sj : Pgs} {ov : Value} {bs : List Brn} (h : LayI g base ob v kv tv wd W vj sj ov bs) (t : Turn (WS g vj) W W') : Turn (ob :: WS g v) wd W' := by
 have hsz : wd.heap.size ≤ W.heap.size := h.turn.size
 refine ⟨t.os.trans h.turn.os, t.tape.trans h.turn.tape, t.output.trans h.turn.output, zw1 hsz t.size, fun b hb => (t.block b ⟨Nat.lt_of_lt_of_le hb.1 hsz, fun e => ?_⟩).trans (h.turn.block b hb)⟩
 rcases mem_WS.1 e with e | e
 · exact hb.2 (List.mem_cons_of_mem _ (mem_WS.2 (.inl e)))
 · rcases h.place b e with k | k
   · exact hb.2 (List.mem_cons_of_mem _ (mem_WS.2 (.inr k)))
   · have := hb.1; omega
def LayJ {α : Type} (mk : List α → Nod) (fr : List α → UInt64) (gl : List (List α)) (g base ob : Nat) (v kv tv : Value) (wd : World) (s : Pgs) (b0 : List Brn) (j : Nat) (W : World) : Prop :=
 ∃ vj sj ov bs, Tr.layG mk fr (gl.drop j) (sj, bs) = Tr.layG mk fr gl (s, b0) ∧ bs.length = b0.length + j ∧ LayI g base ob v kv tv wd W vj sj ov bs
def LayX {α : Type} (mk : List α → Nod) (fr : List α → UInt64) (gl : List (List α)) (g ob : Nat) (v : Value) (wd : World) (s : Pgs) (b0 : List Brn) (ch : List PanicEntry) (W : World) : Prop :=
 ∃ x, Ending.panicked ch = q9Q x ∧ Tr.layG mk fr gl (s, b0) = .error x ∧ Turn (ob :: WS g v) wd W
theorem LayJ.round {α : Type} {mk : List α → Nod} {fr : List α → UInt64} {gl : List (List α)} {g base ob : Nat} {v kv tv : Value} {wd : World} {s : Pgs} {b0 : List Brn} {j : Nat} {W : World} (h : LayJ mk fr gl g base ob v kv tv wd s b0 j W) {gj : List α} (hg : gl[j]? = some gj) :
 ∃ vj sj oa oc bs, bs.length = b0.length + j ∧ LayI g base ob v kv tv wd W vj sj (.slice oa bs.length oc) bs ∧ (∀ x, Tr.add sj (mk gj) = .error x → ∀ ch W', Ending.panicked ch = q9Q x → Turn (WS g vj) W W' → LayX mk fr gl g ob v wd s b0 ch W') ∧
   (∀ s5 q5, Tr.add sj (mk gj) = .ok (s5, q5) → ∀ W' v5 ov5, LayI g base ob v kv tv wd W' v5 s5 ov5 (bs ++ [(fr gj, q5)]) → LayJ mk fr gl g base ob v kv tv wd s b0 (j + 1) W') := by
 obtain ⟨vj, sj, ov, bs, hst, hlen, hLI⟩ := h
 obtain ⟨hlt, hgj⟩ := List.getElem?_eq_some_iff.1 hg
 have hd : gl.drop j = gj :: gl.drop (j + 1) := by rw [List.drop_eq_getElem_cons hlt, hgj]
 rw [hd] at hst
 obtain ⟨oa, oc, rfl, -⟩ := hLI.out.slice
 refine ⟨vj, sj, oa, oc, bs, hlen, hLI, fun x hx ch W' hch t => ⟨x, hch, ?_, hLI.turnW t⟩, fun s5 q5 hq W' v5 ov5 hL => ⟨v5, s5, ov5, _, ?_, by rw [zw2, hlen]; rfl, hL⟩⟩
 · rw [← hst]
   unfold Tr.layG
   simp only [hx]
 · rw [← hst]
   conv => rhs; unfold Tr.layG
   simp only [hq]
theorem LayI.fin {g base ob : Nat} {v kv tv : Value} {wd W w5 : World} {vj v5 : Value} {sj s5 : Pgs} {ov : Value} {bs : List Brn} (h : LayI g base ob v kv tv wd W vj sj ov bs) (hob : ob ∉ WS g v) (hod : ob < wd.heap.size) (hgd : g < wd.heap.size) (hl : bs.length ≤ 10000) (hW : Wr w5 g base v5 s5 kv tv) (t : WTurn g vj W v5 w5) (x : Brn) :
 ∃ a6 n6 c6 w6, (Builtin.append_ #[109, 109] 109 #[ov, .slice (some ⟨w5.heap.size, 0, none⟩) 1 1]).run Tryz.prog (w5.alloc (.cells #[.int .u64 (x.1.toNat : Int), .int .i64 x.2] 133)) = .ok (.slice a6 n6 c6) w6 ∧
   LayI g base ob v kv tv wd (w6.setCell ⟨ob, 0, none⟩ (.slice a6 n6 c6)) v5 s5 (.slice a6 n6 c6) (bs ++ [x]) ∧ Nc W (w6.setCell ⟨ob, 0, none⟩ (.slice a6 n6 c6)) ∧ w6.frozen? ⟨ob, 0, none⟩ = false ∧ w6.cell? ⟨ob, 0, none⟩ = some ov ∧ Turn (ob :: WS g v) wd w6 := by
 have h5 := h.step hob hod hgd hW t
 obtain ⟨v6, w6, hr, ho, gr⟩ := qFZ h5.out x (by omega) h5.turn.size 109
 have b1 : Below w5.heap.size w5 (w5.alloc (.cells #[.int .u64 (x.1.toNat : Int), .int .i64 x.2] 133)) := (Below.refl _ _).alloc (zw0 _) _
 obtain ⟨a6, c6, rfl, -⟩ := ho.slice
 have R6 : Row w6 ob 109 [ov] := (h5.row.below b1).grew gr (fun e => by have := (h5.out.row.lt ob e).1; omega)
 refine ⟨a6, _, c6, w6, hr, h5.more hob hod hgd b1 ho gr, ?_, R6.frozen 0, R6.cell (j := 0) rfl, ?_⟩
 · exact (((Nc.turn t.turn h.wr.cellsS).trans (Nc.below b1)).trans (Nc.grew (h5.out.below b1) gr)).trans (Nc.set (p := ⟨ob, 0, none⟩) ⟨_, _, _, R6.eq⟩ _)
 · have t1 := h5.turn.on b1
   exact ⟨gr.grown.os.trans t1.os, gr.grown.tape.trans t1.tape, gr.grown.output.trans t1.output, zw1 t1.size gr.grown.size, fun b hb => (gr.grown.block b (Nat.lt_of_lt_of_le hb.1 t1.size) (fun e => by have := (h.out.row.lt b e.symm).1; have := hb.1; omega)).trans (t1.block b hb)⟩
theorem Turn.cell {S : List Nat} {w w' : World} (t : Turn S w w') {p : Addr} {u : Value} (h : w.cell? p = some u) (hb : p.block < w.heap.size) (hn : p.block ∉ S) : w'.cell? p = some u := by
 unfold World.cell? at h ⊢
 rw [t.block _ ⟨hb, hn⟩]
 exact h
theorem rKids_nil (w : World) (P : Nat → Prop) : rKids.rd w P [.slice none 0 0] [] :=
 ⟨none, 0, 0, rfl, rfl, zw0 _, (fun _ => rfl), by simp, (fun x h => by cases h)⟩
theorem qYj {g ob : Nat} {v : Value} {w wc W : World} (h : Turn (ob :: WS g v) wc W) (hB : Below w.heap.size w wc) (hob : w.heap.size ≤ ob) : Turn (WS g v) w W :=
 ⟨h.os.trans hB.os, h.tape.trans hB.tape, h.output.trans hB.output, zw1 hB.size h.size, fun b hb => (h.block b ⟨Nat.lt_of_lt_of_le hb.1 hB.size, fun e => by
  rcases List.mem_cons.1 e with e | e
  · have := hb.1; omega
  · exact hb.2 e⟩).trans (hB.block b hb.1)⟩
theorem Turn.putN {S : List Nat} {w W : World} (h : Turn S w W) {r : Nat} (hr : w.heap.size ≤ r) (o : Obj) : Turn S w (W.putObj r o) :=
 ⟨h.os, h.tape, h.output, by have := h.size; simpa [World.putObj] using this, fun b hb => (World.putObj_heap_other (by have := hb.1; omega)).trans (h.block b hb)⟩
theorem LayI.done {g base ob : Nat} {v kv tv : Value} {w wc W : World} {v2 : Value} {s2 : Pgs} {ov : Value} {bs : List Brn} (h : LayI g base ob v kv tv wc W v2 s2 ov bs) (hB : Below w.heap.size w wc) (hob : w.heap.size ≤ ob) (hg : g < wc.heap.size) :
 OwnB 133 W w.heap.size ov bs ∧ Wr W g base v2 s2 kv tv ∧ WTurn g v w v2 W ∧ ∀ b, ov.ownBlock = some b → b ∉ WS g v2 := by
 refine ⟨h.out.mono hB.size, h.wr, ⟨qYj h.turn hB hob, fun b e => (h.place b e).imp id (fun k => zw1 hB.size k)⟩, fun b hb e => ?_⟩
 rcases mem_WS.1 e with e | e
 · have := (h.out.row.lt b hb).1; omega
 · exact h.apart b hb e
def plainOp : Op → Bool
 | .defer _ => false
 | _ => true
theorem plain_ops {ops : Array Oper} (h : ops.all (fun o => plainOp o.op) = true) : ∀ (i : Nat) (o : Oper), ops[i]? = some o → ∀ c, o.op ≠ .defer c := fun i o ho c e => by
 obtain ⟨hi, ho⟩ := Array.getElem?_eq_some_iff.1 ho
 have := (Array.all_eq_true.1 h) i hi
 rw [ho, e] at this
 cases this
namespace Tr
def contL (l : List Itm) (ks : List Int) (fr : UInt64) (j : Nat) : List Brn := (fr, ks.getD 0 0) :: ((l.zip ks.tail).map fun z => (z.1.1, z.2)).take j
theorem contL_zero (l : List Itm) (ks : List Int) (fr : UInt64) : contL l ks fr 0 = [(fr, ks.getD 0 0)] := rfl
theorem contL_next {l : List Itm} {ks : List Int} (fr : UInt64) {j : Nat} (h : j < l.length) (h' : ks.length = l.length + 1) : contL l ks fr (j + 1) = contL l ks fr j ++ [(l[j].1, ks[j + 1]'(by omega))] := by
 unfold contL
 rw [List.take_succ_eq_append_getElem (by simp; omega)]
 simp
theorem contL_all {l : List Itm} {ks : List Int} (fr : UInt64) (h' : ks.length = l.length + 1) : contL l ks fr l.length = (contOf (l, ks) fr).2 := by
 unfold contL contOf
 rw [if_neg (by intro e; simp only at e; rw [e] at h'; simp at h'), List.take_of_length_le (by simp; omega)]
theorem contL_length {l : List Itm} {ks : List Int} (fr : UInt64) {j : Nat} : (contL l ks fr j).length ≤ j + 1 := by
 unfold contL
 simp
 omega
end Tr
theorem qTq (w : World) (a a' : Option Addr) (n c c' : Nat) (fr : UInt64) :
 Calls Tryz.prog 80 #[.agg #[.slice a n c, .slice a' 0 c'], .int .u64 (fr.toNat : Int)] w fun e w' => e = .returned (.agg #[.slice a n c, .slice none 0 0]) ∧ Below w.heap.size w w' := by
 obtain ⟨w0, hw0, V0, b0, z0⟩ := q0q w 63 [.slice a n c, .slice a' 0 c']
 obtain ⟨w1, hw1, V1, b1, z1⟩ := q0q w0 111 [.slice none 0 0, .slice none 0 0]
 obtain ⟨r0, r1⟩ := (V0.below b1).two
 have B1 : Hid (Below w.heap.size w w1) := on b0 b1
 have HV0 : Hid _ := V0.below b1
 have HV1 : Hid _ := V1
 have HZ : Hid (w.heap.size < w0.heap.size) := by unfold Hid; omega
 clear V0 V1 b0 b1 z0 z1
 go_enter Tryz.func80, Tryz.ntmps80
 go_wp2_with fail
 go_at_call 47
 refine (q4z _ _ _ _ _).mono ?_
 rintro e w2 ⟨rfl, b2⟩
 have V2 : Hid _ := HV1.out.below b2
 have B2 : Hid _ := on B1.out b2
 obtain ⟨t0, t1⟩ := (HV0.out.below b2).two
 obtain ⟨q0, q1⟩ := V2.out.two
 have f0 := V2.out.frozen 0
 have f1 := V2.out.frozen 1
 clear b2 r0 r1
 go_wp2
 exact qAx V2.out B2.out (Nat.le_of_lt HZ.out) _ _ rfl rfl Tryz.underlying111 rfl (by kernel_rfl) (fun w' k' b' => ⟨rfl, b'⟩)
theorem qTz (w : World) (P : Nat → Prop) (a a' : Option Addr) (n c kn kc : Nat) (l : List Itm) (ks : List Int) (fr : UInt64) (hL : rItms.rd w P [.slice a n c] l) (hK : rKids.rd w P [.slice a' kn kc] ks) (hn : n ≤ 1000) (hk : kn = n + 1) :
 Calls Tryz.prog 80 #[.agg #[.slice a n c, .slice a' kn kc], .int .u64 (fr.toNat : Int)] w fun e w' => ∃ ba bn bc, e = .returned (.agg #[.slice none 0 0, .slice ba bn bc]) ∧ OwnB 133 w' w.heap.size (.slice ba bn bc) (Tr.contOf (l, ks) fr).2 ∧ Below w.heap.size w w' := by
 have HLl : Hid (l.length = n) := (q0x hL).1
 have HKl : Hid (ks.length = n + 1) := by rw [← hk]; exact (q0x hK).1
 obtain ⟨w0, hw0, V0, b0, z0⟩ := q0q w 63 [.slice a n c, .slice a' kn kc]
 obtain ⟨w1, hw1, V1, b1, z1⟩ := q0q w0 111 [.slice none 0 0, .slice none 0 0]
 obtain ⟨r0, r1⟩ := (V0.below b1).two
 have B1 : Hid (Below w.heap.size w w1) := on b0 b1
 have HV0 : Hid _ := V0.below b1
 have HV1 : Hid _ := V1
 have HZ : Hid (w.heap.size < w0.heap.size ∧ w0.heap.size < w1.heap.size) := ⟨by omega, by omega⟩
 have HL : Hid _ := hL
 have HK : Hid _ := hK
 have hkz : decide ((kn : Int) = 0) = false := decide_eq_false (by omega)
 have hk0 : (0 : Int) < (kn : Int) := by omega
 have hk1 : kn ≤ 1001 := by omega
 have HKn : Hid (kn = n + 1) := hk
 obtain ⟨kb, ko, rfl, -⟩ := q2z hK (by omega)
 clear V0 V1 b0 b1 z0 z1 hL hK hk
 go_enter Tryz.func80, Tryz.ntmps80
 go_wp2_with fail
 go_at_call 47
 refine (q4z _ _ _ _ _).mono ?_
 rintro e w2 ⟨rfl, b2⟩
 rw [hkz]
 clear hkz
 have V2 : Hid _ := HV1.out.below b2
 have N2 : Hid _ := HV0.out.below b2
 have B2 : Hid _ := on B1.out b2
 have HZ2 : Hid (w1.heap.size ≤ w2.heap.size) := b2.size
 obtain ⟨t0, t1⟩ := N2.out.two
 obtain ⟨Z, hZ⟩ : ∃ Z, Z = ks.getD 0 0 := ⟨_, rfl⟩
 have k0 : w2.cell? ⟨kb, ko, none⟩ = some (.int .i64 Z) := by
  obtain ⟨b, off, e, -, -, hat⟩ := q2z (Rep.below HK.out B2.out) (by omega)
  simp only [Option.some.injEq, Addr.mk.injEq, and_true] at e
  obtain ⟨rfl, rfl⟩ := e
  have h := (hat 0 (by rw [HKl.out]; omega)).1
  rw [Nat.add_zero] at h
  rw [h, hZ]
  simp [List.getD, zw3 (show 0 < ks.length by rw [HKl.out]; omega)]
 obtain ⟨w3, hw3⟩ : ∃ w3, w2.alloc (.cells #[.int .u64 (fr.toNat : Int), .int .i64 Z] 133) = w3 := ⟨_, rfl⟩
 have O3 : Hid (OwnB 133 w3 w2.heap.size (.slice (some ⟨w2.heap.size, 0, none⟩) 1 1) (Tr.contL l ks fr 0)) := by
  rw [← hw3, Tr.contL_zero, ← hZ]
  exact OwnB.lit _ _ _ (zw0 _) (fr, Z)
 have B3 : Hid (Below w2.heap.size w2 w3) := by rw [← hw3]; exact (Below.refl _ _).alloc (zw0 _) _
 obtain ⟨m0, m1⟩ := (N2.out.below B3.out).two
 clear b2 r0 r1 hZ
 go_wp2
 go_loopw [5, 23] (fun bv i wr => ∃ (j : Nat) (ba : Option Addr) (bn bc : Nat), j ≤ n ∧ i = .int .i64 j ∧ bv = .slice ba bn bc ∧ Hid (OwnB 133 wr w2.heap.size (.slice ba bn bc) (Tr.contL l ks fr j)) ∧ Hid (Below w2.heap.size w2 wr)) (fun _ i _ => n - (intOf i).toNat)
 case atStart => exact ⟨0, _, _, _, Nat.zero_le _, rfl, rfl, O3, B3⟩
 case round =>
  obtain ⟨j, ba, bn, bc, hj, rfl, rfl, HO, HB⟩ := hrel
  by_cases hlt : j < n
  · obtain ⟨gb, go, rfl, -, -, hat⟩ := q0Z (Rep.below HL.out (on B2.out HB.out)) (by omega)
    have hjl : j < l.length := by rw [HLl.out]; exact hlt
    obtain ⟨i0, i1⟩ := hat j hjl
    obtain ⟨X, hX⟩ : ∃ X, X = l[j] := ⟨_, rfl⟩
    rw [← hX] at i0 i1
    have HX : Hid (X = l[j]'(by rw [HLl.out]; exact hlt)) := hX
    obtain ⟨Y, hY⟩ : ∃ Y, Y = ks[j + 1]'(by rw [HKl.out]; omega) := ⟨_, rfl⟩
    have HY : Hid (Y = ks[j + 1]'(by rw [HKl.out]; omega)) := hY
    obtain ⟨wx, hwx, Vx, bx, zx⟩ := q0q wr 45 [.int .u64 (X.1.toNat : Int), .int .u64 (X.2.toNat : Int)]
    have hjz : (j : Int) < (n : Int) := by omega
    obtain ⟨j1, hj1⟩ : ∃ j1, j1 = j + 1 := ⟨_, rfl⟩
    have hwr : IntKind.i64.wrap ((j : Int) + 1) = (j1 : Int) := by rw [hj1, IntKind.wrap_i64]; omega
    have hjk : (j1 : Int) < (kn : Int) := by have := HKn.out; omega
    have HJ1 : Hid (j1 = j + 1) := hj1
    clear hj1
    obtain ⟨p0, p1⟩ := Vx.two
    obtain ⟨s0, s1⟩ := (N2.out.below HB.out).two
    have HS : Hid (∀ W', Below wx.heap.size wx W' → W'.cell? ⟨wr.heap.size, 0, none⟩ = some (.int .u64 (X.1.toNat : Int)) ∧ W'.cell? ⟨w.heap.size, 1, none⟩ = some (.slice (some ⟨kb, ko, none⟩) kn kc) ∧ W'.cell? ⟨kb, ko + j1, none⟩ = some (.int .i64 Y)) := by
     intro W' b'
     refine ⟨(Vx.below b').cell (j := 0) rfl, ((N2.out.below HB.out).below (on bx b')).cell (j := 1) rfl, ?_⟩
     obtain ⟨b, off, e, -, -, hat⟩ := q2z (Rep.below HK.out (on B2.out (on HB.out (on bx b')))) (by omega)
     simp only [Option.some.injEq, Addr.mk.injEq, and_true] at e
     obtain ⟨rfl, rfl⟩ := e
     rw [HY.out]
     have h := (hat (j + 1) (by rw [HKl.out]; omega)).1
     rw [HJ1.out]
     exact h
    have OX : OwnB 133 wx.drew w2.heap.size (.slice ba bn bc) (Tr.contL l ks fr j) := HO.out.below (on bx (Below.refl _ _).drew)
    obtain ⟨v6, w6, hr6, ho6, g6⟩ := qFZ OX (X.1, Y) (by have := Tr.contL_length (l := l) (ks := ks) fr (j := j); omega) (zw1 HB.out.size bx.size) 109
    obtain ⟨wk, hwk⟩ : ∃ wk, wx.drew.alloc (.cells #[.int .u64 (X.1.toNat : Int), .int .i64 Y] 133) = wk := ⟨_, rfl⟩
    dsimp only at hr6 g6
    rw [hwk] at hr6 g6
    have bk : Below wx.heap.size wx wk := by rw [← hwk]; exact on (Below.refl _ _).drew ((Below.refl _ _).alloc (zw0 _) _)
    obtain ⟨ea, ec, rfl, -⟩ := ho6.slice
    obtain ⟨en, hen⟩ : ∃ en, (Tr.contL l ks fr j ++ [(X.1, Y)]).length = en := ⟨_, rfl⟩
    rw [hen] at hr6 g6 ho6
    have HO6 : Hid (OwnB 133 w6 w2.heap.size (.slice ea en ec) (Tr.contL l ks fr (j + 1))) := by
     unfold Hid
     rw [Tr.contL_next fr (by rw [HLl.out]; exact hlt) (by rw [HKl.out, HLl.out]), ← HX.out, ← HY.out]
     exact ho6
    have h6 : Below w2.heap.size wk w6 := OwnB.base_below (OX.below (by rw [← hwk]; exact (Below.refl _ _).alloc (zw0 _) _)) (zw1 HB.out.size (zw1 bx.size bk.size)) g6
    have HB6 : Hid (Below w2.heap.size w2 w6) := ((HB.out.trans (bx.mono HB.out.size)).trans (bk.mono (zw1 HB.out.size bx.size))).trans h6
    have HRun : Hid _ := hr6
    have HS3 : Hid _ := HS.out wx.drew (Below.refl _ _).drew
    have HSk : Hid _ := HS.out wk bk
    have HS6 : Hid (w6.cell? ⟨wr.heap.size, 0, none⟩ = some (.int .u64 (X.1.toNat : Int)) ∧ w6.cell? ⟨w.heap.size, 1, none⟩ = some (.slice (some ⟨kb, ko, none⟩) kn kc) ∧ w6.cell? ⟨kb, ko + j1, none⟩ = some (.int .i64 Y)) := by
     refine ⟨?_, ((N2.out.below HB6.out)).cell (j := 1) rfl, ?_⟩
     · exact (((Vx.below bk)).grew g6 (fun e => by have := (HO.out.row.lt _ e).2; omega)).cell (j := 0) rfl
     · obtain ⟨b, off, e, -, -, hat⟩ := q2z (Rep.below HK.out (on B2.out HB6.out)) (by omega)
       simp only [Option.some.injEq, Addr.mk.injEq, and_true] at e
       obtain ⟨rfl, rfl⟩ := e
       rw [HY.out]
       have h := (hat (j + 1) (by rw [HKl.out]; omega)).1
       rw [HJ1.out]
       exact h
    clear hat hX hY hr6 ho6 g6 h6 OX bk Vx bx zx hen
    go_wp2_with fail
    refine wp_region_held_drew (S := (fun w' : World => w'.cell? ⟨wr.heap.size, 0, none⟩ = some (.int .u64 (X.1.toNat : Int)) ∧ w'.cell? ⟨w.heap.size, 1, none⟩ = some (.slice (some ⟨kb, ko, none⟩) kn kc) ∧ w'.cell? ⟨kb, ko + j1, none⟩ = some (.int .i64 Y))) (by kernel_rfl) (HS3.out) (fun hH => ?_)
    refine tkM 0 _ rfl rfl ?_; simp only [sz, ss]
    refine tkM 1 _ rfl rfl ?_; simp only [sz, ss]
    refine tkM 2 _ rfl rfl ?_; simp only [sz, ss]
    refine tkM 3 _ rfl rfl ?_; simp only [sz, ss]
    refine tkM 4 _ rfl rfl ?_; simp only [sz, ss]
    refine tkM 5 _ rfl rfl ?_; simp only [sz, ss]
    refine tkM 6 _ rfl rfl ?_; simp only [sz, ss]
    refine tkM 7 _ rfl rfl ?_; simp only [sz, ss]
    refine tkM 8 _ rfl rfl ?_; simp only [sz, ss]
    refine tkM 9 _ rfl rfl ?_; simp only [sz, ss]
    refine r1L 10 rfl fun K hK => ?_
    · go_simp
      refine hK.out _ _ (by exact HSk.out) fun hH => ?_; clear hK K
      refine r1L 11 rfl fun K hK => ?_
      · refine q1z rfl rfl _ _ _ rfl _ _ _ rfl rfl HRun.out ?_
        refine hK.out _ _ (by exact HS6.out) fun hH => ?_; clear hK K
        refine tkM 12 _ rfl rfl ?_; simp only [sz, ss]
        refine wpAnyH_done (by kernel_rfl) ?_ _
        clear hH hwr hwk hjk
        go_wp2
        go_roundw
        case rel => exact ⟨j + 1, _, _, _, by omega, by go_num, rfl, HO6, HB6⟩
        case measure => simp [intOf]; omega
  · obtain rfl : n = j := by omega
    have HO9 : Hid (OwnB 133 wr w2.heap.size (.slice ba bn bc) (Tr.contOf (l, ks) fr).2) := by
     rw [← Tr.contL_all fr (by rw [HKl.out, HLl.out]), HLl.out]
     exact HO.out
    have V9 : Hid _ := V2.out.below HB.out
    have B9 : Hid _ := on B2.out HB.out
    obtain ⟨q0, q1⟩ := V9.out.two
    have f0 := V9.out.frozen 0
    have f1 := V9.out.frozen 1
    go_wp2
    exact qAx V9.out B9.out (Nat.le_of_lt HZ.out.1) _ _ rfl rfl Tryz.underlying111 rfl (by kernel_rfl) (fun w' k' b' => ⟨ba, bn, bc, rfl, (HO9.out.keptL k' (by have := HZ.out; have := HZ2.out; omega)).mono B2.out.size, b'⟩)
structure IsCnt (w : World) (base : Nat) (u u' : Value) (cn : Cnt) : Prop where
 items : OwnI 45 w base u cn.1
 kids : OwnB 133 w base u' cn.2
theorem IsCnt.below {w w' : World} {base : Nat} {u u' : Value} {cn : Cnt} (h : IsCnt w base u u' cn) (b : Below w.heap.size w w') : IsCnt w' base u u' cn := ⟨h.items.below b, h.kids.below b⟩
theorem IsCnt.mono {w : World} {base base' : Nat} {u u' : Value} {cn : Cnt} (h : IsCnt w base u u' cn) (b : base' ≤ base) : IsCnt w base' u u' cn := ⟨h.items.mono b, h.kids.mono b⟩
theorem IsCnt.keptL {w w' : World} {base b : Nat} {u u' : Value} {cn : Cnt} (h : IsCnt w base u u' cn) (k : Kept (· ≠ b) w w') (hb : b < base) : IsCnt w' base u u' cn := ⟨h.items.keptL k hb, h.kids.keptL k hb⟩
theorem IsCnt.keep1 {w w' : World} {base : Nat} {u u' : Value} {cn : Cnt} (h : IsCnt w base u u' cn) (hk : ∀ b, u.ownBlock = some b ∨ u'.ownBlock = some b → w'.heap[b]? = w.heap[b]?) : IsCnt w' base u u' cn := ⟨h.items.keep1 (fun b e => hk b (.inl e)), h.kids.keep1 (fun b e => hk b (.inr e))⟩
theorem OwnI.typed {e : TypeId} {w : World} {base : Nat} {v : Value} {l : List Itm} (h : OwnI e w base v l) : ∀ b, v.ownBlock = some b → ∃ c z, w.heap[b]? = some (.cells c e z) := fun b hb => by
 rcases h.row.2 with ⟨rfl, h0⟩ | ⟨g, cap, cur, rfl, g1, g2, -⟩
 · cases hb
 · cases hb; exact ⟨_, _, g2⟩
theorem OwnB.typed {e : TypeId} {w : World} {base : Nat} {v : Value} {l : List Brn} (h : OwnB e w base v l) : ∀ b, v.ownBlock = some b → ∃ c z, w.heap[b]? = some (.cells c e z) := fun b hb => by
 rcases h.row.2 with ⟨rfl, h0⟩ | ⟨g, cap, cur, rfl, g1, g2, -⟩
 · cases hb
 · cases hb; exact ⟨_, _, g2⟩
theorem IsCnt.apartW {w : World} {base base' g : Nat} {u u' v kv tv : Value} {s : Pgs} {cn : Cnt} (h : IsCnt w base u u' cn) (hW : Wr w g base' v s kv tv) : ∀ b, u.ownBlock = some b ∨ u'.ownBlock = some b → b ∉ WS g v := fun b hb e => by
 have h1 : ∃ c z t, w.heap[b]? = some (.cells c t z) ∧ (t = 45 ∨ t = 133) := by
  rcases hb with hb | hb
  · obtain ⟨c, z, h1⟩ := h.items.typed b hb; exact ⟨c, z, _, h1, .inl rfl⟩
  · obtain ⟨c, z, h1⟩ := h.kids.typed b hb; exact ⟨c, z, _, h1, .inr rfl⟩
 obtain ⟨c, z, t, h2, h3⟩ := h1
 rcases mem_WS.1 e with rfl | e
 · have := hW.row.eq
   rw [h2] at this
   cases this
   rcases h3 with h3 | h3 <;> cases h3
 · obtain ⟨c', z', h4⟩ := hW.pgs.typed b e
   rw [h2] at h4
   cases h4
   rcases h3 with h3 | h3 <;> cases h3
theorem IsCnt.rd {w : World} {base : Nat} {a a' : Option Addr} {n c n' c' : Nat} {cn : Cnt} (h : IsCnt w base (.slice a n c) (.slice a' n' c') cn) (h1 : cn.1.length ≤ 1000000) (h2 : cn.2.length ≤ 1000000) :
 rItms.rd w (fun b => (Value.slice a n c).ownBlock = some b ∨ (Value.slice a' n' c').ownBlock = some b) [.slice a n c] cn.1 ∧ rBrns.rd w (fun b => (Value.slice a n c).ownBlock = some b ∨ (Value.slice a' n' c').ownBlock = some b) [.slice a' n' c'] cn.2 := by
 obtain ⟨xa, xc, e1, r1⟩ := q9Z (A := rItm) (hs := by decide) (P := fun b => (Value.slice a n c).ownBlock = some b ∨ (Value.slice a' n' c').ownBlock = some b) h.items.row (rItms_all.2 rfl) rfl (by show cn.1.length * 16 ≤ _; omega) (fun b e => .inl e)
 obtain ⟨ya, yc, e2, r2⟩ := q9Z (A := rBrn) (hs := by decide) (P := fun b => (Value.slice a n c).ownBlock = some b ∨ (Value.slice a' n' c').ownBlock = some b) h.kids.row (rBrns_all.2 rfl) rfl (by show cn.2.length * 16 ≤ _; omega) (fun b e => .inr e)
 simp only [Value.slice.injEq] at e1 e2
 obtain ⟨rfl, rfl, rfl⟩ := e1
 obtain ⟨rfl, rfl, rfl⟩ := e2
 exact ⟨r1, r2⟩
namespace Tr
theorem shape {n : Nod} (h : Lf.Ok n) : n.2 = [] ∨ n.2.length = n.1.length + 1 := by
 rcases h.kids with k | k
 · exact .inl (by simpa [Lf.isLeaf] using k)
 · exact .inr k
theorem nodeE_ok {s : Pgs} {p : Int} {n : Nod} (h : nodeE s p = .ok n) : Lf.Ok n := by
 unfold nodeE at h
 split at h
 case isTrue hh =>
  cases h
  exact Lf.ok_iff.1 (Lf.enc_decode hh.2.2).1
 case isFalse => cases h
end Tr
theorem q9z (w : World) (P : Nat → Prop) (pa : Option Addr) (pc : Nat) (s : Pgs) (hR : rSectors.rd w P [.slice pa s.length pc] s) (p : Int) (h0 : -9223372036854775808 ≤ p) (h1 : p ≤ 9223372036854775807) :
 Calls Tryz.prog 75 #[.slice pa s.length pc, .int .i64 p] w fun e w' => Below w.heap.size w w' ∧
  (∀ n, Tr.nodeE s p = .ok n → ∃ ia il ic ka kl kc, e = .returned (.agg #[.slice ia il ic, .slice ka kl kc]) ∧ OwnI 45 w' w.heap.size (.slice ia il ic) n.1 ∧ OwnK 3 w' w.heap.size (.slice ka kl kc) n.2) ∧ (∀ x, Tr.nodeE s p = .error x → e = q9Q x) := by
 by_cases hp : 1 ≤ p ∧ p ≤ s.length
 · obtain ⟨q, rfl⟩ : ∃ q : Nat, p = (q : Int) + 1 := ⟨(p - 1).toNat, by omega⟩
   refine (nodeT_in w P pa pc s hR q (by omega)).mono ?_
   rintro e w' ⟨b, k1, k2⟩
   refine ⟨b, fun n hn => ?_, fun x hx => ?_⟩
   · unfold Tr.nodeE at hn
     split at hn
     case isTrue hh => cases hn; exact k1 hh.2.2
     case isFalse => cases hn
   · unfold Tr.nodeE at hx
     split at hx
     case isTrue => cases hx
     case isFalse hh =>
      cases hx
      exact k2 (fun e => hh ⟨hp.1, hp.2, e⟩)
 · refine (nodeT_out w pa s.length pc p (by have := q4q hR; omega) h0 h1 hp).mono ?_
   rintro e w' ⟨b, rfl⟩
   have hE : Tr.nodeE s p = .error 9 := by unfold Tr.nodeE; rw [if_neg (fun h => hp ⟨h.1, h.2.1⟩)]
   refine ⟨b, (fun n hn => by rw [hE] at hn; cases hn), (fun x hx => by rw [hE] at hx; cases hx; rfl)⟩
theorem q6X (w : World) (base : Nat) (ia ka : Option Addr) (il ic kl kc : Nat) (l : List Itm) (ks : List Int) (fr : UInt64) (hI : OwnI 45 w base (.slice ia il ic) l) (hK : OwnK 3 w base (.slice ka kl kc) ks) (hl : l.length ≤ 3) (hs : ks = [] ∨ ks.length = l.length + 1) (hb : base ≤ w.heap.size) :
 Calls Tryz.prog 80 #[.agg #[.slice ia il ic, .slice ka kl kc], .int .u64 (fr.toNat : Int)] w fun e w' => ∃ ca cn cc da dn dc, e = .returned (.agg #[.slice ca cn cc, .slice da dn dc]) ∧ IsCnt w' base (.slice ca cn cc) (.slice da dn dc) (Tr.contOf (l, ks) fr) ∧ Below w.heap.size w w' := by
 have e1 : il = l.length := by obtain ⟨a, c, e, -⟩ := hI.slice; simp only [Value.slice.injEq] at e; exact e.2.1
 have e2 : kl = ks.length := by obtain ⟨a, c, e, -⟩ := hK.slice; simp only [Value.slice.injEq] at e; exact e.2.1
 rcases hs with rfl | hs
 · obtain rfl : kl = 0 := e2
   refine (qTq w ia ka il ic kc fr).mono ?_
   rintro e w' ⟨rfl, b⟩
   exact ⟨_, _, _, _, _, _, rfl, ⟨hI.below b, OwnB.nil _ _ _⟩, b⟩
 · refine (qTz w (fun b => base ≤ b) ia ka il ic kl kc l ks fr (hI.rd (by omega)) (hK.rd (by omega)) (by omega) (by omega)).mono ?_
   rintro e w' ⟨ba, bn, bc, rfl, ho, b⟩
   have hc : (Tr.contOf (l, ks) fr).1 = [] := by unfold Tr.contOf; rw [if_neg (fun e => by simp only at e; rw [e] at hs; simp at hs)]
   refine ⟨_, _, _, _, _, _, rfl, ⟨?_, ho.mono hb⟩, b⟩
   rw [hc]
   exact OwnI.nil _ _ _
def ReadDone (s : Pgs) (b : Brn) (w : World) (e : Ending) (w' : World) : Prop :=
 Below w.heap.size w w' ∧ (∀ x, Tr.nodeE s b.2 = .error x → e = q9Q x) ∧ (∀ n, Tr.nodeE s b.2 = .ok n → ∃ ca cn cc da dn dc, e = .returned (.agg #[.slice ca cn cc, .slice da dn dc]) ∧ IsCnt w' w.heap.size (.slice ca cn cc) (.slice da dn dc) (Tr.contOf n b.1))
theorem ReadDone.no {s : Pgs} {b : Brn} {w w' : World} {x : Int} (h : Tr.nodeE s b.2 = .error x) (bl : Below w.heap.size w w') : ReadDone s b w (q9Q x) w' :=
 ⟨bl, (fun y hy => by rw [h] at hy; cases hy; rfl), (fun n hn => by rw [h] at hn; cases hn)⟩
theorem ReadDone.yes {s : Pgs} {b : Brn} {w w' : World} {n : Nod} {e : Ending} {ca da : Option Addr} {cn cc dn dc : Nat} (h : Tr.nodeE s b.2 = .ok n) (he : e = .returned (.agg #[.slice ca cn cc, .slice da dn dc])) (hC : IsCnt w' w.heap.size (.slice ca cn cc) (.slice da dn dc) (Tr.contOf n b.1)) (bl : Below w.heap.size w w') : ReadDone s b w e w' :=
 ⟨bl, (fun y hy => by rw [h] at hy; cases hy), (fun m hm => by rw [h] at hm; cases hm; exact ⟨_, _, _, _, _, _, he, hC⟩)⟩
theorem read_u (w : World) (g base : Nat) (v : Value) (s : Pgs) (kv tv : Value) (hW : Wr w g base v s kv tv) (fr : UInt64) (p : Int) (h0 : -9223372036854775808 ≤ p) (h1 : p ≤ 9223372036854775807) :
 Calls Tryz.prog 83 #[.pointer (some ⟨g, 0, none⟩), .agg #[.int .u64 (fr.toNat : Int), .int .i64 p]] w fun e w' => ReadDone s (fr, p) w e w' := by
 obtain ⟨pa, pc, rfl, hpl, hpn⟩ := hW.pgs.slice
 obtain ⟨w1, hw1, V1, b1, z1⟩ := q0q w 133 [.int .u64 (fr.toNat : Int), .int .i64 p]
 obtain ⟨w2, hw2, V2r, b2, z2⟩ := q0q w1 111 [.slice none 0 0, .slice none 0 0]
 have B2 : Hid (Below w.heap.size w w2) := on b1 b2
 have V2 : Hid _ := V2r
 have V1b : Hid _ := V1.below b2
 have W2 : Hid (Wr w2 g base (.slice pa s.length pc) s kv tv) := hW.below B2.out
 have HZ : Hid (w.heap.size < w1.heap.size) := by unfold Hid; omega
 have HZ2 : Hid (w1.heap.size < w2.heap.size) := by unfold Hid; omega
 have HGw : Hid (g < w.heap.size) := hW.row.lt
 have HSee : Hid (∀ W', Below w2.heap.size w2 W' → W'.cell? ⟨g, 0, none⟩ = some (.slice pa s.length pc) ∧ W'.cell? ⟨w.heap.size, 0, none⟩ = some (.int .u64 (fr.toNat : Int)) ∧ W'.cell? ⟨w.heap.size, 1, none⟩ = some (.int .i64 p)) := by
  intro W' b'
  exact ⟨(W2.out.row.below b').cell (j := 0) rfl, (V1b.out.below b').cell (j := 0) rfl, (V1b.out.below b').cell (j := 1) rfl⟩
 have HSet : Hid (∀ W' u u', Below w2.heap.size w2 W' → ((W'.setCell ⟨w1.heap.size, 0, none⟩ u).setCell ⟨w1.heap.size, 1, none⟩ u').cell? ⟨g, 0, none⟩ = some (.slice pa s.length pc) ∧ ((W'.setCell ⟨w1.heap.size, 0, none⟩ u).setCell ⟨w1.heap.size, 1, none⟩ u').cell? ⟨w.heap.size, 0, none⟩ = some (.int .u64 (fr.toNat : Int)) ∧ ((W'.setCell ⟨w1.heap.size, 0, none⟩ u).setCell ⟨w1.heap.size, 1, none⟩ u').cell? ⟨w.heap.size, 1, none⟩ = some (.int .i64 p)) := by
  intro W' u u' b'
  have r1 := ((W2.out.row.below b').setO (p := ⟨w1.heap.size, 0, none⟩) (by have := HGw.out; have := HZ.out; show w1.heap.size ≠ g; omega) u).setO (p := ⟨w1.heap.size, 1, none⟩) (by have := HGw.out; have := HZ.out; show w1.heap.size ≠ g; omega) u'
  have r2 := ((V1b.out.below b').setO (p := ⟨w1.heap.size, 0, none⟩) (by have := HZ.out; show w1.heap.size ≠ _; omega) u).setO (p := ⟨w1.heap.size, 1, none⟩) (by have := HZ.out; show w1.heap.size ≠ _; omega) u'
  exact ⟨r1.cell (j := 0) rfl, r2.cell (j := 0) rfl, r2.cell (j := 1) rfl⟩
 have HRd : Hid (rSectors.rd w2.drew (fun b => base ≤ b) [.slice pa s.length pc] s) := Rep.below (W2.out.pgs.rd hW.few) (Below.refl _ _).drew
 clear hW hpl hpn V1 V2r b1 b2 z1 z2
 go_enter Tryz.func83, Tryz.ntmps83
 go_wp2_with fail
 refine wp_region_held_drew (S := (fun w' : World => w'.cell? ⟨g, 0, none⟩ = some (.slice pa s.length pc) ∧ w'.cell? ⟨w.heap.size, 0, none⟩ = some (.int .u64 (fr.toNat : Int)) ∧ w'.cell? ⟨w.heap.size, 1, none⟩ = some (.int .i64 p))) (by kernel_rfl) (HSee.out _ (Below.refl _ _).drew) (fun hH => ?_)
 refine tkM 0 _ rfl rfl ?_; simp only [sz, ss]
 refine tkM 1 _ rfl rfl ?_; simp only [sz, ss]
 refine tkM 2 _ rfl rfl ?_; simp only [sz, ss]
 refine tkM 3 _ rfl rfl ?_; simp only [sz, ss]
 refine tkM 4 _ rfl rfl ?_; simp only [sz, ss]
 refine tkM 5 _ rfl rfl ?_; simp only [sz, ss]
 refine tkM 7 _ rfl rfl ?_; simp only [sz, ss]
 refine tkM 8 _ rfl rfl ?_; simp only [sz, ss]
 refine r1L 6 rfl fun K hK => ?_
 · go_simp
   go_at_call 75
   refine Calls.mono (q9z _ _ pa pc s HRd.out p h0 h1) ?_
   rintro e w3 ⟨b3, hok, hno⟩
   replace b3 : Below w2.heap.size w2 w3 := on (Below.refl _ _).drew b3
   rcases hne : Tr.nodeE s p with x | nd
   · obtain rfl := hno x hne
     exact ⟨rfl, ReadDone.no (b := (fr, p)) hne (on B2.out b3)⟩
   obtain ⟨ia, il, ic, ka, kl, kc, rfl, hI3, hK3⟩ := hok nd hne
   have hS3 := HSee.out _ b3
   have B3 : Hid _ := on B2.out b3
   have V3 : Hid _ := V2.out.below b3
   have HI3 : Hid _ := hI3
   have HK3 : Hid _ := hK3
   have HOk : Hid (Lf.Ok nd) := Tr.nodeE_ok hne
   have HB3 : Hid _ := b3
   clear b3 hok hno hI3 hK3
   go_simp
   refine hK.out _ _ (by exact hS3) fun hH => ?_; clear hK K
   refine r1L 9 rfl fun K hK => ?_
   · go_simp
     go_at_call 80
     refine Calls.mono (q6X _ w2.heap.size ia ka il ic kl kc nd.1 nd.2 fr HI3.out HK3.out HOk.out.few (Tr.shape HOk.out) HB3.out.size) ?_
     rintro e w4 ⟨ca, cn, cc, da, dn, dc, rfl, hC4, b4⟩
     have hS4 := HSee.out _ (on HB3.out b4)
     have B4 : Hid _ := on B3.out b4
     have V4 : Hid _ := V3.out.below b4
     have HC4 : Hid _ := hC4
     have HB4 : Hid _ := on HB3.out b4
     obtain ⟨q0, q1⟩ := V4.out.two
     have f0 := V4.out.frozen 0
     have f1 := V4.out.frozen 1
     clear b4 hC4
     go_simp
     refine hK.out _ _ (by exact hS4) fun hH => ?_; clear hK K
     refine r1L 10 rfl fun K hK => ?_
     · go_simp
       refine hK.out _ _ (by exact HSet.out _ _ _ HB4.out) fun hH => ?_; clear hK K
       refine wpAnyH_done (by kernel_rfl) ?_ _
       clear hH
       go_wp2
       exact qAx V4.out B4.out (Nat.le_of_lt HZ.out) _ _ rfl rfl Tryz.underlying111 rfl (by kernel_rfl) (fun w' k' b' => ReadDone.yes (b := (fr, p)) hne rfl ((HC4.out.keptL k' HZ2.out).mono (by have := B2.out.size; exact this)) b')
open Go.Shelf
attribute [local go_sem] Oper.semAt_some
def LayDone (s : Pgs) (cn : Cnt) (g base : Nat) (v kv tv : Value) (w : World) (e : Ending) (w' : World) : Prop :=
 (∀ x, Tr.lay s cn = .error x → e = q9Q x ∧ Turn (WS g v) w w') ∧ (∀ s' bs, Tr.lay s cn = .ok (s', bs) → ∃ oa on oc v', e = .returned (.slice oa on oc) ∧ OwnB 133 w' w.heap.size (.slice oa on oc) bs ∧ Wr w' g base v' s' kv tv ∧ WTurn g v w v' w' ∧ ∀ b, (Value.slice oa on oc).ownBlock = some b → b ∉ WS g v')
theorem lay_u (w : World) (g base : Nat) (v : Value) (s : Pgs) (kv tv : Value) (hW : Wr w g base v s kv tv) (P : Nat → Prop) (a a' : Option Addr) (n c n' c' : Nat) (l : List Itm) (ks : List Brn) (hL : rItms.rd w P [.slice a n c] l) (hK : rBrns.rd w P [.slice a' n' c'] ks) (hP : ∀ b, P b → b ∉ WS g v)
 (hn : n ≤ 1000) (hn' : n' ≤ 1000) (hpg : ∀ b ∈ ks, -9223372036854775808 ≤ b.2 ∧ b.2 ≤ 9223372036854775807) :
 Calls Tryz.prog 67 #[.pointer (some ⟨g, 0, none⟩), .agg #[.slice a n c, .slice a' n' c']] w fun e w' => LayDone s (l, ks) g base v kv tv w e w' := by
 have HWr : Hid _ := hW
 have HP : Hid _ := hP
 have HL : Hid _ := hL
 have HK : Hid _ := hK
 have HPg : Hid _ := hpg
 obtain ⟨wa, hwa, Va, ba, za⟩ := q0q w 105 [.pointer (some ⟨g, 0, none⟩)]
 obtain ⟨wb, hwb, Vb, bb, zb⟩ := q0q wa 111 [.slice a n c, .slice a' n' c']
 obtain ⟨wc, hwc, Vc, bc, zc⟩ := q0q wb 109 [.slice none 0 0]
 obtain ⟨w1, hw1, V1, b1, z1⟩ := q0q wc 36 [.slice a n c]
 obtain ⟨wd, hwd, Vd, bd, zd⟩ := q0q w1 3 [.int .i64 3]
 have bcd : Below wc.heap.size wc wd := on b1 bd
 have BD : Hid (Below w.heap.size w wd) := on ba (on bb (on bc bcd))
 have RP : Hid _ := ((Va.below bb).below bc).below bcd
 have RC : Hid _ := (Vb.below bc).below bcd
 have RO : Hid (Row wd wb.heap.size 109 [.slice none 0 0]) := Vc.below bcd
 have R1 : Hid (Row wd wc.heap.size 36 [.slice a n c]) := V1.below bd
 have R2 : Hid _ := Vd
 have HZ : Hid (w.heap.size < wa.heap.size ∧ wa.heap.size < wb.heap.size ∧ wb.heap.size < wc.heap.size ∧ wc.heap.size < w1.heap.size ∧ w1.heap.size < wd.heap.size) := ⟨by omega, by omega, by omega, by omega, by omega⟩
 obtain ⟨c0, c1⟩ := (Vb.below bc).two
 have RPc : Hid _ := (Va.below bb).below bc
 have BC : Hid (Below w.heap.size w wc) := on ba (on bb bc)
 have HGw : Hid (g < w.heap.size) := hW.row.lt
 have HGd : Hid (g < wc.heap.size) := by have := HZ.out; have := HGw.out; unfold Hid; omega
 have hnw : ∀ b, w.heap.size ≤ b → b ∉ WS g v := fun b hb e => by
  rcases mem_WS.1 e with e | e
  · have := HGw.out; omega
  · have := (hW.pgs.lt b e).2; omega
 have HOb : Hid (wb.heap.size ∉ WS g v) := hnw _ (by have := HZ.out; omega)
 have HNp : Hid (w.heap.size ∉ wb.heap.size :: WS g v) := fun e => by
  rcases List.mem_cons.1 e with e | e
  · have := HZ.out; omega
  · exact hnw _ (zw0 _) e
 have HGl : Hid ((Tr.groups 3 l).length ≤ 1000) := by
  have h1 := (q0x hL).1
  unfold Hid Tr.groups
  rw [q1X]
  omega
 have HNw : Hid _ := hnw
 have RCc : Hid (Row wc wa.heap.size 111 [.slice a n c, .slice a' n' c']) := Vb.below bc
 have HNa : Hid (wa.heap.size ∉ wb.heap.size :: WS g v) := fun e => by
  rcases List.mem_cons.1 e with e | e
  · have := HZ.out; omega
  · exact hnw _ (by have := HZ.out; omega) e
 have HGl4 : Hid ((Tr.groups 4 ks).length ≤ 1000) := by
  have h1 := (q0x hK).1
  unfold Hid Tr.groups
  rw [q1X]
  omega
 have HZ1 : Hid (w1.heap.size = wc.heap.size + 1) := z1
 have BCD : Hid _ := bcd
 have HI0 : Hid (LayI g base wb.heap.size v kv tv wc wc v s (.slice none 0 0) []) := ⟨hW.below BC.out, (fun b e => .inl e), Turn.refl _ _, Vc, OwnB.nil _ _ _, (fun b e => by cases e)⟩
 clear hW hP hL hK hpg Va Vb Vc V1 Vd ba bb bc b1 bd za zb zc z1 zd bcd hnw
 refine z0q 3 Tryz.func67 rfl ?_
 simp only [Tryz.ntmps67, List.size_toArray, List.length_cons, List.length_nil, Nat.reduceAdd, Nat.reduceSub, Array.replicate_succ, Array.replicate_zero, List.push_toArray, List.append_toArray, List.nil_append, List.cons_append]
 refine qEx (qNJ (n := 3) ?_)
 gi_wp2
 refine qEx (qNJ (n := 3) ?_)
 gi_wp2
 refine qEx ?_
 refine qEx (qNJ (n := 3) ?_)
 gi_wp2_with (refine ⟨trivial, ?_⟩; gi_at_call 76; refine ((callsIn_wide (n := 3 - 1)).2 (groupsI_u _ _ _ _ _)).mono ?_; rintro e w' ⟨rfl, rfl⟩)
 obtain ⟨encs, hE, hEl, hEa⟩ := groupsI_all wc.heap.size (wc.heap.size + 1) (most := 3) (by decide) (by decide) hn HL.out
 refine qTZ (qTQ (n := 3) Tryz.func67 (encs := encs) (by rfl) (fun _ _ => rfl) hE (fun args ha => ?_) (LayJ Tr.leafOver Tr.keyF (Tr.groups 3 l) g base wb.heap.size v kv tv wc s []) (LayX Tr.leafOver Tr.keyF (Tr.groups 3 l) g wb.heap.size v wc s []) ?_ ?_ ?_ ?_ ?_ ?_)
 rotate_left 4
 · intro j args W hj hI hD hLp
   obtain ⟨xb, xo, xn, xc, rfl, gj, hgj, hne, hrj⟩ := hEa j args hj
   simp only [List.zip_toArray, List.zip_cons_cons, List.zip_nil_right, List.foldl_toArray, List.foldl_cons, List.foldl_nil, List.setIfInBounds_toArray, List.set_cons_zero, List.set_cons_succ]
   gi_wp2
   refine ⟨trivial, ?_⟩
   intro W2 hI2 hD2 hLp2
   clear hI hD hLp W
   obtain ⟨vj, sj, oa, oc, bs, hbs, hli, hx, hy⟩ := hI2.round hgj
   have hLI : Hid _ := hli
   have hX : Hid _ := hx
   have hY : Hid _ := hy
   have hdr : Hid (Below W2.heap.size W2 W2.drew) := (Below.refl _ _).drew
   have hob : Hid (wb.heap.size ∉ WS g v) := HOb.out
   have hod : Hid (wb.heap.size < wc.heap.size) := HZ.out.2.2.1
   have hgd : Hid (g < wc.heap.size) := HGd.out
   have hbl : Hid (bs.length ≤ 10000) := by
    have h1 := (List.getElem?_eq_some_iff.1 hgj).1
    have h2 := HGl.out
    unfold Hid
    rw [hbs]
    simp only [List.length_nil]
    omega
   obtain ⟨PP, hPPd⟩ : ∃ PP : Nat → Prop, PP = fun b => b < w.heap.size ∧ b ∉ WS g v := ⟨_, rfl⟩
   have hRd : Hid (rItms.rd W2.drew PP [.slice (some ⟨xb, xo, none⟩) xn xc] gj) := by
    rw [hPPd]
    have h1 : rItms.rd w (fun b => b < w.heap.size ∧ b ∉ WS g v) [.slice (some ⟨xb, xo, none⟩) xn xc] gj := rItms.weaken hrj (fun b hb hl => ⟨hl, HP.out b hb⟩)
    have h2 := Rep.below h1 BC.out
    exact Rep.below (hLI.out.turn.rep h2 (fun b hb _ e => by
     rcases List.mem_cons.1 e with e | e
     · have := hb.1; have := HZ.out; omega
     · exact hb.2 e)) hdr.out
   have hPP : Hid (∀ b, PP b → b ∉ WS g vj) := by
    rw [hPPd]
    intro b hb e
    rcases mem_WS.1 e with e | e
    · exact hb.2 (mem_WS.2 (.inl e))
    · rcases hLI.out.place b e with k | k
      · exact hb.2 (mem_WS.2 (.inr k))
      · have := hb.1; have := HZ.out; omega
   have hxn : 0 < xn := by
    have := (q0x hrj).1
    have := List.length_pos_iff.2 hne
    omega
   obtain ⟨ky, hky0⟩ : ∃ ky, ky = Tr.keyF gj := ⟨_, rfl⟩
   have hky : Hid (ky = Tr.keyF gj) := hky0
   clear hky0
   have hSee : Hid (∀ W', Turn (wb.heap.size :: WS g v) wc W' → W'.cell? ⟨w.heap.size, 0, none⟩ = some (.pointer (some ⟨g, 0, none⟩)) ∧ W'.cell? ⟨xb, xo, none⟩ = some (.int .u64 (ky.toNat : Int))) := by
    obtain ⟨b2, off2, e, hb1, hb2, hat⟩ := q0Z hrj hxn
    simp only [Option.some.injEq, Addr.mk.injEq, and_true] at e
    obtain ⟨rfl, rfl⟩ := e
    have h1 := (hat 0 (List.length_pos_iff.2 hne)).1
    rw [Nat.zero_mul, Nat.add_zero] at h1
    have h2 : w.cell? ⟨xb, xo, none⟩ = some (.int .u64 (ky.toNat : Int)) := by
     rw [h1, hky.out]
     cases gj with
     | nil => exact absurd rfl hne
     | cons z zs => rfl
    intro W' t'
    refine ⟨(t'.row RPc.out HNp.out).cell (j := 0) rfl, t'.cell (Turn.cell (Turn.of (S := []) BC.out) h2 hb2 (by simp)) (Nat.lt_of_lt_of_le hb2 BC.out.size) (fun e => ?_)⟩
    rcases List.mem_cons.1 e with e | e
    · have := HZ.out; simp only at e; omega
    · exact HP.out _ hb1 e
   have hS0 : Hid (W2.drew.cell? ⟨w.heap.size, 0, none⟩ = some (.pointer (some ⟨g, 0, none⟩)) ∧ W2.drew.cell? ⟨xb, xo, none⟩ = some (.int .u64 (ky.toNat : Int))) := hSee.out _ hLI.out.turn.drew
   have o2 : W2.drew.cell? ⟨wb.heap.size, 0, none⟩ = some (.slice oa bs.length oc) := (hLI.out.row.below hdr.out).cell (j := 0) rfl
   clear hli hx hy hI2 hj hrj hbs
   refine wpIn_block ?_
   refine qDz (S := (fun w' : World => w'.cell? ⟨w.heap.size, 0, none⟩ = some (.pointer (some ⟨g, 0, none⟩)) ∧ w'.cell? ⟨xb, xo, none⟩ = some (.int .u64 (ky.toNat : Int)))) (plain_ops (by kernel_rfl)) (by rintro ⟨_, _, h⟩; exact h) (by kernel_rfl) hS0.out (fun hH => ?_)
   refine tkM 1 _ rfl rfl ?_; simp only [sz, ss]
   refine tkM 2 _ rfl rfl ?_; simp only [sz, ss]
   refine tkM 3 _ rfl rfl ?_; simp only [sz, ss]
   refine tkM 4 _ rfl rfl ?_; simp only [sz, ss]
   refine tkM 5 _ rfl rfl ?_; simp only [sz, ss]
   refine tkM 6 _ rfl rfl ?_; simp only [sz, ss]
   refine tkM 7 _ rfl rfl ?_; simp only [sz, ss]
   refine rdL [0, 8] ?_
   refine rcL (fun K hK => ?_) ?_
   · go_simp
     refine hK.out _ _ (by exact hH) fun hH => ?_; clear hK K
     refine r1L 8 rfl fun K hK => ?_
     · go_simp
       go_at_call 77
       refine Calls.mono (add_u _ g base vj sj kv tv (hLI.out.wr.below hdr.out) PP _ _ _ _ _ _ gj [] hRd.out (rKids_nil _ _) hPP.out) ?_
       rintro e w5 hdone
       rcases hadd : Tr.add sj (gj, []) with x | ⟨s5, q5⟩
       · obtain ⟨rfl, t5⟩ := hdone.1 x hadd
         exact ⟨rfl, hX.out x hadd _ _ rfl (WTurn.of hdr.out |>.turn.trans t5), ((Nc.turn t5 (hLI.out.below hdr.out).wr.cellsS) _ _ hD2 rfl).trans hD2.symm⟩
       obtain ⟨rfl, v5, hW5, t5⟩ := hdone.2 s5 q5 hadd
       obtain ⟨a6, n6, c6, w6, hr6, hL6, hN6, f6, c6', t6⟩ := (hLI.out.below hdr.out).fin hob.out hod.out hgd.out hbl.out hW5 t5 (ky, q5)
       dsimp only at hr6
       obtain ⟨wk, hwk⟩ : ∃ wk, w5.alloc (.cells #[.int .u64 (ky.toNat : Int), .int .i64 q5] 133) = wk := ⟨_, rfl⟩
       have b5 : Below w5.heap.size w5 wk := by rw [← hwk]; exact (Below.refl _ _).alloc (zw0 _) _
       rw [hwk] at hr6
       have HRun : Hid _ := hr6
       have HL6 : Hid _ := hL6
       have HN6 : Hid _ := hN6
       have HTW : Hid (Turn (wb.heap.size :: WS g v) wc w5) := hLI.out.turnW (WTurn.of hdr.out |>.trans t5).turn
       have o5 : w5.cell? ⟨wb.heap.size, 0, none⟩ = some (.slice oa bs.length oc) := ((hLI.out.below hdr.out).step hob.out hod.out hgd.out hW5 t5).row.cell (j := 0) rfl
       have ok : wk.cell? ⟨wb.heap.size, 0, none⟩ = some (.slice oa bs.length oc) := (((hLI.out.below hdr.out).step hob.out hod.out hgd.out hW5 t5).row.below b5).cell (j := 0) rfl
       have hS5 := hSee.out _ HTW.out
       have HSk : Hid _ := hSee.out _ (HTW.out.on b5)
       have HS6 : Hid _ := hSee.out _ t6
       have HS7 : Hid _ := hSee.out _ hL6.turn
       clear hr6 hL6 hN6 t6 b5
       go_simp
       refine hK.out _ _ (by exact hS5) fun hH => ?_; clear hK K
       refine tkM 9 _ rfl rfl ?_; simp only [sz, ss]
       refine r1L 10 rfl fun K hK => ?_
       · go_simp
         refine hK.out _ _ (by exact HSk.out) fun hH => ?_; clear hK K
         refine r1L 11 rfl fun K hK => ?_
         · refine q1z rfl rfl _ _ _ rfl _ _ _ rfl rfl HRun.out ?_
           refine hK.out _ _ (by exact HS6.out) fun hH => ?_; clear hK K
           refine r1L 12 rfl fun K hK => ?_
           · go_simp
             refine hK.out _ _ (by exact HS7.out) fun hH => ?_; clear hK K
             refine wpAnyH_done (by kernel_rfl) ?_ _
             obtain ⟨rl, hrl⟩ := hLp2
             exact ⟨hY.out s5 q5 hadd _ v5 _ (by rw [← hky.out]; exact HL6.out), (HN6.out _ _ hrl rfl).trans hrl.symm, (HN6.out _ _ hD2 rfl).trans hD2.symm⟩
   refine rcL (fun K hK => ?_) ?_
   · go_simp
     go_at_call 77
     refine Calls.mono (add_u _ g base vj sj kv tv (hLI.out.wr.below hdr.out) PP _ _ _ _ _ _ gj [] hRd.out (rKids_nil _ _) hPP.out) ?_
     rintro e w5 hdone
     rcases hadd : Tr.add sj (gj, []) with x | ⟨s5, q5⟩
     · obtain ⟨rfl, t5⟩ := hdone.1 x hadd
       exact ⟨rfl, hX.out x hadd _ _ rfl (WTurn.of hdr.out |>.turn.trans t5), ((Nc.turn t5 (hLI.out.below hdr.out).wr.cellsS) _ _ hD2 rfl).trans hD2.symm⟩
     obtain ⟨rfl, v5, hW5, t5⟩ := hdone.2 s5 q5 hadd
     obtain ⟨a6, n6, c6, w6, hr6, hL6, hN6, f6, c6', t6⟩ := (hLI.out.below hdr.out).fin hob.out hod.out hgd.out hbl.out hW5 t5 (ky, q5)
     dsimp only at hr6
     obtain ⟨wk, hwk⟩ : ∃ wk, w5.alloc (.cells #[.int .u64 (ky.toNat : Int), .int .i64 q5] 133) = wk := ⟨_, rfl⟩
     have b5 : Below w5.heap.size w5 wk := by rw [← hwk]; exact (Below.refl _ _).alloc (zw0 _) _
     rw [hwk] at hr6
     have HRun : Hid _ := hr6
     have HL6 : Hid _ := hL6
     have HN6 : Hid _ := hN6
     have HTW : Hid (Turn (wb.heap.size :: WS g v) wc w5) := hLI.out.turnW (WTurn.of hdr.out |>.trans t5).turn
     have o5 : w5.cell? ⟨wb.heap.size, 0, none⟩ = some (.slice oa bs.length oc) := ((hLI.out.below hdr.out).step hob.out hod.out hgd.out hW5 t5).row.cell (j := 0) rfl
     have ok : wk.cell? ⟨wb.heap.size, 0, none⟩ = some (.slice oa bs.length oc) := (((hLI.out.below hdr.out).step hob.out hod.out hgd.out hW5 t5).row.below b5).cell (j := 0) rfl
     have hS5 := hSee.out _ HTW.out
     have HSk : Hid _ := hSee.out _ (HTW.out.on b5)
     have HS6 : Hid _ := hSee.out _ t6
     have HS7 : Hid _ := hSee.out _ hL6.turn
     clear hr6 hL6 hN6 t6 b5
     go_simp
     refine hK.out _ _ (by exact hS5) fun hH => ?_; clear hK K
     refine tkM 9 _ rfl rfl ?_; simp only [sz, ss]
     refine rdL [0, 10] ?_
     refine rcL (fun K hK => ?_) ?_
     · go_simp
       refine hK.out _ _ (by exact hH) fun hH => ?_; clear hK K
       refine r1L 10 rfl fun K hK => ?_
       · go_simp
         refine hK.out _ _ (by exact HSk.out) fun hH => ?_; clear hK K
         refine r1L 11 rfl fun K hK => ?_
         · refine q1z rfl rfl _ _ _ rfl _ _ _ rfl rfl HRun.out ?_
           refine hK.out _ _ (by exact HS6.out) fun hH => ?_; clear hK K
           refine r1L 12 rfl fun K hK => ?_
           · go_simp
             refine hK.out _ _ (by exact HS7.out) fun hH => ?_; clear hK K
             refine wpAnyH_done (by kernel_rfl) ?_ _
             obtain ⟨rl, hrl⟩ := hLp2
             exact ⟨hY.out s5 q5 hadd _ v5 _ (by rw [← hky.out]; exact HL6.out), (HN6.out _ _ hrl rfl).trans hrl.symm, (HN6.out _ _ hD2 rfl).trans hD2.symm⟩
     refine rcL (fun K hK => ?_) ?_
     · go_simp
       refine hK.out _ _ (by exact HSk.out) fun hH => ?_; clear hK K
       refine r1L 0 rfl fun K hK => ?_
       · go_simp
         refine hK.out _ _ (by exact hH) fun hH => ?_; clear hK K
         refine r1L 11 rfl fun K hK => ?_
         · refine q1z rfl rfl _ _ _ rfl _ _ _ rfl rfl HRun.out ?_
           refine hK.out _ _ (by exact HS6.out) fun hH => ?_; clear hK K
           refine r1L 12 rfl fun K hK => ?_
           · go_simp
             refine hK.out _ _ (by exact HS7.out) fun hH => ?_; clear hK K
             refine wpAnyH_done (by kernel_rfl) ?_ _
             obtain ⟨rl, hrl⟩ := hLp2
             exact ⟨hY.out s5 q5 hadd _ v5 _ (by rw [← hky.out]; exact HL6.out), (HN6.out _ _ hrl rfl).trans hrl.symm, (HN6.out _ _ hD2 rfl).trans hD2.symm⟩
     exact rnL
   exact rnL
 · rintro Y ⟨v1, s1, ov1, bs1, hst1, hbl1, hli1⟩ hDY
   have HG1 : Hid (Tr.layG Tr.leafOver Tr.keyF (Tr.groups 3 l) (s, []) = .ok (s1, bs1)) := by
    unfold Hid
    rw [← hst1, hEl, List.drop_length]
    rfl
   have HI1 : Hid _ := hli1
   have HBl1 : Hid (bs1.length ≤ 1000) := by
    have := HGl.out
    unfold Hid
    rw [hbl1, hEl]
    simp only [List.length_nil]
    omega
   have HDY : Hid _ := hDY
   have c1y : Y.cell? ⟨wa.heap.size, 1, none⟩ = some (.slice a' n' c') := (hli1.turn.row RCc.out HNa.out).cell (j := 1) rfl
   obtain ⟨we, hwe, Ve, be, ze⟩ := q0q Y 109 [.slice a' n' c']
   obtain ⟨wf, hwf, Vf, bf, zf⟩ := q0q we 3 [.int .i64 4]
   have BCF : Hid (Below Y.heap.size Y wf) := on be bf
   have R3 : Hid (Row wf Y.heap.size 109 [.slice a' n' c']) := Ve.below bf
   have R4 : Hid _ := Vf
   have HZ2 : Hid (wd.heap.size < Y.heap.size ∧ Y.heap.size < we.heap.size ∧ we.heap.size < wf.heap.size) := ⟨(Array.getElem?_eq_some_iff.1 hDY).1, by omega, by omega⟩
   have HZ3 : Hid (we.heap.size = Y.heap.size + 1) := ze
   clear hE hEl hEa encs hst1 hbl1 hli1 hDY Ve Vf be bf ze zf
   show wpAt _ _ _ _ _ _
   refine qEx ?_
   refine qEx (qNJ (n := 3) ?_)
   gi_wp2_with (refine ⟨trivial, ?_⟩; gi_at_call 78; refine ((callsIn_wide (n := 3 - 1)).2 (groupsB_u _ _ _ _ _)).mono ?_; rintro e w' ⟨rfl, rfl⟩)
   obtain ⟨encs, hE, hEl, hEa⟩ := groupsB_all Y.heap.size (Y.heap.size + 1) (most := 4) (by decide) (by decide) hn' HK.out
   refine qTZ (qTQ (n := 3) Tryz.func67 (encs := encs) (by rfl) (fun _ _ => rfl) hE (fun args ha => ?_) (fun j W => LayJ Tr.over Tr.fromK (Tr.groups 4 ks) g base wb.heap.size v kv tv wc s1 bs1 j W ∧ W.heap[wd.heap.size]? = some (.deferred (some []))) (fun ch W => LayX Tr.over Tr.fromK (Tr.groups 4 ks) g wb.heap.size v wc s1 bs1 ch W ∧ W.heap[wd.heap.size]? = some (.deferred (some []))) ?_ ?_ ?_ ?_ ?_ ?_)
   rotate_left 4
   · intro j args W hj hI hD hLp
     obtain ⟨xb, xo, xn, xc, rfl, gj, hgj, hne, hrj⟩ := hEa j args hj
     simp only [List.zip_toArray, List.zip_cons_cons, List.zip_nil_right, List.foldl_toArray, List.foldl_cons, List.foldl_nil, List.setIfInBounds_toArray, List.set_cons_zero, List.set_cons_succ]
     gi_wp2
     refine ⟨trivial, ?_⟩
     intro W2 hI2 hD2 hLp2
     clear hI hD hLp W
     obtain ⟨vj, sj, oa, oc, bs, hbs, hli, hx, hy⟩ := hI2.1.round hgj
     have hM2 : Hid _ := hI2.2
     have hLI : Hid _ := hli
     have hX : Hid _ := hx
     have hY : Hid _ := hy
     have hdr : Hid (Below W2.heap.size W2 W2.drew) := (Below.refl _ _).drew
     have hob : Hid (wb.heap.size ∉ WS g v) := HOb.out
     have hod : Hid (wb.heap.size < wc.heap.size) := HZ.out.2.2.1
     have hgd : Hid (g < wc.heap.size) := HGd.out
     have hbl : Hid (bs.length ≤ 10000) := by
      have h1 := (List.getElem?_eq_some_iff.1 hgj).1
      have h2 := HGl4.out
      unfold Hid
      rw [hbs]
      have := HBl1.out
      omega
     obtain ⟨PP, hPPd⟩ : ∃ PP : Nat → Prop, PP = fun b => b < w.heap.size ∧ b ∉ WS g v := ⟨_, rfl⟩
     have hRd : Hid (rBrns.rd W2.drew PP [.slice (some ⟨xb, xo, none⟩) xn xc] gj) := by
      rw [hPPd]
      have h1 : rBrns.rd w (fun b => b < w.heap.size ∧ b ∉ WS g v) [.slice (some ⟨xb, xo, none⟩) xn xc] gj := rBrns.weaken hrj (fun b hb hl => ⟨hl, HP.out b hb⟩)
      have h2 := Rep.below h1 BC.out
      exact Rep.below (hLI.out.turn.rep h2 (fun b hb _ e => by
       rcases List.mem_cons.1 e with e | e
       · have := hb.1; have := HZ.out; omega
       · exact hb.2 e)) hdr.out
     have hPP : Hid (∀ b, W2.heap.size ≤ b → b ∉ WS g vj) := by
      intro b hb e
      have := (hLI.out.wr.cellsS b e).lt
      omega
     have hgl : Hid (gj.length = xn) := (q0x hrj).1
     have hxm : xn ≤ 1000 := by
      rw [← hgl.out]
      exact zw1 (groups_le 4 ks gj (List.mem_of_getElem? hgj)) (by rw [(q0x HK.out).1]; exact hn')
     have hpj : Hid (∀ b ∈ gj, -9223372036854775808 ≤ b.2 ∧ b.2 ≤ 9223372036854775807) := fun b hb => HPg.out b (groups_mem 4 ks gj (List.mem_of_getElem? hgj) b hb)
     have hxn : 0 < xn := by
      have := (q0x hrj).1
      have := List.length_pos_iff.2 hne
      omega
     obtain ⟨ky, hky0⟩ : ∃ ky, ky = Tr.fromK gj := ⟨_, rfl⟩
     have hky : Hid (ky = Tr.fromK gj) := hky0
     clear hky0
     have hSee : Hid (∀ W', Turn (wb.heap.size :: WS g v) wc W' → W'.cell? ⟨w.heap.size, 0, none⟩ = some (.pointer (some ⟨g, 0, none⟩)) ∧ W'.cell? ⟨xb, xo, none⟩ = some (.int .u64 (ky.toNat : Int))) := by
      obtain ⟨b2, off2, e, hb1, hb2, hat⟩ := q2j hrj hxn
      simp only [Option.some.injEq, Addr.mk.injEq, and_true] at e
      obtain ⟨rfl, rfl⟩ := e
      have h1 := (hat 0 (List.length_pos_iff.2 hne)).1
      rw [Nat.zero_mul, Nat.add_zero] at h1
      have h2 : w.cell? ⟨xb, xo, none⟩ = some (.int .u64 (ky.toNat : Int)) := by
       rw [h1, hky.out]
       cases gj with
       | nil => exact absurd rfl hne
       | cons z zs => rfl
      intro W' t'
      refine ⟨(t'.row RPc.out HNp.out).cell (j := 0) rfl, t'.cell (Turn.cell (Turn.of (S := []) BC.out) h2 hb2 (by simp)) (Nat.lt_of_lt_of_le hb2 BC.out.size) (fun e => ?_)⟩
      rcases List.mem_cons.1 e with e | e
      · have := HZ.out; simp only at e; omega
      · exact HP.out _ hb1 e
     have hS0 : Hid (W2.drew.cell? ⟨w.heap.size, 0, none⟩ = some (.pointer (some ⟨g, 0, none⟩)) ∧ W2.drew.cell? ⟨xb, xo, none⟩ = some (.int .u64 (ky.toNat : Int))) := hSee.out _ hLI.out.turn.drew
     have o2 : W2.drew.cell? ⟨wb.heap.size, 0, none⟩ = some (.slice oa bs.length oc) := (hLI.out.row.below hdr.out).cell (j := 0) rfl
     clear hli hx hy hI2 hj hrj hbs
     refine wpIn_block ?_
     refine qDz (S := (fun w' : World => w'.cell? ⟨w.heap.size, 0, none⟩ = some (.pointer (some ⟨g, 0, none⟩)) ∧ w'.cell? ⟨xb, xo, none⟩ = some (.int .u64 (ky.toNat : Int)))) (plain_ops (by kernel_rfl)) (by rintro ⟨_, _, h⟩; exact h) (by kernel_rfl) hS0.out (fun hH => ?_)
     refine tkM 1 _ rfl rfl ?_; simp only [sz, ss]
     refine tkM 2 _ rfl rfl ?_; simp only [sz, ss]
     refine tkM 3 _ rfl rfl ?_; simp only [sz, ss]
     refine tkM 4 _ rfl rfl ?_; simp only [sz, ss]
     refine tkM 5 _ rfl rfl ?_; simp only [sz, ss]
     refine tkM 6 _ rfl rfl ?_; simp only [sz, ss]
     refine rdL [0, 7] ?_
     refine rcL (fun K hK => ?_) ?_
     · go_simp
       refine hK.out _ _ (by exact hH) fun hH => ?_; clear hK K
       refine r1L 7 rfl fun K hK => ?_
       · go_simp
         go_at_call 79
         refine Calls.mono (qUZ _ PP _ _ _ gj hRd.out hxm hpj.out) ?_
         rintro e w4 ⟨ia, il, ic, ka, kl, kc, rfl, hI4, hK4, b4⟩
         have hd4 : Hid (Below W2.heap.size W2 w4) := on (Below.refl _ _).drew b4
         have hlo : Hid ((Tr.over gj).1.length ≤ 1000 ∧ (Tr.over gj).2.length ≤ 1000) := by
          have := hgl.out
          refine ⟨?_, ?_⟩
          · show (List.map _ _).length ≤ _; rw [List.length_map, List.length_tail]; omega
          · show (List.map _ _).length ≤ _; rw [List.length_map]; omega
         have hRi4 : Hid (rItms.rd w4 (fun b => W2.heap.size ≤ b) [.slice ia il ic] (Tr.over gj).1) := hI4.rd (by have := hlo.out.1; omega)
         have hRk4 : Hid (rKids.rd w4 (fun b => W2.heap.size ≤ b) [.slice ka kl kc] (Tr.over gj).2) := hK4.rd (by have := hlo.out.2; omega)
         have hS4 := hSee.out _ (hLI.out.turn.on hd4.out)
         have o4 : w4.cell? ⟨wb.heap.size, 0, none⟩ = some (.slice oa bs.length oc) := (hLI.out.row.below hd4.out).cell (j := 0) rfl
         clear hI4 hK4 b4
         go_simp
         refine hK.out _ _ (by exact hS4) fun hH => ?_; clear hK K
         refine r1L 8 rfl fun K hK => ?_
         · go_simp
           go_at_call 77
           refine Calls.mono (add_u _ g base vj sj kv tv (hLI.out.wr.below hd4.out) (fun b => W2.heap.size ≤ b) _ _ _ _ _ _ _ _ hRi4.out hRk4.out hPP.out) ?_
           rintro e w5 hdone
           rcases hadd : Tr.add sj (Tr.over gj) with x | ⟨s5, q5⟩
           · obtain ⟨rfl, t5⟩ := hdone.1 x hadd
             exact ⟨rfl, ⟨hX.out x hadd _ _ rfl (WTurn.of hd4.out |>.turn.trans t5), ((Nc.below hd4.out).trans (Nc.turn t5 (hLI.out.below hd4.out).wr.cellsS)) _ _ hM2.out rfl⟩, (((Nc.below hd4.out).trans (Nc.turn t5 (hLI.out.below hd4.out).wr.cellsS)) _ _ hD2 rfl).trans hD2.symm⟩
           obtain ⟨rfl, v5, hW5, t5⟩ := hdone.2 s5 q5 hadd
           obtain ⟨a6, n6, c6, w6, hr6, hL6, hN6, f6, c6', t6⟩ := (hLI.out.below hd4.out).fin hob.out hod.out hgd.out hbl.out hW5 t5 (ky, q5)
           dsimp only at hr6
           obtain ⟨wk, hwk⟩ : ∃ wk, w5.alloc (.cells #[.int .u64 (ky.toNat : Int), .int .i64 q5] 133) = wk := ⟨_, rfl⟩
           have b5 : Below w5.heap.size w5 wk := by rw [← hwk]; exact (Below.refl _ _).alloc (zw0 _) _
           rw [hwk] at hr6
           have HRun : Hid _ := hr6
           have HL6 : Hid _ := hL6
           have HN6 : Hid _ := hN6
           have HTW : Hid (Turn (wb.heap.size :: WS g v) wc w5) := hLI.out.turnW (WTurn.of hd4.out |>.trans t5).turn
           have o5 : w5.cell? ⟨wb.heap.size, 0, none⟩ = some (.slice oa bs.length oc) := ((hLI.out.below hd4.out).step hob.out hod.out hgd.out hW5 t5).row.cell (j := 0) rfl
           have ok : wk.cell? ⟨wb.heap.size, 0, none⟩ = some (.slice oa bs.length oc) := (((hLI.out.below hd4.out).step hob.out hod.out hgd.out hW5 t5).row.below b5).cell (j := 0) rfl
           have hS5 := hSee.out _ HTW.out
           have HSk : Hid _ := hSee.out _ (HTW.out.on b5)
           have HS6 : Hid _ := hSee.out _ t6
           have HS7 : Hid _ := hSee.out _ hL6.turn
           clear hr6 hL6 hN6 t6 b5
           go_simp
           refine hK.out _ _ (by exact hS5) fun hH => ?_; clear hK K
           refine tkM 9 _ rfl rfl ?_; simp only [sz, ss]
           refine r1L 10 rfl fun K hK => ?_
           · go_simp
             refine hK.out _ _ (by exact HSk.out) fun hH => ?_; clear hK K
             refine r1L 11 rfl fun K hK => ?_
             · refine q1z rfl rfl _ _ _ rfl _ _ _ rfl rfl HRun.out ?_
               refine hK.out _ _ (by exact HS6.out) fun hH => ?_; clear hK K
               refine r1L 12 rfl fun K hK => ?_
               · go_simp
                 refine hK.out _ _ (by exact HS7.out) fun hH => ?_; clear hK K
                 refine wpAnyH_done (by kernel_rfl) ?_ _
                 obtain ⟨rl, hrl⟩ := hLp2
                 exact ⟨⟨hY.out s5 q5 hadd _ v5 _ (by rw [← hky.out]; exact HL6.out), ((Nc.below hd4.out).trans HN6.out) _ _ hM2.out rfl⟩, (((Nc.below hd4.out).trans HN6.out) _ _ hrl rfl).trans hrl.symm, (((Nc.below hd4.out).trans HN6.out) _ _ hD2 rfl).trans hD2.symm⟩
     refine rcL (fun K hK => ?_) ?_
     · go_simp
       go_at_call 79
       refine Calls.mono (qUZ _ PP _ _ _ gj hRd.out hxm hpj.out) ?_
       rintro e w4 ⟨ia, il, ic, ka, kl, kc, rfl, hI4, hK4, b4⟩
       have hd4 : Hid (Below W2.heap.size W2 w4) := on (Below.refl _ _).drew b4
       have hlo : Hid ((Tr.over gj).1.length ≤ 1000 ∧ (Tr.over gj).2.length ≤ 1000) := by
        have := hgl.out
        refine ⟨?_, ?_⟩
        · show (List.map _ _).length ≤ _; rw [List.length_map, List.length_tail]; omega
        · show (List.map _ _).length ≤ _; rw [List.length_map]; omega
       have hRi4 : Hid (rItms.rd w4 (fun b => W2.heap.size ≤ b) [.slice ia il ic] (Tr.over gj).1) := hI4.rd (by have := hlo.out.1; omega)
       have hRk4 : Hid (rKids.rd w4 (fun b => W2.heap.size ≤ b) [.slice ka kl kc] (Tr.over gj).2) := hK4.rd (by have := hlo.out.2; omega)
       have hS4 := hSee.out _ (hLI.out.turn.on hd4.out)
       have o4 : w4.cell? ⟨wb.heap.size, 0, none⟩ = some (.slice oa bs.length oc) := (hLI.out.row.below hd4.out).cell (j := 0) rfl
       clear hI4 hK4 b4
       go_simp
       refine hK.out _ _ (by exact hS4) fun hH => ?_; clear hK K
       refine rdL [0, 8] ?_
       refine rcL (fun K hK => ?_) ?_
       · go_simp
         refine hK.out _ _ (by exact hH) fun hH => ?_; clear hK K
         refine r1L 8 rfl fun K hK => ?_
         · go_simp
           go_at_call 77
           refine Calls.mono (add_u _ g base vj sj kv tv (hLI.out.wr.below hd4.out) (fun b => W2.heap.size ≤ b) _ _ _ _ _ _ _ _ hRi4.out hRk4.out hPP.out) ?_
           rintro e w5 hdone
           rcases hadd : Tr.add sj (Tr.over gj) with x | ⟨s5, q5⟩
           · obtain ⟨rfl, t5⟩ := hdone.1 x hadd
             exact ⟨rfl, ⟨hX.out x hadd _ _ rfl (WTurn.of hd4.out |>.turn.trans t5), ((Nc.below hd4.out).trans (Nc.turn t5 (hLI.out.below hd4.out).wr.cellsS)) _ _ hM2.out rfl⟩, (((Nc.below hd4.out).trans (Nc.turn t5 (hLI.out.below hd4.out).wr.cellsS)) _ _ hD2 rfl).trans hD2.symm⟩
           obtain ⟨rfl, v5, hW5, t5⟩ := hdone.2 s5 q5 hadd
           obtain ⟨a6, n6, c6, w6, hr6, hL6, hN6, f6, c6', t6⟩ := (hLI.out.below hd4.out).fin hob.out hod.out hgd.out hbl.out hW5 t5 (ky, q5)
           dsimp only at hr6
           obtain ⟨wk, hwk⟩ : ∃ wk, w5.alloc (.cells #[.int .u64 (ky.toNat : Int), .int .i64 q5] 133) = wk := ⟨_, rfl⟩
           have b5 : Below w5.heap.size w5 wk := by rw [← hwk]; exact (Below.refl _ _).alloc (zw0 _) _
           rw [hwk] at hr6
           have HRun : Hid _ := hr6
           have HL6 : Hid _ := hL6
           have HN6 : Hid _ := hN6
           have HTW : Hid (Turn (wb.heap.size :: WS g v) wc w5) := hLI.out.turnW (WTurn.of hd4.out |>.trans t5).turn
           have o5 : w5.cell? ⟨wb.heap.size, 0, none⟩ = some (.slice oa bs.length oc) := ((hLI.out.below hd4.out).step hob.out hod.out hgd.out hW5 t5).row.cell (j := 0) rfl
           have ok : wk.cell? ⟨wb.heap.size, 0, none⟩ = some (.slice oa bs.length oc) := (((hLI.out.below hd4.out).step hob.out hod.out hgd.out hW5 t5).row.below b5).cell (j := 0) rfl
           have hS5 := hSee.out _ HTW.out
           have HSk : Hid _ := hSee.out _ (HTW.out.on b5)
           have HS6 : Hid _ := hSee.out _ t6
           have HS7 : Hid _ := hSee.out _ hL6.turn
           clear hr6 hL6 hN6 t6 b5
           go_simp
           refine hK.out _ _ (by exact hS5) fun hH => ?_; clear hK K
           refine tkM 9 _ rfl rfl ?_; simp only [sz, ss]
           refine r1L 10 rfl fun K hK => ?_
           · go_simp
             refine hK.out _ _ (by exact HSk.out) fun hH => ?_; clear hK K
             refine r1L 11 rfl fun K hK => ?_
             · refine q1z rfl rfl _ _ _ rfl _ _ _ rfl rfl HRun.out ?_
               refine hK.out _ _ (by exact HS6.out) fun hH => ?_; clear hK K
               refine r1L 12 rfl fun K hK => ?_
               · go_simp
                 refine hK.out _ _ (by exact HS7.out) fun hH => ?_; clear hK K
                 refine wpAnyH_done (by kernel_rfl) ?_ _
                 obtain ⟨rl, hrl⟩ := hLp2
                 exact ⟨⟨hY.out s5 q5 hadd _ v5 _ (by rw [← hky.out]; exact HL6.out), ((Nc.below hd4.out).trans HN6.out) _ _ hM2.out rfl⟩, (((Nc.below hd4.out).trans HN6.out) _ _ hrl rfl).trans hrl.symm, (((Nc.below hd4.out).trans HN6.out) _ _ hD2 rfl).trans hD2.symm⟩
       refine rcL (fun K hK => ?_) ?_
       · go_simp
         go_at_call 77
         refine Calls.mono (add_u _ g base vj sj kv tv (hLI.out.wr.below hd4.out) (fun b => W2.heap.size ≤ b) _ _ _ _ _ _ _ _ hRi4.out hRk4.out hPP.out) ?_
         rintro e w5 hdone
         rcases hadd : Tr.add sj (Tr.over gj) with x | ⟨s5, q5⟩
         · obtain ⟨rfl, t5⟩ := hdone.1 x hadd
           exact ⟨rfl, ⟨hX.out x hadd _ _ rfl (WTurn.of hd4.out |>.turn.trans t5), ((Nc.below hd4.out).trans (Nc.turn t5 (hLI.out.below hd4.out).wr.cellsS)) _ _ hM2.out rfl⟩, (((Nc.below hd4.out).trans (Nc.turn t5 (hLI.out.below hd4.out).wr.cellsS)) _ _ hD2 rfl).trans hD2.symm⟩
         obtain ⟨rfl, v5, hW5, t5⟩ := hdone.2 s5 q5 hadd
         obtain ⟨a6, n6, c6, w6, hr6, hL6, hN6, f6, c6', t6⟩ := (hLI.out.below hd4.out).fin hob.out hod.out hgd.out hbl.out hW5 t5 (ky, q5)
         dsimp only at hr6
         obtain ⟨wk, hwk⟩ : ∃ wk, w5.alloc (.cells #[.int .u64 (ky.toNat : Int), .int .i64 q5] 133) = wk := ⟨_, rfl⟩
         have b5 : Below w5.heap.size w5 wk := by rw [← hwk]; exact (Below.refl _ _).alloc (zw0 _) _
         rw [hwk] at hr6
         have HRun : Hid _ := hr6
         have HL6 : Hid _ := hL6
         have HN6 : Hid _ := hN6
         have HTW : Hid (Turn (wb.heap.size :: WS g v) wc w5) := hLI.out.turnW (WTurn.of hd4.out |>.trans t5).turn
         have o5 : w5.cell? ⟨wb.heap.size, 0, none⟩ = some (.slice oa bs.length oc) := ((hLI.out.below hd4.out).step hob.out hod.out hgd.out hW5 t5).row.cell (j := 0) rfl
         have ok : wk.cell? ⟨wb.heap.size, 0, none⟩ = some (.slice oa bs.length oc) := (((hLI.out.below hd4.out).step hob.out hod.out hgd.out hW5 t5).row.below b5).cell (j := 0) rfl
         have hS5 := hSee.out _ HTW.out
         have HSk : Hid _ := hSee.out _ (HTW.out.on b5)
         have HS6 : Hid _ := hSee.out _ t6
         have HS7 : Hid _ := hSee.out _ hL6.turn
         clear hr6 hL6 hN6 t6 b5
         go_simp
         refine hK.out _ _ (by exact hS5) fun hH => ?_; clear hK K
         refine tkM 9 _ rfl rfl ?_; simp only [sz, ss]
         refine rdL [0, 10] ?_
         refine rcL (fun K hK => ?_) ?_
         · go_simp
           refine hK.out _ _ (by exact hH) fun hH => ?_; clear hK K
           refine r1L 10 rfl fun K hK => ?_
           · go_simp
             refine hK.out _ _ (by exact HSk.out) fun hH => ?_; clear hK K
             refine r1L 11 rfl fun K hK => ?_
             · refine q1z rfl rfl _ _ _ rfl _ _ _ rfl rfl HRun.out ?_
               refine hK.out _ _ (by exact HS6.out) fun hH => ?_; clear hK K
               refine r1L 12 rfl fun K hK => ?_
               · go_simp
                 refine hK.out _ _ (by exact HS7.out) fun hH => ?_; clear hK K
                 refine wpAnyH_done (by kernel_rfl) ?_ _
                 obtain ⟨rl, hrl⟩ := hLp2
                 exact ⟨⟨hY.out s5 q5 hadd _ v5 _ (by rw [← hky.out]; exact HL6.out), ((Nc.below hd4.out).trans HN6.out) _ _ hM2.out rfl⟩, (((Nc.below hd4.out).trans HN6.out) _ _ hrl rfl).trans hrl.symm, (((Nc.below hd4.out).trans HN6.out) _ _ hD2 rfl).trans hD2.symm⟩
         refine rcL (fun K hK => ?_) ?_
         · go_simp
           refine hK.out _ _ (by exact HSk.out) fun hH => ?_; clear hK K
           refine r1L 0 rfl fun K hK => ?_
           · go_simp
             refine hK.out _ _ (by exact hH) fun hH => ?_; clear hK K
             refine r1L 11 rfl fun K hK => ?_
             · refine q1z rfl rfl _ _ _ rfl _ _ _ rfl rfl HRun.out ?_
               refine hK.out _ _ (by exact HS6.out) fun hH => ?_; clear hK K
               refine r1L 12 rfl fun K hK => ?_
               · go_simp
                 refine hK.out _ _ (by exact HS7.out) fun hH => ?_; clear hK K
                 refine wpAnyH_done (by kernel_rfl) ?_ _
                 obtain ⟨rl, hrl⟩ := hLp2
                 exact ⟨⟨hY.out s5 q5 hadd _ v5 _ (by rw [← hky.out]; exact HL6.out), ((Nc.below hd4.out).trans HN6.out) _ _ hM2.out rfl⟩, (((Nc.below hd4.out).trans HN6.out) _ _ hrl rfl).trans hrl.symm, (((Nc.below hd4.out).trans HN6.out) _ _ hD2 rfl).trans hD2.symm⟩
         exact rnL
       exact rnL
     exact rnL
   · rintro Z ⟨⟨v2, s2, ov2, bs2, hst2, -, hli2⟩, hM⟩ hD
     have HG2 : Hid (Tr.layG Tr.over Tr.fromK (Tr.groups 4 ks) (s1, bs1) = .ok (s2, bs2)) := by
      unfold Hid
      rw [← hst2, hEl, List.drop_length]
      rfl
     obtain ⟨oa, oc, rfl, -⟩ := hli2.out.slice
     have HI2 : Hid _ := hli2
     have o9 := hli2.row.cell (j := 0) rfl
     have HM : Hid _ := hM
     have HD : Hid _ := hD
     clear hst2 hli2 hM hD
     show wpAt _ _ _ _ _ _
     refine qNJ (n := 3) ?_
     gi_wp2
     refine ⟨by simp, .inl ⟨_, _, rfl, run_takeDeferred HD.out, ?_⟩⟩
     refine ⟨by simp, .inl ⟨_, _, rfl, run_takeDeferred ((World.putObj_heap_other (by have := HZ2.out; omega)).trans HM.out), ?_⟩⟩
     have h1 := HI2.out.put (.deferred none) (by have := HZ2.out; have := HZ.out; omega) HD.out rfl
     have h2 := h1.put (.deferred none) (r := wd.heap.size) (by have := HZ.out; omega) ((World.putObj_heap_other (by have := HZ2.out; omega)).trans HM.out) rfl
     obtain ⟨q1, q2, q3, q4⟩ := h2.done BC.out (by have := HZ.out; omega) HGd.out
     refine ⟨.slice oa bs2.length oc, ?_, fun y hy => ?_, fun s' bs' hy => ?_⟩
     · simp [results, Tryz.f67, go_sem]
     · rw [Tr.lay, HG1.out] at hy
       simp only [HG2.out] at hy
       cases hy
     · rw [Tr.lay, HG1.out] at hy
       simp only [HG2.out] at hy
       cases hy
       exact ⟨oa, _, oc, v2, rfl, q1, q2, q3, q4⟩
   · intro ch W hX hD
     obtain ⟨⟨x, hch, hx, tX⟩, hM⟩ := hX
     refine ⟨by simp, .inl ⟨_, _, rfl, run_takeDeferred hD, ?_⟩⟩
     refine ⟨by simp, .inl ⟨_, _, rfl, run_takeDeferred ((World.putObj_heap_other (by have := HZ2.out; omega)).trans hM), ?_⟩⟩
     have hT := ((qYj tX BC.out (by have := HZ.out; omega)).putN (r := wf.heap.size) (by have := HZ2.out; have := HZ.out; omega) (.deferred none)).putN (r := wd.heap.size) (by have := HZ.out; omega) (.deferred none)
     refine ⟨fun y hy => ?_, fun s' bs' hy => ?_⟩
     · rw [Tr.lay, HG1.out] at hy
       simp only [hx] at hy
       cases hy
       exact ⟨hch, hT⟩
     · rw [Tr.lay, HG1.out] at hy
       simp only [hx] at hy
       cases hy
   · obtain ⟨j, hj⟩ := List.mem_iff_getElem?.1 ha
     obtain ⟨xb, xo, xn, xc, rfl, -⟩ := hEa j args hj
     rfl
   · rintro j W r o o' hr0 hr ho ⟨⟨vj, sj, ov, bs, h1, h2, h3⟩, hM⟩
     exact ⟨⟨vj, sj, ov, bs, h1, h2, h3.put o' (by have := HZ.out; have := HZ2.out; omega) hr ho⟩, (World.putObj_heap_other (by have := HZ2.out; omega)).trans hM⟩
   · intro rec
     have b2 : Below Y.heap.size Y ((wf.alloc (.deferred (some []))).alloc (.loop rec)) := on BCF.out (on ((Below.refl _ _).alloc (zw0 _) _) ((Below.refl _ _).alloc (zw0 _) _))
     exact ⟨⟨v1, s1, _, bs1, rfl, rfl, HI1.out.below b2⟩, (b2.block _ HZ2.out.1).trans HDY.out⟩
   · intro rec
     have b2 : Below wf.heap.size wf ((wf.alloc (.deferred (some []))).alloc (.loop rec)) := on ((Below.refl _ _).alloc (zw0 _) _) ((Below.refl _ _).alloc (zw0 _) _)
     exact ⟨(R3.out.below b2).cell (j := 0) rfl, by have h := (R4.out.below b2).cell (j := 0) rfl; rw [HZ3.out] at h; exact h⟩
 · intro ch W hX hD
   obtain ⟨x, hch, hx, tX⟩ := hX
   refine ⟨by simp, .inl ⟨_, _, rfl, run_takeDeferred hD, ?_⟩⟩
   have hT := (qYj tX BC.out (by have := HZ.out; omega)).putN (r := wd.heap.size) (by have := HZ.out; omega) (.deferred none)
   refine ⟨fun y hy => ?_, fun s' bs' hy => ?_⟩
   · rw [Tr.lay, hx] at hy
     cases hy
     exact ⟨hch, hT⟩
   · rw [Tr.lay, hx] at hy
     cases hy
 · obtain ⟨j, hj⟩ := List.mem_iff_getElem?.1 ha
   obtain ⟨xb, xo, xn, xc, rfl, -⟩ := hEa j args hj
   rfl
 · rintro j W r o o' hr0 hr ho ⟨vj, sj, ov, bs, h1, h2, h3⟩
   exact ⟨vj, sj, ov, bs, h1, h2, h3.put o' (by have := HZ.out; omega) hr ho⟩
 · intro rec
   exact ⟨v, s, _, [], rfl, rfl, (HI0.out.below BCD.out).below (on ((Below.refl _ _).alloc (zw0 _) _) ((Below.refl _ _).alloc (zw0 _) _))⟩
 · intro rec
   have b2 : Below wd.heap.size wd ((wd.alloc (.deferred (some []))).alloc (.loop rec)) := on ((Below.refl _ _).alloc (zw0 _) _) ((Below.refl _ _).alloc (zw0 _) _)
   exact ⟨(R1.out.below b2).cell (j := 0) rfl, by have h := (R2.out.below b2).cell (j := 0) rfl; rw [HZ1.out] at h; exact h⟩
end Go.Proofs.YtkbmadoaomoojaaGreat
namespace Go.Proofs.YtkbmadoaomoojaaGreat
set_option maxHeartbeats 16000000
set_option maxRecDepth 20000
open Go.RowKit
set_option linter.unusedVariables false
namespace Tr
theorem add_page {s s' : Pgs} {n : Nod} {q : Int} (hl : s.length ≤ 2048) (h : add s n = .ok (s', q)) : (1 ≤ q ∧ q ≤ 2049) ∧ s'.length ≤ 2048 := by
 have hs := slot_le s
 unfold add at h
 split at h
 case isTrue => cases h
 case isFalse h1 =>
  split at h
  case isTrue =>
   cases h
   refine ⟨by omega, ?_⟩
   unfold putAt
   split
   · rw [List.length_set]; exact hl
   · rw [zw2]; simp only [List.length_cons, List.length_nil]; omega
  case isFalse => cases h
theorem qPX {α : Type} {mk : List α → Nod} {fr : List α → UInt64} : ∀ {gl : List (List α)} {s s' : Pgs} {b0 bs : List Brn}, s.length ≤ 2048 → (∀ b ∈ b0, 1 ≤ b.2 ∧ b.2 ≤ 2049) → layG mk fr gl (s, b0) = .ok (s', bs) → bs.length = b0.length + gl.length ∧ (∀ b ∈ bs, 1 ≤ b.2 ∧ b.2 ≤ 2049) ∧ s'.length ≤ 2048
 | [], s, s', b0, bs, hl, hb, h => by
   unfold layG at h
   cases h
   exact ⟨rfl, hb, hl⟩
 | g :: gl, s, s', b0, bs, hl, hb, h => by
   unfold layG at h
   rcases ha : add s (mk g) with x | ⟨s1, q1⟩
   · simp only [ha] at h
     cases h
   · simp only [ha] at h
     have hp := add_page hl ha
     obtain ⟨k1, k2, k3⟩ := qPX (gl := gl) hp.2 (fun b h' => by
      rcases List.mem_append.1 h' with h' | h'
      · exact hb b h'
      · simp only [List.mem_singleton] at h'
        rw [h']
        exact hp.1) h
     refine ⟨?_, k2, k3⟩
     rw [k1, zw2, List.length_cons, List.length_cons, List.length_nil]
     omega
theorem lay_some {s s' : Pgs} {cn : Cnt} {bs : List Brn} (hl : s.length ≤ 2048) (h : lay s cn = .ok (s', bs)) : bs.length = (cn.1.length + 2) / 3 + (cn.2.length + 3) / 4 ∧ (∀ b ∈ bs, 1 ≤ b.2 ∧ b.2 ≤ 2049) ∧ s'.length ≤ 2048 := by
 unfold lay at h
 rcases h1 : layG leafOver keyF (groups 3 cn.1) (s, []) with x | ⟨s1, b1⟩
 · simp only [h1] at h
   cases h
 · simp only [h1] at h
   obtain ⟨k1, k2, k3⟩ := qPX hl (fun b hb => by cases hb) h1
   obtain ⟨k4, k5, k6⟩ := qPX k3 k2 h
   refine ⟨?_, k5, k6⟩
   rw [k4, k1]
   unfold groups
   rw [q1X, q1X, List.length_nil]
   omega
structure Fuel (k : Nat) (cn : Cnt) : Prop where
 one : cn.1 = [] ∨ cn.2 = []
 few : csize cn ≤ 3 ^ (k - 1)
 pos : 1 ≤ k
 two : cn.1 ≠ [] → 2 ≤ k
theorem Fuel.next {k : Nat} {s s' : Pgs} {cn : Cnt} {bs : List Brn} (h : Fuel k cn) (hm : cn.1 ≠ [] ∨ 1 < cn.2.length) (hl : s.length ≤ 2048) (hy : lay s cn = .ok (s', bs)) : ∃ k', k = k' + 1 ∧ Fuel k' ([], bs) ∧ bs.length < 2 * cn.1.length + cn.2.length := by
 have hb := (lay_some hl hy).1
 have hf := h.few
 unfold csize at hf
 have h2 : 2 ≤ k := by
  rcases hm with hm | hm
  · exact h.two hm
  · by_cases hk : k = 1
    · rw [hk] at hf
      simp only [Nat.sub_self, Nat.pow_zero] at hf
      omega
    · have := h.pos; omega
 obtain ⟨j, rfl⟩ : ∃ j, k = j + 1 + 1 := ⟨k - 2, by omega⟩
 simp only [Nat.add_sub_cancel, Nat.pow_succ] at hf
 have hp : 1 ≤ 3 ^ j := Nat.one_le_pow _ _ (by decide)
 have hn : cn.1.length = 0 ∨ cn.2.length = 0 := h.one.imp (fun e => by rw [e]; rfl) (fun e => by rw [e]; rfl)
 have hm' : 0 < cn.1.length ∨ 1 < cn.2.length := hm.imp (fun e => List.length_pos_iff.2 e) id
 refine ⟨j + 1, rfl, ⟨.inl rfl, ?_, by omega, fun e => absurd rfl e⟩, ?_⟩
 · show 0 + bs.length ≤ 3 ^ (j + 1 - 1)
   rw [Nat.add_sub_cancel, hb]
   rcases hn with e | e <;> rw [e] <;> rw [e] at hf <;> omega
 · rw [hb]
   omega
end Tr
theorem Wr.notBox {w : World} {g base b : Nat} {v kv tv : Value} {s : Pgs} {xs : List Value} (h : Wr w g base v s kv tv) (hr : Row w b 111 xs) : b ∉ WS g v := fun e => by
 rcases mem_WS.1 e with rfl | e
 · have := h.row.eq
   rw [hr.eq] at this
   cases this
 · obtain ⟨c, z, h4⟩ := h.pgs.typed b e
   rw [hr.eq] at h4
   cases h4
theorem Wr.setBox {w : World} {g base b : Nat} {v kv tv : Value} {s : Pgs} {xs : List Value} (h : Wr w g base v s kv tv) (hr : Row w b 111 xs) (j : Nat) (u : Value) : Wr (w.setCell ⟨b, j, none⟩ u) g base v s kv tv := by
 have hn := h.notBox hr
 refine ⟨h.row.setO (p := ⟨b, j, none⟩) (fun e => hn (mem_WS.2 (.inl e))) u, h.pgs.keep (fun x hx hc => Below.heap_setCell _ _ _ _ (fun e => ?_)), h.few, by have := h.size; simpa [World.setCell] using this⟩
 simp only at e
 subst e
 rcases hc with ⟨c, z, hc⟩ | hc
 · rw [hr.eq] at hc
   cases hc
 · exact hn (mem_WS.2 (.inr hc))
theorem IsCnt.setBox {w : World} {base b : Nat} {u u' : Value} {cn : Cnt} {xs : List Value} (h : IsCnt w base u u' cn) (hr : Row w b 111 xs) (j : Nat) (x : Value) : IsCnt (w.setCell ⟨b, j, none⟩ x) base u u' cn :=
 h.keep1 fun y hy => Below.heap_setCell _ _ _ _ (fun e => by
  simp only at e
  subst e
  rcases hy with e | e
  · obtain ⟨c, z, h1⟩ := h.items.typed y e
    rw [hr.eq] at h1
    cases h1
  · obtain ⟨c, z, h1⟩ := h.kids.typed y e
    rw [hr.eq] at h1
    cases h1)
def RootDone (k : Nat) (s : Pgs) (cn : Cnt) (g base : Nat) (v kv tv : Value) (w : World) (e : Ending) (w' : World) : Prop :=
 (∀ x, Tr.rootOf k s cn = .error x → e = q9Q x ∧ Turn (WS g v) w w') ∧ (∀ s' q, Tr.rootOf k s cn = .ok (s', q) → e = .returned (.int .i64 q) ∧ ∃ v', Wr w' g base v' s' kv tv ∧ WTurn g v w v' w')
theorem RootDone.no {k : Nat} {s : Pgs} {cn : Cnt} {g base : Nat} {v kv tv : Value} {w w' : World} {x : Int} (h : Tr.rootOf k s cn = .error x) (t : Turn (WS g v) w w') : RootDone k s cn g base v kv tv w (q9Q x) w' :=
 ⟨(fun y hy => by rw [h] at hy; cases hy; exact ⟨rfl, t⟩), (fun s' q hq => by rw [h] at hq; cases hq)⟩
theorem RootDone.yes {k : Nat} {s s' : Pgs} {cn : Cnt} {g base : Nat} {v kv tv v' : Value} {w w' : World} {q : Int} {e : Ending} (h : Tr.rootOf k s cn = .ok (s', q)) (he : e = .returned (.int .i64 q)) (hW : Wr w' g base v' s' kv tv) (t : WTurn g v w v' w') : RootDone k s cn g base v kv tv w e w' :=
 ⟨(fun y hy => by rw [h] at hy; cases hy), (fun s2 q2 hq => by rw [h] at hq; cases hq; exact ⟨he, v', hW, t⟩)⟩
structure RootI (k : Nat) (s : Pgs) (cn : Cnt) (g base b : Nat) (v kv tv : Value) (w wr : World) (kj : Nat) (sj : Pgs) (cj : Cnt) (vj : Value) (a a' : Option Addr) (n c n' c' : Nat) : Prop where
 row : Row wr b 111 [.slice a n c, .slice a' n' c']
 cnt : IsCnt wr 0 (.slice a n c) (.slice a' n' c') cj
 wr_ : Wr wr g base vj sj kv tv
 turn : WTurn g v w vj wr
 same : Tr.rootOf kj sj cj = Tr.rootOf k s cn
 fuel : Tr.Fuel kj cj
 pages : ∀ b ∈ cj.2, 1 ≤ b.2 ∧ b.2 ≤ 2049
 len : cj.1.length = n ∧ cj.2.length = n' ∧ n ≤ 1000 ∧ n' ≤ 1000
def qGJ (w : World) (p : Addr) : Nat := match w.cell? p with
 | some (.slice _ n _) => n
 | _ => 0
theorem RootI.next {k : Nat} {s : Pgs} {cn : Cnt} {g base b : Nat} {v kv tv : Value} {w wr : World} {kj : Nat} {sj : Pgs} {cj : Cnt} {vj : Value} {a a' : Option Addr} {n c n' c' : Nat} (h : RootI k s cn g base b v kv tv w wr kj sj cj vj a a' n c n' c') (hb : w.heap.size ≤ b) (hm : cj.1 ≠ [] ∨ 1 < cj.2.length)
 {s5 : Pgs} {bs : List Brn} {w5 : World} {v5 : Value} {oa : Option Addr} {on_ oc : Nat} (hy : Tr.lay sj cj = .ok (s5, bs)) (ho : OwnB 133 w5 wr.heap.size (.slice oa on_ oc) bs) (hW : Wr w5 g base v5 s5 kv tv) (t : WTurn g vj wr v5 w5) :
 Row w5 b 111 [.slice a n c, .slice a' n' c'] ∧ on_ < 2 * n + n' ∧ ∃ k5, RootI k s cn g base b v kv tv w ((w5.setCell ⟨b, 0, none⟩ (.slice none 0 0)).setCell ⟨b, 1, none⟩ (.slice oa on_ oc)) k5 s5 ([], bs) v5 none oa 0 0 on_ oc := by
 obtain ⟨k5, rfl, hf, hlt⟩ := h.fuel.next hm h.wr_.few hy
 have R5 : Row w5 b 111 [.slice a n c, .slice a' n' c'] := t.turn.row h.row (h.wr_.notBox h.row)
 have hon : on_ = bs.length := by obtain ⟨x, y, e, -⟩ := ho.slice; simp only [Value.slice.injEq] at e; exact e.2.1
 have R6 := R5.set 0 (.slice none 0 0)
 have hl := (Tr.lay_some h.wr_.few hy)
 obtain ⟨l1, l2, l3, l4⟩ := h.len
 refine ⟨R5, by rw [hon, ← l1, ← l2]; exact hlt, k5, R6.set 1 _, ?_, (hW.setBox R5 0 _).setBox R6 1 _, ⟨(((h.turn.trans t).turn.set (p := ⟨b, 0, none⟩) (.inl hb) _).set (p := ⟨b, 1, none⟩) (.inl hb) _), (h.turn.trans t).place⟩, ?_, hf, hl.2.1, rfl, hon.symm, by omega, ?_⟩
 · exact ((IsCnt.mk (OwnI.nil _ _ _) (ho.mono (Nat.zero_le _)) : IsCnt w5 0 (.slice none 0 0) (.slice oa on_ oc) ([], bs)).setBox R5 0 _).setBox R6 1 _
 · rw [← h.same]
   conv => rhs; unfold Tr.rootOf
   rw [if_pos hm]
   simp only [hy]
 · rw [hon, hl.1]
   omega
namespace Tr
open Lf
def PagesIn (l : List Brn) : Prop := ∀ b ∈ l, 1 ≤ b.2 ∧ b.2 ≤ 2049
theorem contOf_leaf {n : Nod} (fr : UInt64) (h : n.2 = []) : contOf n fr = (n.1, []) := by unfold contOf; rw [if_pos h]
theorem qRj {n : Nod} (fr : UInt64) (h : n.2 ≠ []) : contOf n fr = ([], (fr, n.2.getD 0 0) :: (n.1.zip n.2.tail).map fun z => (z.1.1, z.2)) := by unfold contOf; rw [if_neg h]
theorem contOf_len {n : Nod} (fr : UInt64) (h : Lf.Ok n) (hk : n.2 ≠ []) : (contOf n fr).1 = [] ∧ (contOf n fr).2.length = n.1.length + 1 := by
 rw [qRj fr hk]
 refine ⟨rfl, ?_⟩
 rcases shape h with e | e
 · exact absurd e hk
 · simp [e]
theorem contOf_size {n : Nod} (fr : UInt64) (h : Lf.Ok n) : 1 ≤ csize (contOf n fr) ∧ csize (contOf n fr) ≤ 4 := by
 have h1 := h.some_
 have h2 := h.few
 by_cases hk : n.2 = []
 · rw [contOf_leaf fr hk]; unfold csize; simp only [List.length_nil]; omega
 · obtain ⟨e1, e2⟩ := contOf_len fr h hk
   unfold csize; rw [e1, e2]; simp only [List.length_nil]; omega
theorem contOf_pages {n : Nod} (fr : UInt64) (h : Lf.Ok n) : PagesIn (contOf n fr).2 := by
 intro b hb
 by_cases hk : n.2 = []
 · rw [contOf_leaf fr hk] at hb; cases hb
 · rw [qRj fr hk] at hb
   have hin : b.2 ∈ n.2 := by
    rcases List.mem_cons.1 hb with rfl | hb
    · obtain ⟨k, ks, e⟩ := List.exists_cons_of_ne_nil hk
      rw [e]; simp
    · obtain ⟨z, hz, rfl⟩ := List.mem_map.1 hb
      exact List.mem_of_mem_tail (List.of_mem_zip hz).2
   have := h.pages _ hin
   omega
theorem way_lt {n : Nod} (fr key : UInt64) (h : Lf.Ok n) (hk : n.2 ≠ []) : way n key < (contOf n fr).2.length := by
 rw [(contOf_len fr h hk).2]
 have : way n key ≤ n.1.length := by unfold way; exact List.length_filter_le _ _
 omega
structure Mended (ks : List Brn) (m : Cnt × Nat × Nat) : Prop where
 some_ : 1 ≤ csize m.1
 few : csize m.1 ≤ 6
 pages : PagesIn m.1.2
 lt : m.2.1 < m.2.2
 le : m.2.2 ≤ ks.length
theorem mend_ok {s : Pgs} {ks : List Brn} {first : Nat} {now : Cnt} {m : Cnt × Nat × Nat} (hf : first < ks.length) (h2 : 2 ≤ ks.length) (hs : csize now ≤ 6) (hp : PagesIn now.2) (h : mend s ks first now = .ok m) : Mended ks m := by
 unfold mend at h
 by_cases h1 : 2 ≤ csize now
 · rw [if_pos h1] at h
   cases h
   exact ⟨by show 1 ≤ csize now; omega, hs, hp, by show first < first + 1; omega, hf⟩
 rw [if_neg h1] at h
 by_cases h3 : 0 < first
 · rw [if_pos h3] at h
   rcases hn : nodeE s (ks.getD (first - 1) (0, 0)).2 with x | nd
   · rw [hn] at h; cases h
   · rw [hn] at h
     cases h
     have ho := nodeE_ok hn
     have c1 := contOf_size (ks.getD (first - 1) (0, 0)).1 ho
     unfold csize at c1 h1
     refine ⟨?_, ?_, ?_, ?_, ?_⟩
     · show 1 ≤ csize (joined _ _); unfold csize joined; simp only [zw2]; omega
     · show csize (joined _ _) ≤ 6; unfold csize joined; simp only [zw2]; omega
     · intro b hb
       rcases List.mem_append.1 hb with hb | hb
       · exact contOf_pages _ ho b hb
       · exact hp b hb
     · show first - 1 < first + 1; omega
     · show first + 1 ≤ ks.length; omega
 · rw [if_neg h3] at h
   rcases hn : nodeE s (ks.getD (first + 1) (0, 0)).2 with x | nd
   · rw [hn] at h; cases h
   · rw [hn] at h
     cases h
     have ho := nodeE_ok hn
     have c1 := contOf_size (ks.getD (first + 1) (0, 0)).1 ho
     unfold csize at c1 h1
     refine ⟨?_, ?_, ?_, ?_, ?_⟩
     · show 1 ≤ csize (joined _ _); unfold csize joined; simp only [zw2]; omega
     · show csize (joined _ _) ≤ 6; unfold csize joined; simp only [zw2]; omega
     · intro b hb
       rcases List.mem_append.1 hb with hb | hb
       · exact hp b hb
       · exact contOf_pages _ ho b hb
     · show first < first + 1 + 1; omega
     · show first + 1 + 1 ≤ ks.length; omega
structure Chg (s' : Pgs) (cn : Cnt) : Prop where
 few : csize cn ≤ 6
 pages : PagesIn cn.2
 len : s'.length ≤ 2048
 one : cn.1 = [] ∨ cn.2 = []
theorem replaced_len (l m : List Brn) (i j : Nat) (hij : i < j) (hj : j ≤ l.length) : (replaced l i j m).length = l.length + m.length - (j - i) := by
 unfold replaced
 simp only [zw2, zw4, List.length_drop]
 omega
theorem change_few {T : List Itm → List Itm} {key : UInt64} (hT : ∀ l, l.length ≤ 3 → (T l).length ≤ 4) : ∀ (d : Nat) {s s' : Pgs} {b : Brn} {cn : Cnt}, s.length ≤ 2048 → change T key d s b = .ok (s', cn) → Chg s' cn
 | 0, s, s', b, cn, _, h => by cases h
 | d + 1, s, s', b, cn, hl, h => by
   unfold change at h
   rcases hn : nodeE s b.2 with x | nd
   · rw [hn] at h; cases h
   rw [hn] at h
   have ho := nodeE_ok hn
   simp only at h
   by_cases hk : nd.2 = []
   · rw [if_pos hk] at h
     cases h
     have := hT nd.1 ho.few
     exact ⟨by unfold csize; simp only [List.length_nil]; omega, (fun b hb => by cases hb), hl, .inr rfl⟩
   · rw [if_neg hk] at h
     rcases hr : change T key d s ((contOf nd b.1).2.getD (way nd key) (0, 0)) with x | r
     · rw [hr] at h; cases h
     rw [hr] at h
     simp only at h
     have hc := change_few hT d (s' := r.1) (cn := r.2) hl hr
     rcases hm : mend r.1 (contOf nd b.1).2 (way nd key) r.2 with x | m
     · rw [hm] at h; cases h
     rw [hm] at h
     simp only at h
     obtain ⟨e1, e2⟩ := contOf_len b.1 ho hk
     have h1 := ho.some_
     have h3 := ho.few
     have hM := mend_ok (way_lt b.1 key ho hk) (by omega) hc.few hc.pages hm
     rcases hy : lay r.1 m.1 with x | q
     · rw [hy] at h; cases h
     rw [hy] at h
     cases h
     obtain ⟨l1, l2, l3⟩ := lay_some (s' := q.1) (bs := q.2) hc.len hy
     have f := hM.few
     have lt := hM.lt
     have le := hM.le
     unfold csize at f
     refine ⟨?_, ?_, l3, .inl rfl⟩
     · unfold csize
       rw [replaced_len _ _ _ _ lt le, e2, l1]
       simp only [List.length_nil]
       omega
     · intro x hx
       unfold replaced at hx
       rcases List.mem_append.1 hx with hx | hx
       · rcases List.mem_append.1 hx with hx | hx
         · exact contOf_pages _ ho x (List.mem_of_mem_take hx)
         · exact l2 x hx
       · exact contOf_pages _ ho x (List.mem_of_mem_drop hx)
def layR (s : Pgs) (c : Cnt) (ks : List Brn) (i j : Nat) : Except Int (Pgs × Cnt) := match lay s c with
 | .error e => .error e
 | .ok q => .ok (q.1, ([], replaced ks i j q.2))
theorem layR_error {s : Pgs} {c : Cnt} {x : Int} (h : lay s c = .error x) (ks : List Brn) (i j : Nat) : layR s c ks i j = .error x := by unfold layR; rw [h]
theorem layR_ok {s s' : Pgs} {c : Cnt} {bs : List Brn} (h : lay s c = .ok (s', bs)) (ks : List Brn) (i j : Nat) : layR s c ks i j = .ok (s', ([], replaced ks i j bs)) := by unfold layR; rw [h]
end Tr
structure qEz (T : List Itm → List Itm) (f : Nat) (bs : Array Value) (B : Nat) (J : World → Prop) : Prop where
 enters : ∀ args w, (callFunc f args).run Tryz.prog w = .ok (.enter f args) w
 few : ∀ l, l.length ≤ 3 → (T l).length ≤ 4
 stay : ∀ {w w' : World}, J w → Below B w w' → J w'
 call : ∀ {w : World} {base : Nat} {a : Option Addr} {n c : Nat} {l : List Itm}, J w → B ≤ base → base ≤ w.heap.size → OwnI 45 w base (.slice a n c) l → l.length ≤ 3 → Lf.rise l = true →
  Calls Tryz.prog f (#[.slice a n c] ++ bs) w fun e w' => ∃ ra rn rc, e = .returned (.slice ra rn rc) ∧ OwnI 45 w' base (.slice ra rn rc) (T l) ∧ Grew w w' (.slice a n c) (.slice ra rn rc)
structure TK (ts : List TypeId) (w w' : World) : Prop where
 size : w.heap.size ≤ w'.heap.size
 keep : ∀ {b : Nat} {c : Array Value} {z : Nat × Nat} {t : TypeId}, w.heap[b]? = some (.cells c t z) → t ∉ ts → w'.heap[b]? = w.heap[b]?
theorem TK.of {w w' : World} (h : Below w.heap.size w w') (ts : List TypeId) : TK ts w w' := ⟨h.size, fun e _ => h.block _ (Array.getElem?_eq_some_iff.1 e).1⟩
theorem TK.trans {ts : List TypeId} {a b c : World} (h : TK ts a b) (k : TK ts b c) : TK ts a c := ⟨zw1 h.size k.size, fun e hn => (k.keep ((h.keep e hn).trans e) hn).trans (h.keep e hn)⟩
theorem TK.box {w w' : World} {b : Nat} {t : TypeId} {xs : List Value} (hr : Row w b t xs) (k : Kept (· ≠ b) w w') : TK [t] w w' :=
 ⟨k.size, fun e hn => k.block _ (fun e' => by subst e'; rw [hr.eq] at e; cases e; exact hn (by simp))⟩
theorem TK.grewB {w w' : World} {base : Nat} {v v' : Value} {l : List Brn} (h : OwnB 133 w base v l) (k : Grew w w' v v') : TK [133] w w' :=
 ⟨k.grown.size, fun {b} _ _ _ e hn => k.grown.block b (Array.getElem?_eq_some_iff.1 e).1 (fun e' => by obtain ⟨c, z, h1⟩ := h.typed b e'.symm; rw [h1] at e; cases e; exact hn (by simp))⟩
theorem TK.grewI {w w' : World} {base : Nat} {v v' : Value} {l : List Itm} (h : OwnI 45 w base v l) (k : Grew w w' v v') : TK [45] w w' :=
 ⟨k.grown.size, fun {b} _ _ _ e hn => k.grown.block b (Array.getElem?_eq_some_iff.1 e).1 (fun e' => by obtain ⟨c, z, h1⟩ := h.typed b e'.symm; rw [h1] at e; cases e; exact hn (by simp))⟩
theorem TK.turn {w w' : World} {g base : Nat} {v kv tv : Value} {s : Pgs} (h : Wr w g base v s kv tv) (k : Turn (WS g v) w w') : TK [107, 53] w w' :=
 ⟨k.size, fun {b} _ _ _ e hn => k.block b ⟨(Array.getElem?_eq_some_iff.1 e).1, fun e' => by
  rcases mem_WS.1 e' with rfl | e'
  · rw [h.row.eq] at e; cases e; exact hn (by simp)
  · obtain ⟨c, z, h1⟩ := h.pgs.typed b e'
    rw [h1] at e; cases e; exact hn (by simp)⟩⟩
theorem Row.tk {ts : List TypeId} {w w' : World} {b : Nat} {t : TypeId} {xs : List Value} (h : Row w b t xs) (k : TK ts w w') (hn : t ∉ ts) : Row w' b t xs := h.keep (k.keep h.eq hn)
theorem OwnB.tk {ts : List TypeId} {e : TypeId} {w w' : World} {base : Nat} {v : Value} {l : List Brn} (h : OwnB e w base v l) (k : TK ts w w') (hn : e ∉ ts) : OwnB e w' base v l := h.keep1 fun b hb => by obtain ⟨c, z, h1⟩ := h.typed b hb; exact k.keep h1 hn
theorem OwnI.tk {ts : List TypeId} {e : TypeId} {w w' : World} {base : Nat} {v : Value} {l : List Itm} (h : OwnI e w base v l) (k : TK ts w w') (hn : e ∉ ts) : OwnI e w' base v l := h.keep1 fun b hb => by obtain ⟨c, z, h1⟩ := h.typed b hb; exact k.keep h1 hn
theorem IsCnt.tk {ts : List TypeId} {w w' : World} {base : Nat} {u u' : Value} {cn : Cnt} (h : IsCnt w base u u' cn) (k : TK ts w w') (hn : 45 ∉ ts) (hn' : 133 ∉ ts) : IsCnt w' base u u' cn := ⟨h.items.tk k hn, h.kids.tk k hn'⟩
theorem Wr.tk {ts : List TypeId} {w w' : World} {g base : Nat} {v kv tv : Value} {s : Pgs} (h : Wr w g base v s kv tv) (k : TK ts w w') (h1 : 107 ∉ ts) (h2 : 53 ∉ ts) (h3 : 5 ∉ ts) : Wr w' g base v s kv tv :=
 ⟨h.row.tk k h1, h.pgs.keep (fun b _ hc => by
  rcases hc with ⟨c, z, e⟩ | e
  · exact k.keep e h3
  · obtain ⟨c, z, e⟩ := h.pgs.typed b e
    exact k.keep e h2), h.few, zw1 h.size k.size⟩
theorem WTurn.low {g : Nat} {v v' : Value} {w w1 w2 : World} (h : WTurn g v w v' w1) (k : Below w.heap.size w1 w2) : WTurn g v w v' w2 :=
 ⟨⟨k.os.trans h.turn.os, k.tape.trans h.turn.tape, k.output.trans h.turn.output, zw1 h.turn.size k.size, fun b hb => (k.block b hb.1).trans (h.turn.block b hb)⟩, h.place⟩
theorem WTurn.under {w w' : World} {g base B : Nat} {v v' kv tv : Value} {s : Pgs} (h : Wr w g base v s kv tv) (t : WTurn g v w v' w') (hB : B ≤ g ∧ B ≤ base) : Below B w w' :=
 t.turn.below (by have := h.gb; omega) (fun b hb => by
  rcases mem_WS.1 hb with rfl | e
  · exact hB.1
  · have := (h.pgs.lt b e).1; omega)
theorem qDq {Pr : Program} {fn : Func} {p : Tmp} {ty t : TypeId} {tmps : Array Value} {w2 : World} {b : Nat} {d : TypeDesc} {x0 x1 : Value} (V : Row w2 b t [x0, x1])
 (u0 u1 : Value) (h : fn.results = #[.cell p ty]) (hp : tmps.getD p undef = .pointer (some ⟨b, 0, none⟩))
 (hu : Pr.underlying ty = some d) (hd : d.isRow = true) (hi : (Pr.info? ty).map (·.size) = some 2) {R : Ending → World → Prop}
 (hR : ∀ w', Kept (· ≠ b) w2 w' → R (.returned (.agg #[u0, u1])) w') :
 bodyPost Pr fn R .ret { tmps := tmps, defers := [] } ((w2.setCell ⟨b, 0, none⟩ u0).setCell ⟨b, 1, none⟩ u1) := by
 obtain ⟨w', hw, V', K'⟩ := V.whole2 u0 u1
 rw [hw]
 have hr := q8Z (Pr := Pr) (fn := fn) h hp V' hu hd hi
 exact bodyPost_ret hr rfl (hR w' K')
def ChgDone (R : Except Int (Pgs × Cnt)) (g base : Nat) (v kv tv : Value) (w : World) (e : Ending) (w' : World) : Prop :=
 (∀ x, R = .error x → e = q9Q x ∧ Turn (WS g v) w w') ∧ (∀ s' cn, R = .ok (s', cn) → ∃ ca n c da n' c' v', e = .returned (.agg #[.slice ca n c, .slice da n' c']) ∧ IsCnt w' w.heap.size (.slice ca n c) (.slice da n' c') cn ∧ Wr w' g base v' s' kv tv ∧ WTurn g v w v' w')
theorem ChgDone.no {R : Except Int (Pgs × Cnt)} {g base : Nat} {v kv tv : Value} {w w' : World} {x : Int} (h : R = .error x) (t : Turn (WS g v) w w') : ChgDone R g base v kv tv w (q9Q x) w' :=
 ⟨(fun y hy => by rw [h] at hy; cases hy; exact ⟨rfl, t⟩), (fun s' q hq => by rw [h] at hq; cases hq)⟩
theorem ChgDone.yes {R : Except Int (Pgs × Cnt)} {g base : Nat} {v kv tv v' : Value} {w w' : World} {s' : Pgs} {cn : Cnt} {e : Ending} {ca da : Option Addr} {n c n' c' : Nat} (h : R = .ok (s', cn)) (he : e = .returned (.agg #[.slice ca n c, .slice da n' c'])) (hC : IsCnt w' w.heap.size (.slice ca n c) (.slice da n' c') cn) (hW : Wr w' g base v' s' kv tv) (t : WTurn g v w v' w') : ChgDone R g base v kv tv w e w' :=
 ⟨(fun y hy => by rw [h] at hy; cases hy), (fun s2 q2 hq => by rw [h] at hq; cases hq; exact ⟨_, _, _, _, _, _, v', he, hC, hW, t⟩)⟩
def ChgSaid (T : List Itm → List Itm) (key : UInt64) (f : Nat) (bs : Array Value) (B : Nat) (J : World → Prop) (d : Nat) : Prop :=
 ∀ (w : World) (g base : Nat) (v : Value) (s : Pgs), Wr w g base v s (.int .u64 (key.toNat : Int)) (.func (.func f) #[] bs) → J w → B ≤ g ∧ B ≤ base → ∀ (fr : UInt64) (p : Int), 1 ≤ p → p ≤ 2049 → Tr.change T key d s (fr, p) ≠ .error 9 →
   Calls Tryz.prog 68 #[.pointer (some ⟨g, 0, none⟩), .agg #[.int .u64 (fr.toNat : Int), .int .i64 p]] w fun e w' => ChgDone (Tr.change T key d s (fr, p)) g base v (.int .u64 (key.toNat : Int)) (.func (.func f) #[] bs) w e w'
end Go.Proofs.YtkbmadoaomoojaaGreat
namespace Go.Proofs.YtkbmadoaomoojaaGreat
set_option maxHeartbeats 16000000
set_option maxRecDepth 20000
set_option linter.unusedVariables false
namespace Tr
open Oct Crc Lf
theorem good_of {s : Pgs} {p : Int} {lo hi lo' hi' : Bnd} (h : good s p lo hi = true) (h1 : ∀ k, above lo k = true → above lo' k = true) (h2 : ∀ k, under hi k = true → under hi' k = true) : good s p lo' hi' = true := by
 unfold good within at *
 rw [Bool.and_eq_true] at h ⊢
 refine ⟨h.1, List.all_eq_true.2 fun x hx => ?_⟩
 have := List.all_eq_true.1 h.2 x hx
 rw [Bool.and_eq_true] at this ⊢
 exact ⟨h1 _ this.1, h2 _ this.2⟩
theorem fit_hi {s : Pgs} : ∀ {d : Nat} {lo hi hi' : Bnd} {p : Int}, Fit s d lo hi p → (∀ k, under hi k = true → under hi' k = true) → Fit s d lo hi' p
 | 0, _, _, _, _, h, _ => h
 | d + 1, lo, hi, hi', p, ⟨h1, h2, h3⟩, hw => by
   refine ⟨h1, good_of h2 (fun _ h => h) hw, ?_⟩
   by_cases hd : d = 0
   · rw [if_pos hd] at h3 ⊢; exact h3
   · rw [if_neg hd] at h3 ⊢
     refine ⟨h3.1, fun i hi0 => ?_⟩
     have h := h3.2 i hi0
     unfold hiOf at h ⊢
     by_cases h0 : i < (nod s p).1.length
     · rw [if_pos h0] at h ⊢; exact h
     · rw [if_neg h0] at h ⊢; exact fit_hi h hw
theorem fit_lo {s : Pgs} : ∀ {d : Nat} {lo lo' hi : Bnd} {p : Int}, Fit s d lo hi p → (∀ k, above lo k = true → above lo' k = true) → Fit s d lo' hi p
 | 0, _, _, _, _, h, _ => h
 | d + 1, lo, lo', hi, p, ⟨h1, h2, h3⟩, hw => by
   refine ⟨h1, good_of h2 hw (fun _ h => h), ?_⟩
   by_cases hd : d = 0
   · rw [if_pos hd] at h3 ⊢; exact h3
   · rw [if_neg hd] at h3 ⊢
     refine ⟨h3.1, fun i hi0 => ?_⟩
     have h := h3.2 i hi0
     unfold loOf at h ⊢
     by_cases h0 : 0 < i
     · rw [if_pos h0] at h ⊢; exact h
     · rw [if_neg h0] at h ⊢; exact fit_lo h hw
theorem fit_lt {s : Pgs} {d : Nat} {a : UInt64} {hi : Bnd} {p : Int} (h : Fit s d (some a) hi p) : under hi a = true := by
 obtain ⟨-, f2⟩ := qCX h
 obtain ⟨x, hx, -⟩ := qFx (qQj h)
 obtain ⟨k1, k2⟩ := f2 x hx
 simp only [above, decide_eq_true_eq] at k1
 exact qBX k2 k1
theorem qZX {s : Pgs} {d : Nat} {hi hi' : Bnd} (hw : ∀ k, under hi k = true → under hi' k = true) : ∀ {bs : List Brn}, q6x s d hi bs → q6x s d hi' bs
 | [], _ => trivial
 | [b], h => ⟨fit_hi h.1 hw, trivial⟩
 | b :: b' :: r, h => ⟨h.1, qZX hw h.2⟩
theorem q9x {s : Pgs} {d : Nat} {hi : Bnd} : ∀ {bs : List Brn}, q6x s d hi bs → ∀ (i : Nat) (h : i < bs.length), Fit s d (some bs[i].1) (nx hi (bs.drop (i + 1))) bs[i].2
 | b :: r, hc, 0, h => hc.1
 | b :: r, hc, i + 1, h => q9x hc.2 i (by simpa using h)
theorem chain_of {s : Pgs} {d : Nat} {hi : Bnd} : ∀ {bs : List Brn}, (∀ (i : Nat) (h : i < bs.length), Fit s d (some bs[i].1) (nx hi (bs.drop (i + 1))) bs[i].2) → q6x s d hi bs
 | [], _ => trivial
 | b :: r, h => ⟨h 0 (by simp), chain_of fun i hi' => h (i + 1) (by simpa using hi')⟩
theorem q7q {s : Pgs} {d : Nat} {hi : Bnd} : ∀ {bs : List Brn}, q6x s d hi bs → bs.Pairwise (fun a b => a.1.toNat < b.1.toNat) ∧ ∀ b ∈ bs, under hi b.1 = true
 | [], _ => ⟨List.Pairwise.nil, fun b hb => by cases hb⟩
 | [b], h => ⟨by simp, fun x hx => by obtain rfl := List.mem_singleton.1 hx; exact fit_lt h.1⟩
 | b :: b' :: r, h => by
   obtain ⟨c1, c2⟩ := q7q h.2
   have hlt : b.1.toNat < b'.1.toNat := by have := fit_lt h.1; simpa [nx, under] using this
   refine ⟨List.pairwise_cons.2 ⟨fun x hx => ?_, c1⟩, fun x hx => ?_⟩
   · rcases List.mem_cons.1 hx with rfl | hx
     · exact hlt
     · exact Nat.lt_trans hlt ((List.pairwise_cons.1 c1).1 x hx)
   · rcases List.mem_cons.1 hx with rfl | hx
     · exact qBX (c2 b' (by simp)) (Nat.le_of_lt hlt)
     · exact c2 x hx
theorem leaf_fit {s : Pgs} {q : Int} {g : List Itm} {lo hi : Bnd} (h1 : 1 ≤ q) (h2 : q ≤ s.length) (hok : Lf.Ok (g, [])) (hp : page s q = enc (g, [])) (hb : ∀ x ∈ g, above lo x.1 = true ∧ under hi x.1 = true) : Fit s 1 lo hi q ∧ its s 1 q = g ∧ pgs s 1 q = [q] := by
 obtain ⟨d1, d2⟩ := q4J (ok_iff.2 hok)
 have hn : nod s q = (g, []) := by unfold nod; rw [hp, d2]
 refine ⟨⟨⟨h1, h2⟩, ?_, ?_⟩, ?_, ?_⟩
 · unfold good within
   rw [hp, d1, hn, Bool.and_eq_true]
   refine ⟨by decide, List.all_eq_true.2 fun x hx => ?_⟩
   rw [Bool.and_eq_true]
   exact hb x hx
 · rw [if_pos rfl, hn]
 · unfold its; rw [hn]; rfl
 · unfold pgs; rw [hn]; rfl
theorem over_len (g : List Brn) : (over g).1.length = g.length - 1 ∧ (over g).2.length = g.length := by simp [over]
theorem over_item {g : List Brn} {i : Nat} (h : i + 1 < g.length) : (over g).1[i]? = some (g[i + 1].1, 0) := by
 cases g with
 | nil => simp at h
 | cons b r =>
   have : i < r.length := by simpa using h
   simp [over, this]
theorem over_kid {g : List Brn} {i : Nat} (h : i < (over g).2.length) : (over g).2[i] = (g[i]'(by simpa [over] using h)).2 := by simp [over]
theorem qXJ {s : Pgs} {d : Nat} (hd : 1 ≤ d) (p : Int) : p ∈ pgs s d p := by
 cases d with
 | zero => omega
 | succ d => unfold pgs; simp
theorem up_rise : ∀ {l : List Itm}, Up l → rise l = true
 | [], _ => rfl
 | [x], _ => rfl
 | x :: y :: l, h => by
   obtain ⟨h1, h2⟩ := List.pairwise_cons.1 h
   simp only [rise, Bool.and_eq_true, decide_eq_true_eq]
   exact ⟨h1 y (by simp), up_rise h2⟩
theorem over_ok {s : Pgs} {d : Nat} {hi : Bnd} {g : List Brn} (hd : 1 ≤ d) (hl : s.length ≤ 2048) (h2 : 2 ≤ g.length) (h4 : g.length ≤ 4) (hc : q6x s d hi g) (hn : (cpgs s d g).Nodup) : Lf.Ok (over g) := by
 obtain ⟨l1, l2⟩ := over_len g
 obtain ⟨k1, -⟩ := q7q hc
 refine ⟨by omega, by omega, .inr (by omega), ?_, .inr ?_, ?_, ?_⟩
 · refine up_rise ?_
   unfold Up over
   simp only
   rw [List.pairwise_map]
   exact List.Pairwise.sublist (List.tail_sublist g) k1
 · intro x hx
   unfold over at hx
   obtain ⟨b, -, rfl⟩ := List.mem_map.1 hx
   rfl
 · intro k hk
   unfold over at hk
   obtain ⟨b, hb, rfl⟩ := List.mem_map.1 hk
   have hq : b.2 ∈ cpgs s d g := List.mem_flatMap.2 ⟨b, hb, qXJ hd _⟩
   have := (q7z hc b.2 hq).1
   omega
 · rw [apart_iff]
   unfold over
   simp only
   rw [List.pairwise_map]
   have : ∀ {g : List Brn}, (cpgs s d g).Nodup → g.Pairwise (fun a b => a.2 ≠ b.2) := by
    intro g
    induction g with
    | nil => intro _; exact List.Pairwise.nil
    | cons b r ih =>
      intro h
      unfold cpgs at h
      rw [List.flatMap_cons] at h
      obtain ⟨n1, n2, n3⟩ := List.nodup_append.1 h
      refine List.pairwise_cons.2 ⟨fun x hx e => ?_, ih n2⟩
      exact n3 b.2 (qXJ hd _) b.2 (List.mem_flatMap.2 ⟨x, hx, by rw [← e]; exact qXJ hd _⟩) rfl
   exact this hn
theorem over_fit {s : Pgs} {q : Int} {g : List Brn} {d : Nat} {hi : Bnd} (hd : 1 ≤ d) (h1 : 1 ≤ q) (h2 : q ≤ s.length) (hg : 2 ≤ g.length) (hok : Lf.Ok (over g)) (hp : page s q = enc (over g)) (hc : q6x s d hi g) : Fit s (d + 1) (some (fromK g)) hi q ∧ its s (d + 1) q = cits s d g ∧ pgs s (d + 1) q = q :: cpgs s d g := by
 obtain ⟨d1, d2⟩ := q4J (ok_iff.2 hok)
 have hn : nod s q = over g := by unfold nod; rw [hp, d2]
 obtain ⟨k1, k2⟩ := q7q hc
 obtain ⟨l1, l2⟩ := over_len g
 have hkn : (over g).2 ≠ [] := fun e => by rw [e] at l2; simp at l2; omega
 refine ⟨⟨⟨h1, h2⟩, ?_, ?_⟩, ?_, ?_⟩
 · unfold good within
   rw [hp, d1, hn, Bool.and_eq_true]
   refine ⟨by decide, List.all_eq_true.2 fun x hx => ?_⟩
   unfold over at hx
   obtain ⟨b, hb, rfl⟩ := List.mem_map.1 hx
   rw [Bool.and_eq_true]
   refine ⟨?_, k2 b (List.mem_of_mem_tail hb)⟩
   cases g with
   | nil => simp at hb
   | cons c r =>
     have := (List.pairwise_cons.1 k1).1 b hb
     have h3 : (c.1).toNat ≤ b.1.toNat := Nat.le_of_lt this
     exact decide_eq_true h3
 · rw [if_neg (by omega), hn]
   refine ⟨hkn, fun i hi0 => ?_⟩
   have hig : i < g.length := by rw [l2] at hi0; exact hi0
   rw [over_kid hi0]
   have hf := q9x hc i hig
   have e1 : loOf (over g) (some (fromK g)) i = some g[i].1 := by
    unfold loOf
    by_cases h0 : 0 < i
    · rw [if_pos h0]
      obtain ⟨j, rfl⟩ : ∃ j, i = j + 1 := ⟨i - 1, by omega⟩
      rw [show j + 1 - 1 = j from rfl, over_item hig]
      rfl
    · rw [if_neg h0]
      obtain rfl : i = 0 := by omega
      cases g with
      | nil => simp at hig
      | cons c r => rfl
   have e2 : hiOf (over g) hi i = nx hi (g.drop (i + 1)) := by
    unfold hiOf
    by_cases h0 : i < (over g).1.length
    · rw [if_pos h0, over_item (by omega), List.drop_eq_getElem_cons (show i + 1 < g.length by omega)]
      rfl
    · rw [if_neg h0, List.drop_of_length_le (by omega)]
      rfl
   rw [e1, e2]
   exact hf
 · unfold its
   rw [hn, if_neg hkn]
   unfold cits over
   simp only
   rw [List.flatMap_map]
 · unfold pgs
   rw [hn]
   unfold cpgs over
   simp only
   rw [List.flatMap_map]
def nxg {α : Type} (fr : List α → UInt64) (hi : Bnd) : List (List α) → Bnd
 | [] => hi
 | g :: _ => some (fr g)
theorem nx_nxg {α : Type} {fr : List α → UInt64} {hi : Bnd} {gs : List (List α)} {bs : List Brn} (h : bs.map (·.1) = gs.map fr) : nx hi bs = nxg fr hi gs := by
 cases gs with
 | nil => have : bs = [] := by simpa using h
          rw [this]; rfl
 | cons g gs =>
   cases bs with
   | nil => simp at h
   | cons b bs => simp only [List.map_cons, List.cons.injEq] at h; simp [nx, nxg, h.1]
theorem qYQ {α : Type} {mk : List α → Nod} {fr : List α → UInt64} {D : Nat} {hi : Bnd} {itemsOf : List α → List Itm} {pagesOf : List α → List Int} : ∀ (gs : List (List α)) (s : Pgs) (b0 : List Brn), s.length ≤ 2048 →
 (∀ g ∈ gs, Lf.Ok (mk g)) →
 (∀ pre g post, gs = pre ++ g :: post → ∀ (s2 : Pgs) (q : Int), Ext s s2 → 1 ≤ q → q ≤ s2.length → page s2 q = enc (mk g) → Fit s2 D (some (fr g)) (nxg fr hi post) q ∧ its s2 D q = itemsOf g ∧ pgs s2 D q = q :: pagesOf g) →
 (gs.flatMap pagesOf).Nodup → (∀ p ∈ gs.flatMap pagesOf, page s p ≠ [] ∧ 1 ≤ p) →
 (layG mk fr gs (s, b0) = .error 51 ∧ 2048 < s.length + gs.length) ∨ ∃ s' new, layG mk fr gs (s, b0) = .ok (s', b0 ++ new) ∧ Ext s s' ∧ s'.length ≤ 2048 ∧ s'.length ≤ s.length + gs.length ∧ q6x s' D hi new ∧ cits s' D new = gs.flatMap itemsOf ∧ new.map (·.1) = gs.map fr ∧ (cpgs s' D new).Nodup ∧ ∀ p ∈ cpgs s' D new, p ∈ gs.flatMap pagesOf ∨ page s p = []
 | [], s, b0, hl, _, _, _, _ => .inr ⟨s, [], by rw [List.append_nil]; rfl, Ext.refl s, hl, by simp, trivial, rfl, rfl, List.nodup_nil, fun p hp => by simp [cpgs] at hp⟩
 | g :: gs, s, b0, hl, hok, hfit, hnd, hpg => by
   unfold layG
   rcases ha : add s (mk g) with e | ⟨s1, q⟩
   · obtain ⟨rfl, h1⟩ := add_error hl (hok g (by simp)) ha
     exact .inl ⟨rfl, by simp only [List.length_cons]; omega⟩
   · have A := add_ok hl ha
     simp only
     rw [List.flatMap_cons] at hnd hpg
     obtain ⟨n1, n2, n3⟩ := List.nodup_append.1 hnd
     have hup : ∀ p, page s p ≠ [] → 1 ≤ p → page s1 p ≠ [] := fun p h1 h2 => by rw [A.ext.same p h2 h1]; exact h1
     have ih := qYQ (mk := mk) (fr := fr) (D := D) (hi := hi) (itemsOf := itemsOf) (pagesOf := pagesOf) gs s1 (b0 ++ [(fr g, q)]) A.few (fun g' hg' => hok g' (by simp [hg'])) (fun pre g' post he s2 q2 hx => hfit (g :: pre) g' post (by rw [he]; rfl) s2 q2 (A.ext.trans hx)) n2 (fun p hp => ⟨hup p (hpg p (List.mem_append_right _ hp)).1 (hpg p (List.mem_append_right _ hp)).2, (hpg p (List.mem_append_right _ hp)).2⟩)
     have hlen := A.len
     rcases ih with ⟨i1, i2⟩ | ⟨s', new, i1, i2, i3, i4, i5, i6, i7, i8, i9⟩
     · exact .inl ⟨i1, by simp only [List.length_cons]; omega⟩
     · have hq1 : page s1 q ≠ [] := by rw [A.is]; exact enc_ne A.ok_
       have hq' : page s' q = enc (mk g) := by rw [i2.same q A.pos hq1, A.is]
       obtain ⟨f1, f2, f3⟩ := hfit [] g gs rfl s' q (A.ext.trans i2) A.pos (by have := A.le; have := i2.len; omega) hq'
       refine .inr ⟨s', (fr g, q) :: new, by rw [i1, List.append_assoc]; rfl, A.ext.trans i2, i3, by simp only [List.length_cons]; omega, ⟨by rw [nx_nxg i7]; exact f1, i5⟩, ?_, by simp [i7], ?_, ?_⟩
       · unfold cits at i6 ⊢
         rw [List.flatMap_cons, List.flatMap_cons, i6, f2]
       · have hp1 : ∀ p ∈ cpgs s' D new, p ∈ gs.flatMap pagesOf ∨ page s1 p = [] := i9
         unfold cpgs at i8 hp1 ⊢
         rw [List.flatMap_cons]
         rw [f3]
         refine List.nodup_append.2 ⟨List.nodup_cons.2 ⟨fun hm => ?_, n1⟩, i8, fun a ha' b hb e => ?_⟩
         · exact (hpg q (List.mem_append_left _ hm)).1 A.was
         · subst e
           rcases List.mem_cons.1 ha' with rfl | ha'
           · rcases hp1 _ hb with k | k
             · exact (hpg _ (List.mem_append_right _ k)).1 A.was
             · exact hq1 k
           · rcases hp1 _ hb with k | k
             · exact n3 _ ha' _ k rfl
             · exact hup _ (hpg _ (List.mem_append_left _ ha')).1 (hpg _ (List.mem_append_left _ ha')).2 k
       · intro p hp
         unfold cpgs at hp
         rw [List.flatMap_cons, f3] at hp
         rw [List.flatMap_cons]
         rcases List.mem_append.1 hp with hp | hp
         · rcases List.mem_cons.1 hp with rfl | hp
           · exact .inr A.was
           · exact .inl (List.mem_append_left _ hp)
         · rcases i9 p hp with k | k
           · exact .inl (List.mem_append_right _ k)
           · refine .inr ?_
             have h1p : 1 ≤ p := ((q7z i5 p hp).1).1
             cases hs : page s p with
             | nil => rfl
             | cons y ys => exact absurd k (hup p (by rw [hs]; simp) h1p)
end Tr
namespace Tr
open Oct Crc Lf
theorem groups3 {α : Type} {l : List α} (h1 : 1 ≤ l.length) (h4 : l.length ≤ 4) : ∃ gs : List (List α), groups 3 l = gs ∧ gs.flatten = l ∧ 1 ≤ gs.length ∧ gs.length ≤ 2 ∧ ∀ g ∈ gs, 1 ≤ g.length ∧ g.length ≤ 3 := by
 by_cases h : l.length ≤ 3
 · refine ⟨[l], ?_, by simp, by simp, by simp, fun g hg => by obtain rfl := List.mem_singleton.1 hg; exact ⟨h1, h⟩⟩
   unfold groups
   rw [show (l.length + 3 - 1) / 3 = 1 by omega]
   simp [groupsN, List.take_of_length_le]
 · have h' : l.length = 4 := by omega
   refine ⟨[l.take 2, l.drop 2], ?_, by simp, by simp, by simp, fun g hg => ?_⟩
   · unfold groups
     rw [show (l.length + 3 - 1) / 3 = 2 by omega]
     simp [groupsN, h', List.take_of_length_le]
   · simp only [List.mem_cons, List.not_mem_nil, or_false] at hg
     rcases hg with rfl | rfl
     · rw [zw4]; omega
     · rw [List.length_drop]; omega
theorem groups4 {α : Type} {l : List α} (h1 : 2 ≤ l.length) (h4 : l.length ≤ 5) : ∃ gs : List (List α), groups 4 l = gs ∧ gs.flatten = l ∧ 1 ≤ gs.length ∧ gs.length ≤ 2 ∧ (∀ g ∈ gs, 2 ≤ g.length ∧ g.length ≤ 4) ∧ (l.length ≤ 4 → gs.length = 1) := by
 by_cases h : l.length ≤ 4
 · refine ⟨[l], ?_, by simp, by simp, by simp, fun g hg => by obtain rfl := List.mem_singleton.1 hg; exact ⟨h1, h⟩, fun _ => rfl⟩
   unfold groups
   rw [show (l.length + 4 - 1) / 4 = 1 by omega]
   simp [groupsN, List.take_of_length_le]
 · have h' : l.length = 5 := by omega
   refine ⟨[l.take 3, l.drop 3], ?_, by simp, by simp, by simp, fun g hg => ?_, fun h0 => by omega⟩
   · unfold groups
     rw [show (l.length + 4 - 1) / 4 = 2 by omega]
     simp [groupsN, h', List.take_of_length_le]
   · simp only [List.mem_cons, List.not_mem_nil, or_false] at hg
     rcases hg with rfl | rfl
     · rw [zw4]; omega
     · rw [List.length_drop]; omega
theorem qVQ {α : Type} (m : Nat) (hm : m = 3 ∨ m = 4) : groups m ([] : List α) = [] := by
 rcases hm with rfl | rfl <;> simp [groups, groupsN]
theorem qZz {α : Type} : ∀ gs : List (List α), gs.flatMap (fun _ => ([] : List Int)) = []
 | [] => rfl
 | g :: gs => by rw [List.flatMap_cons, qZz gs]; rfl
theorem flat2 {α β : Type} {f : α → List β} : ∀ gs : List (List α), gs.flatMap (fun g => g.flatMap f) = gs.flatten.flatMap f
 | [] => rfl
 | g :: gs => by rw [List.flatMap_cons, List.flatten_cons, List.flatMap_append, flat2 gs]
structure Laid (s s' : Pgs) (D : Nat) (fr : UInt64) (hi : Bnd) (l : List Itm) (old : List Int) (bs : List Brn) : Prop where
 ext : Ext s s'
 few : s'.length ≤ 2048
 chain : q6x s' D hi bs
 items : cits s' D bs = l
 low : ∀ b ∈ bs, fr.toNat ≤ b.1.toNat
 nodup : (cpgs s' D bs).Nodup
 pages : ∀ q ∈ cpgs s' D bs, q ∈ old ∨ page s q = []
def LayOk (s : Pgs) (c : Cnt) (D : Nat) (fr : UInt64) (hi : Bnd) (l : List Itm) (old : List Int) : Prop :=
 (lay s c = .error 51 ∧ 2048 < s.length + 2) ∨ ∃ s' bs, lay s c = .ok (s', bs) ∧ Laid s s' D fr hi l old bs ∧ s'.length ≤ s.length + 2 ∧ 1 ≤ bs.length ∧ bs.length ≤ 2 ∧ (1 ≤ c.2.length → c.2.length ≤ 4 → bs.length = 1)
theorem lay_items {s : Pgs} {l : List Itm} {fr : UInt64} {hi : Bnd} (hl : s.length ≤ 2048) (h1 : 1 ≤ l.length) (h4 : l.length ≤ 4) (hup : Up l) (hb : ∀ x ∈ l, fr.toNat ≤ x.1.toNat ∧ under hi x.1 = true) : LayOk s (l, []) 1 fr hi l [] := by
 obtain ⟨gs, e1, e2, e3, e4, e5⟩ := groups3 h1 h4
 have hsub : ∀ g ∈ gs, ∀ x ∈ g, x ∈ l := fun g hg x hx => by rw [← e2]; exact List.mem_flatten.2 ⟨g, hg, hx⟩
 have hgu : ∀ g ∈ gs, Up g := fun g hg => by
  rw [← e2] at hup
  exact (List.pairwise_flatten.1 hup).1 g hg
 have hok : ∀ g ∈ gs, Lf.Ok (leafOver g) := fun g hg => ⟨(e5 g hg).1, (e5 g hg).2, .inl rfl, up_rise (hgu g hg), .inl rfl, (fun k hk => by cases hk), rfl⟩
 have hne : ∀ g ∈ gs, g ≠ [] := fun g hg e => by have := (e5 g hg).1; rw [e] at this; simp at this
 have key := qYQ (mk := leafOver) (fr := keyF) (D := 1) (hi := hi) (itemsOf := id) (pagesOf := fun _ => []) gs s [] hl hok (fun pre g post he s2 q hx q1 q2 hp => by
  have hg : g ∈ gs := by rw [he]; simp
  refine leaf_fit q1 q2 (hok g hg) hp (fun x hx => ⟨?_, ?_⟩)
  · simp only [above, decide_eq_true_eq]
    exact keyF_le (hgu g hg) hx
  · cases post with
    | nil => exact (hb x (hsub g hg x hx)).2
    | cons g' post =>
      have hg' : g' ∈ gs := by rw [he]; simp
      obtain ⟨y, hy, hyk⟩ := qFx (hne g' hg')
      simp only [nxg, under, decide_eq_true_eq]
      rw [← hyk]
      rw [← e2, he] at hup
      have h3 := (List.pairwise_flatten.1 hup).2
      have h5 := (List.pairwise_append.1 h3).2.1
      exact (List.pairwise_cons.1 h5).1 g' List.mem_cons_self x hx y hy) (by rw [qZz]; exact List.nodup_nil) (fun p hp => by rw [qZz] at hp; cases hp)
 have hlay : lay s (l, []) = layG leafOver keyF gs (s, []) := by
  unfold lay
  rw [e1]
  cases hc : layG leafOver keyF gs (s, []) with
  | error e => rfl
  | ok st =>
    show layG over fromK (groups 4 ([] : List Brn)) st = _
    rw [qVQ 4 (.inr rfl)]
    rfl
 rcases key with ⟨k1, k2⟩ | ⟨s', new, k1, k2, k3, k4, k5, k6, k7, k8, k9⟩
 · exact .inl ⟨hlay.trans k1, by omega⟩
 · have hnl : new.length = gs.length := by have := congrArg List.length k7; simpa using this
   refine .inr ⟨s', new, by rw [hlay, k1]; rfl, ⟨k2, k3, k5, ?_, fun b hb' => ?_, k8, fun q hq => ?_⟩, by omega, by omega, by omega, fun h => by simp at h⟩
   · rw [k6, ← e2]; simp [List.flatMap_id]
   · have : b.1 ∈ new.map (·.1) := List.mem_map.2 ⟨b, hb', rfl⟩
     rw [k7] at this
     obtain ⟨g, hg, e⟩ := List.mem_map.1 this
     obtain ⟨x, hx, hxk⟩ := qFx (hne g hg)
     rw [← e, ← hxk]
     exact (hb x (hsub g hg x hx)).1
   · rcases k9 q hq with h | h
     · simp at h
     · exact .inr h
theorem qYx {s : Pgs} {bs : List Brn} {fr : UInt64} {hi : Bnd} {d : Nat} (hd : 1 ≤ d) (hl : s.length ≤ 2048) (h2 : 2 ≤ bs.length) (h5 : bs.length ≤ 5) (hc : q6x s d hi bs) (hlow : ∀ b ∈ bs, fr.toNat ≤ b.1.toNat) (hn : (cpgs s d bs).Nodup) : LayOk s ([], bs) (d + 1) fr hi (cits s d bs) (cpgs s d bs) := by
 obtain ⟨gs, e1, e2, e3, e4, e5, e6⟩ := groups4 h2 h5
 have hpart : ∀ pre g post, gs = pre ++ g :: post → q6x s d (nxg fromK hi post) g ∧ (cpgs s d g).Nodup := by
  intro pre g post he
  have hb : bs = pre.flatten ++ (g ++ post.flatten) := by rw [← e2, he]; simp
  rw [hb] at hc hn
  have c2 := (chain_append.1 (chain_append.1 hc).2).1
  rw [q1j, q1j] at hn
  refine ⟨?_, (List.nodup_append.1 (List.nodup_append.1 hn).2.1).1⟩
  cases post with
  | nil => exact c2
  | cons g' post =>
    have hg' : g' ∈ gs := by rw [he]; simp
    have hne : g' ≠ [] := fun e => by have := (e5 g' hg').1; rw [e] at this; simp at this
    obtain ⟨b, r, rfl⟩ := List.exists_cons_of_ne_nil hne
    exact c2
 have hmem : ∀ g ∈ gs, ∃ pre post, gs = pre ++ g :: post := fun g hg => by
  obtain ⟨pre, post, he⟩ := List.append_of_mem hg
  exact ⟨pre, post, he⟩
 have hok : ∀ g ∈ gs, Lf.Ok (over g) := fun g hg => by
  obtain ⟨pre, post, he⟩ := hmem g hg
  obtain ⟨c1, c2⟩ := hpart pre g post he
  exact over_ok hd hl (e5 g hg).1 (e5 g hg).2 c1 c2
 have hfp : gs.flatMap (cpgs s d) = cpgs s d bs := by
  rw [← e2]
  exact flat2 gs
 have hfi : gs.flatMap (cits s d) = cits s d bs := by
  rw [← e2]
  exact flat2 gs
 have key := qYQ (mk := over) (fr := fromK) (D := d + 1) (hi := hi) (itemsOf := cits s d) (pagesOf := cpgs s d) gs s [] hl hok (fun pre g post he s2 q hx q1 q2 hp => by
  have hg : g ∈ gs := by rw [he]; simp
  obtain ⟨c1, -⟩ := hpart pre g post he
  obtain ⟨x1, x2, x3⟩ := qJZ hx c1
  obtain ⟨f1, f2, f3⟩ := over_fit hd q1 q2 (e5 g hg).1 (hok g hg) hp x1
  exact ⟨f1, by rw [f2, x2], by rw [f3, x3]⟩) (by rw [hfp]; exact hn) (fun p hp => by
  rw [hfp] at hp
  have := q7z hc p hp
  exact ⟨this.2, this.1.1⟩)
 have hlay : lay s ([], bs) = layG over fromK gs (s, []) := by
  unfold lay
  simp only [qVQ 3 (.inl rfl), layG, e1]
 rcases key with ⟨k1, k2⟩ | ⟨s', new, k1, k2, k3, k4, k5, k6, k7, k8, k9⟩
 · exact .inl ⟨hlay.trans k1, by omega⟩
 · have hnl : new.length = gs.length := by have := congrArg List.length k7; simpa using this
   refine .inr ⟨s', new, by rw [hlay, k1]; rfl, ⟨k2, k3, k5, by rw [k6, hfi], fun b hb' => ?_, k8, fun q hq => by rw [← hfp]; exact k9 q hq⟩, by omega, by omega, by omega, fun _ h => by rw [hnl]; exact e6 h⟩
   have : b.1 ∈ new.map (·.1) := List.mem_map.2 ⟨b, hb', rfl⟩
   rw [k7] at this
   obtain ⟨g, hg, e⟩ := List.mem_map.1 this
   have hne : g ≠ [] := fun e => by have := (e5 g hg).1; rw [e] at this; simp at this
   obtain ⟨c, r, rfl⟩ := List.exists_cons_of_ne_nil hne
   rw [← e]
   exact hlow c (by rw [← e2]; exact List.mem_flatten.2 ⟨_, hg, by simp⟩)
def Cont (s : Pgs) (fr : UInt64) (hi : Bnd) (c : Cnt) (l : List Itm) (ps : List Int) : Nat → Prop
 | 0 => c = (l, []) ∧ ps = [] ∧ Up l ∧ ∀ x ∈ l, fr.toNat ≤ x.1.toNat ∧ under hi x.1 = true
 | e + 1 => c.1 = [] ∧ q6x s (e + 1) hi c.2 ∧ cits s (e + 1) c.2 = l ∧ cpgs s (e + 1) c.2 = ps ∧ ∀ b ∈ c.2, fr.toNat ≤ b.1.toNat
theorem cont_lay {s : Pgs} {fr : UInt64} {hi : Bnd} {c : Cnt} {l : List Itm} {ps : List Int} {e : Nat} (h : Cont s fr hi c l ps e) (hl : s.length ≤ 2048) (hn : ps.Nodup) (h1 : (if e = 0 then 1 else 2) ≤ csize c) (h2 : csize c ≤ if e = 0 then 4 else 5) : LayOk s c (e + 1) fr hi l ps := by
 cases e with
 | zero =>
   obtain ⟨rfl, rfl, h3, h4⟩ := h
   simp only [if_true, csize, List.length_nil] at h1 h2
   exact lay_items hl (by omega) (by omega) h3 h4
 | succ e =>
   obtain ⟨k1, k2, k3, k4, k5⟩ := h
   obtain ⟨c1, c2⟩ := c
   simp only at k1 k2 k3 k4 k5
   subst k1
   subst k3
   subst k4
   rw [if_neg (by omega)] at h1 h2
   simp only [csize, List.length_nil] at h1 h2
   exact qYx (by omega) hl (by omega) (by omega) k2 k5 hn
theorem cont_join {s : Pgs} {fr fr2 : UInt64} {hi : Bnd} {a b : Cnt} {la lb : List Itm} {pa pb : List Int} {e : Nat} (ha : Cont s fr (some fr2) a la pa e) (hb : Cont s fr2 hi b lb pb e) (hf : fr.toNat ≤ fr2.toNat) (hu : under hi fr2 = true) : Cont s fr hi (joined a b) (la ++ lb) (pa ++ pb) e := by
 have hw : ∀ k, under (some fr2) k = true → under hi k = true := fun k hk => by
  simp only [under, decide_eq_true_eq] at hk
  exact qBX hu (Nat.le_of_lt hk)
 cases e with
 | zero =>
   obtain ⟨rfl, rfl, a3, a4⟩ := ha
   obtain ⟨rfl, rfl, b3, b4⟩ := hb
   refine ⟨rfl, rfl, List.pairwise_append.2 ⟨a3, b3, fun x hx y hy => ?_⟩, fun x hx => ?_⟩
   · have h1 := (a4 x hx).2
     have h2 := (b4 y hy).1
     simp only [under, decide_eq_true_eq] at h1
     omega
   · rcases List.mem_append.1 hx with hx | hx
     · exact ⟨(a4 x hx).1, hw _ (a4 x hx).2⟩
     · exact ⟨zw1 hf (b4 x hx).1, (b4 x hx).2⟩
 | succ e =>
   obtain ⟨a1, a2, a3, a4, a5⟩ := ha
   obtain ⟨b1, b2, b3, b4, b5⟩ := hb
   refine ⟨by unfold joined; simp only [a1, b1]; rfl, chain_append.2 ⟨qZX (fun k hk => ?_) a2, b2⟩, by unfold joined; simp only [q2X, a3, b3], by unfold joined; simp only [q1j, a4, b4], fun x hx => ?_⟩
   · cases hb2 : b.2 with
     | nil => exact hw k hk
     | cons z zs =>
       have h1 := b5 z (by rw [hb2]; simp)
       simp only [nx, under, decide_eq_true_eq] at hk ⊢
       omega
   · rcases List.mem_append.1 hx with hx | hx
     · exact a5 x hx
     · exact zw1 hf (b5 x hx)
theorem qVX {n : Nod} {fr : UInt64} (hok : Lf.Ok n) (hk : n.2 ≠ []) : (contOf n fr).1 = [] ∧ (contOf n fr).2.length = n.2.length ∧ n.2.length = n.1.length + 1 ∧ (contOf n fr).2.map (·.2) = n.2 ∧ ∀ (i : Nat) (h : i < (contOf n fr).2.length), (contOf n fr).2[i].1 = if h0 : 0 < i ∧ i - 1 < n.1.length then (n.1[i - 1]'h0.2).1 else fr := by
 have hlen : n.2.length = n.1.length + 1 := by
  rcases hok.kids with k | k
  · exact absurd (by simpa [Lf.isLeaf] using k) hk
  · exact k
 have hc : contOf n fr = ([], (fr, n.2.getD 0 0) :: (n.1.zip n.2.tail).map fun z => (z.1.1, z.2)) := by unfold contOf; rw [if_neg hk]
 rw [hc]
 obtain ⟨k, ks, e⟩ := List.exists_cons_of_ne_nil hk
 have hkl : ks.length = n.1.length := by rw [e] at hlen; simpa using hlen
 refine ⟨rfl, by simp [e, hkl], hlen, ?_, fun i h => ?_⟩
 · simp only [e, List.tail_cons, List.map_cons, List.map_map, List.getD_cons_zero, List.cons.injEq, true_and]
   rw [show ((fun x => x.2) ∘ fun z : Itm × Int => ((z.1.1, z.2) : Brn)) = Prod.snd from rfl, List.map_snd_zip (by omega)]
 · cases i with
   | zero => simp
   | succ j =>
     have hj : j < n.1.length := by simp [e, hkl] at h; omega
     simp [hj]
theorem qIq {s : Pgs} {e : Nat} {fr : UInt64} {hi : Bnd} {p : Int} (h : Fit s (e + 1) (some fr) hi p) : nodeE s p = .ok (nod s p) ∧ Cont s fr hi (contOf (nod s p) fr) (its s (e + 1) p) (pgs s (e + 1) p).tail e ∧ (if e = 0 then 1 else 2) ≤ csize (contOf (nod s p) fr) ∧ csize (contOf (nod s p) fr) ≤ (if e = 0 then 3 else 4) ∧ (if e = 0 then (nod s p).2 = [] else (nod s p).2 ≠ []) := by
 obtain ⟨h1, h2, h3⟩ := h
 obtain ⟨hok, he, hin⟩ := good_ok h2
 have hne : nodeE s p = .ok (nod s p) := by
  unfold nodeE
  unfold good at h2
  rw [Bool.and_eq_true, decide_eq_true_eq] at h2
  rw [if_pos ⟨h1.1, h1.2, h2.1⟩]
 have s1 := hok.some_
 have s2 := hok.few
 refine ⟨hne, ?_⟩
 cases e with
 | zero =>
   rw [if_pos rfl] at h3
   have hc : contOf (nod s p) fr = ((nod s p).1, []) := by unfold contOf; rw [if_pos h3]
   have hi' : its s 1 p = (nod s p).1 := by unfold its; rw [if_pos h3]
   have hp' : (pgs s 1 p).tail = [] := by unfold pgs; rw [h3]; rfl
   rw [hc]
   simp only [if_true, csize, List.length_nil, Nat.zero_add, hi', hp']
   refine ⟨⟨rfl, rfl, up_of_rise hok.rises, fun x hx => ?_⟩, by omega, by omega, h3⟩
   have := hin x hx
   simp only [above, decide_eq_true_eq] at this
   exact this
 | succ e =>
   rw [if_neg (by omega)] at h3
   obtain ⟨g1, g2, g3, g4, g5⟩ := qVX (fr := fr) hok h3.1
   have hcs : csize (contOf (nod s p) fr) = (nod s p).1.length + 1 := by unfold csize; rw [g1, g2, g3]; simp
   have hkid : ∀ (i : Nat) (hi' : i < (contOf (nod s p) fr).2.length), (contOf (nod s p) fr).2[i].2 = (nod s p).2[i]'(by omega) := fun i hi' => by
    have : ((contOf (nod s p) fr).2.map (·.2))[i]'(by simpa using hi') = (nod s p).2[i]'(by omega) := by simp only [g4]
    simpa using this
   simp only [if_neg (show ¬ (e + 1 = 0) by omega), hcs]
   refine ⟨⟨g1, chain_of fun i hi' => ?_, ?_, ?_, fun b hb => ?_⟩, by omega, by omega, h3.1⟩
   · have hf := h3.2 i (by omega)
     rw [hkid i hi']
     have e1 : loOf (nod s p) (some fr) i = some (contOf (nod s p) fr).2[i].1 := by
      rw [g5 i hi']
      unfold loOf
      by_cases h0 : 0 < i
      · rw [if_pos h0, dif_pos ⟨h0, by omega⟩, zw3 (by omega)]
        rfl
      · rw [if_neg h0, dif_neg (fun k => h0 k.1)]
     have e2 : hiOf (nod s p) hi i = nx hi ((contOf (nod s p) fr).2.drop (i + 1)) := by
      unfold hiOf
      by_cases h0 : i < (nod s p).1.length
      · have hlt : i + 1 < (contOf (nod s p) fr).2.length := by omega
        rw [if_pos h0, List.drop_eq_getElem_cons hlt, zw3 h0]
        have := g5 (i + 1) hlt
        rw [dif_pos ⟨by omega, by omega⟩] at this
        simp only [nx, this]
        rfl
      · rw [if_neg h0, List.drop_of_length_le (by omega)]
        rfl
     rw [e1, e2] at hf
     exact hf
   · show cits s (e + 1) (contOf (nod s p) fr).2 = its s (e + 1 + 1) p
     conv => rhs; unfold its
     rw [if_neg h3.1]
     conv => rhs; rw [← g4]
     unfold cits
     rw [List.flatMap_map]
   · show cpgs s (e + 1) (contOf (nod s p) fr).2 = (pgs s (e + 1 + 1) p).tail
     conv => rhs; unfold pgs
     rw [List.tail_cons]
     conv => rhs; rw [← g4]
     unfold cpgs
     rw [List.flatMap_map]
   · obtain ⟨i, hi', rfl⟩ := List.getElem_of_mem hb
     rw [g5 i hi']
     split
     · rename_i h0
       have := (hin _ (List.getElem_mem h0.2)).1
       simp only [above, decide_eq_true_eq] at this
       exact this
     · exact zw0 _
end Tr
namespace Tr
open Oct Crc Lf
structure Acts (T : List Itm → List Itm) (key : UInt64) : Prop where
 mid : ∀ a l b, Up (a ++ (l ++ b)) → (∀ x ∈ a, x.1.toNat < key.toNat) → (∀ x ∈ b, key.toNat < x.1.toNat) → T (a ++ (l ++ b)) = a ++ (T l ++ b)
 up : ∀ l, Up l → Up (T l)
 mem : ∀ l, ∀ x ∈ T l, x ∈ l ∨ x.1 = key
 few : ∀ l, (T l).length ≤ l.length + 1
structure Changed (T : List Itm → List Itm) (s : Pgs) (e : Nat) (fr : UInt64) (hi : Bnd) (p : Int) (s' : Pgs) (c : Cnt) (ps : List Int) : Prop where
 ext : Ext s s'
 few : s'.length ≤ 2048
 len : s'.length ≤ s.length + 2 * e
 cont : Cont s' fr hi c (T (its s (e + 1) p)) ps e
 nodup : ps.Nodup
 pages : ∀ q ∈ ps, q ∈ pgs s (e + 1) p ∨ page s q = []
 most : csize c ≤ if e = 0 then 4 else 5
 some_ : e ≠ 0 → 1 ≤ csize c
def ChangeOk (T : List Itm → List Itm) (key : UInt64) (f : Nat) (s : Pgs) (e : Nat) (fr : UInt64) (hi : Bnd) (p : Int) : Prop :=
 (change T key f s (fr, p) = .error 51 ∧ 2048 < s.length + 2 * e) ∨ ∃ s' c ps, change T key f s (fr, p) = .ok (s', c) ∧ Changed T s e fr hi p s' c ps
theorem lay_step {T : List Itm → List Itm} {key : UInt64} (hT : Acts T key) {s s1 : Pgs} {e : Nat} {fr : UInt64} {hi : Bnd} {A R B : List Brn} {M : Cnt} {lR lM : List Itm} {pM : List Int} {frM : UInt64} (hl : s.length ≤ 2048)
 (hc : q6x s (e + 1) hi (A ++ (R ++ B))) (hn : (cpgs s (e + 1) (A ++ (R ++ B))).Nodup) (hlow : ∀ b ∈ A ++ (R ++ B), fr.toNat ≤ b.1.toNat)
 (x1 : Ext s s1) (f1 : s1.length ≤ 2048) (n1 : s1.length ≤ s.length + 2 * e)
 (hR : ∃ r R', R = r :: R' ∧ frM = r.1) (hM : Cont s1 frM (nx hi B) M lM pM e) (hpn : pM.Nodup) (hpp : ∀ q ∈ pM, q ∈ cpgs s (e + 1) R ∨ page s q = [])
 (hlM : lM = T (cits s (e + 1) R)) (hka : ∀ x ∈ cits s (e + 1) A, x.1.toNat < key.toNat) (hkb : ∀ x ∈ cits s (e + 1) B, key.toNat < x.1.toNat)
 (h1 : (if e = 0 then 1 else 2) ≤ csize M) (h2 : csize M ≤ if e = 0 then 4 else 5) :
 (lay s1 M = .error 51 ∧ 2048 < s.length + 2 * (e + 1)) ∨ ∃ s2 bs ps, lay s1 M = .ok (s2, bs) ∧ Ext s s2 ∧ s2.length ≤ 2048 ∧ s2.length ≤ s.length + 2 * (e + 1) ∧ Cont s2 fr hi ([], A ++ (bs ++ B)) (T (cits s (e + 1) (A ++ (R ++ B)))) ps (e + 1) ∧ ps.Nodup ∧ (∀ q ∈ ps, q ∈ cpgs s (e + 1) (A ++ (R ++ B)) ∨ page s q = []) ∧ 1 ≤ bs.length ∧ bs.length ≤ 2 := by
 rcases cont_lay hM f1 hpn h1 h2 with ⟨k1, k2⟩ | ⟨s2, bs, k1, L, k3, k4, k5, -⟩
 · exact .inl ⟨k1, by omega⟩
 · obtain ⟨r, R', rfl, rfl⟩ := hR
   have x2 : Ext s s2 := x1.trans L.ext
   obtain ⟨cA, cRB⟩ := chain_append.1 hc
   obtain ⟨cR, cB⟩ := chain_append.1 cRB
   have hup := (qNQ hc).1
   rw [q2X, q2X] at hup
   obtain ⟨xA1, xA2, xA3⟩ := qJZ x2 cA
   obtain ⟨xB1, xB2, xB3⟩ := qJZ x2 cB
   rw [q1j, q1j] at hn
   obtain ⟨nA, nRB, dA⟩ := List.nodup_append.1 hn
   obtain ⟨nR, nB, dR⟩ := List.nodup_append.1 nRB
   have hne : bs ≠ [] := fun e => by rw [e] at k4; simp at k4
   have hold : ∀ q ∈ cpgs s2 (e + 1) bs, q ∈ cpgs s (e + 1) (r :: R') ∨ page s q = [] := fun q hq => by
    rcases L.pages q hq with k | k
    · exact hpp q k
    · refine .inr ?_
      have hq1 := ((q7z L.chain q hq).1).1
      cases hs : page s q with
      | nil => rfl
      | cons y ys =>
        rw [x1.same q hq1 (by rw [hs]; simp), hs] at k
        cases k
   have fullA := fun q hq => (q7z cA q hq)
   have fullB := fun q hq => (q7z cB q hq)
   refine .inr ⟨s2, bs, cpgs s2 (e + 1) (A ++ (bs ++ B)), k1, x2, L.few, by omega, ⟨rfl, ?_, ?_, rfl, fun b hb => ?_⟩, ?_, fun q hq => ?_, k4, k5⟩
   · refine chain_append.2 ⟨qZX (fun k hk => ?_) xA1, chain_append.2 ⟨L.chain, xB1⟩⟩
     obtain ⟨b, bs', rfl⟩ := List.exists_cons_of_ne_nil hne
     have := L.low b (by simp)
     simp only [List.cons_append, nx, under, decide_eq_true_eq] at hk ⊢
     omega
   · simp only
     rw [q2X, q2X, xA2, xB2, L.items, hlM, q2X, q2X]
     exact (hT.mid _ _ _ hup hka hkb).symm
   · simp only at hb
     rcases List.mem_append.1 hb with hb | hb
     · exact hlow b (List.mem_append_left _ hb)
     · rcases List.mem_append.1 hb with hb | hb
       · exact zw1 (hlow r (by simp)) (L.low b hb)
       · exact hlow b (List.mem_append_right _ (List.mem_append_right _ hb))
   · rw [q1j, q1j, xA3, xB3]
     refine List.nodup_append.2 ⟨nA, List.nodup_append.2 ⟨L.nodup, nB, fun a ha b hb e => ?_⟩, fun a ha b hb e => ?_⟩
     · subst e
       rcases hold a ha with k | k
       · exact dR a k a hb rfl
       · exact (fullB a hb).2 k
     · subst e
       rcases List.mem_append.1 hb with hb | hb
       · rcases hold a hb with k | k
         · exact dA a ha a (List.mem_append_left _ k) rfl
         · exact (fullA a ha).2 k
       · exact dA a ha a (List.mem_append_right _ hb) rfl
   · rw [q1j, q1j, xA3, xB3] at hq
     rw [q1j, q1j]
     rcases List.mem_append.1 hq with hq | hq
     · exact .inl (List.mem_append_left _ hq)
     · rcases List.mem_append.1 hq with hq | hq
       · rcases hold q hq with k | k
         · exact .inl (List.mem_append_right _ (List.mem_append_left _ k))
         · exact .inr k
       · exact .inl (List.mem_append_right _ (List.mem_append_right _ hq))
theorem cits_one (s : Pgs) (d : Nat) (b : Brn) : cits s d [b] = its s d b.2 := by simp [cits]
theorem qZZ (s : Pgs) (d : Nat) (b : Brn) : cpgs s d [b] = pgs s d b.2 := by simp [cpgs]
theorem qNx (s : Pgs) (d : Nat) (a b : Brn) : cits s d [a, b] = its s d a.2 ++ its s d b.2 := by simp [cits]
theorem qNj (s : Pgs) (d : Nat) (a b : Brn) : cpgs s d [a, b] = pgs s d a.2 ++ pgs s d b.2 := by simp [cpgs]
theorem way_in {n : Nod} {fr key : UInt64} {hi : Bnd} (hok : Lf.Ok n) (hk : n.2 ≠ []) (h1 : fr.toNat ≤ key.toNat) (h2 : under hi key = true) : ∃ h : way n key < (contOf n fr).2.length, ((contOf n fr).2[way n key]).1.toNat ≤ key.toNat ∧ under (nx hi ((contOf n fr).2.drop (way n key + 1))) key = true := by
 obtain ⟨g1, g2, g3, g4, g5⟩ := qVX (fr := fr) hok hk
 obtain ⟨w1, w2⟩ := qBq hok.rises key
 have hw : way n key = (n.1.filter fun x => decide (x.1.toNat ≤ key.toNat)).length := rfl
 rw [← hw] at w1 w2
 have hlt : way n key < (contOf n fr).2.length := by omega
 refine ⟨hlt, ?_, ?_⟩
 · rw [g5 _ hlt]
   split
   · rename_i h0
     exact (w2 (way n key - 1) h0.2).1 (by omega)
   · exact h1
 · by_cases hl : way n key + 1 < (contOf n fr).2.length
   · rw [List.drop_eq_getElem_cons hl]
     have h3 := g5 _ hl
     have h4 : way n key < n.1.length := by omega
     rw [dif_pos ⟨by omega, by simpa using h4⟩] at h3
     simp only [nx, h3, under, decide_eq_true_eq]
     have h5 := (w2 (way n key) h4)
     simp only [Nat.add_sub_cancel]
     omega
   · rw [List.drop_of_length_le (by omega)]
     exact h2
theorem acts_bound {T : List Itm → List Itm} {key : UInt64} (hT : Acts T key) {fr : UInt64} {hi : Bnd} {l : List Itm} (hf : fr.toNat ≤ key.toNat) (hu : under hi key = true) (h : ∀ x ∈ l, fr.toNat ≤ x.1.toNat ∧ under hi x.1 = true) : ∀ x ∈ T l, fr.toNat ≤ x.1.toNat ∧ under hi x.1 = true := fun x hx => by
 rcases hT.mem l x hx with k | k
 · exact h x k
 · rw [k]; exact ⟨hf, hu⟩
theorem qRZ {T : List Itm → List Itm} {key : UInt64} (hT : Acts T key) : ∀ (e f : Nat) {s : Pgs} {fr : UInt64} {hi : Bnd} {p : Int}, e < f → s.length ≤ 2048 → Fit s (e + 1) (some fr) hi p → (pgs s (e + 1) p).Nodup → fr.toNat ≤ key.toNat → under hi key = true → ChangeOk T key f s e fr hi p
 | _, 0, _, _, _, _, h, _, _, _, _, _ => by omega
 | 0, f + 1, s, fr, hi, p, _, hl, hF, hn, hf, hu => by
   obtain ⟨r1, r2, r3, r4, r5⟩ := qIq hF
   rw [if_pos rfl] at r5
   have hc : contOf (nod s p) fr = ((nod s p).1, []) := by unfold contOf; rw [if_pos r5]
   have hits : its s 1 p = (nod s p).1 := by unfold its; rw [if_pos r5]
   refine .inr ⟨s, (T (nod s p).1, []), [], ?_, ⟨Ext.refl s, hl, by omega, ?_, List.nodup_nil, (fun q hq => by cases hq), ?_, fun h => absurd rfl h⟩⟩
   · unfold change
     simp only [r1]
     rw [if_pos r5]
   · rw [Nat.zero_add, hits]
     rw [hc, Nat.zero_add, hits] at r2
     obtain ⟨-, -, u1, u2⟩ := r2
     exact ⟨rfl, rfl, hT.up _ u1, acts_bound hT hf hu u2⟩
   · rw [hc] at r4
     simp only [csize, List.length_nil, if_true] at r4 ⊢
     have := hT.few (nod s p).1
     omega
 | e + 1, f + 1, s, fr, hi, p, hlt, hl, hF, hn, hf, hu => by
   obtain ⟨r1, r2, r3, r4, r5⟩ := qIq hF
   rw [if_neg (by omega)] at r3 r4 r5
   have hok := (good_ok hF.2.1).1
   have hway := way_in hok r5 hf hu
   obtain ⟨c1, c2, c3, c4, c5⟩ := r2
   have hnt : (cpgs s (e + 1) (contOf (nod s p) fr).2).Nodup := by rw [c4]; exact List.Nodup.sublist (List.tail_sublist _) hn
   have hpt : ∀ q ∈ cpgs s (e + 1) (contOf (nod s p) fr).2, q ∈ pgs s (e + 1 + 1) p := fun q hq => by rw [c4] at hq; exact List.mem_of_mem_tail hq
   have hcs : csize (contOf (nod s p) fr) = (contOf (nod s p) fr).2.length := by unfold csize; rw [c1]; simp
   rw [hcs] at r3 r4
   have hnE : nodeE s p = .ok (nod s p) := r1
   generalize hks : (contOf (nod s p) fr).2 = ks at hway c2 c3 c4 c5 hnt hpt r3 r4
   generalize hwy : way (nod s p) key = wy at hway
   obtain ⟨hw, hwk, hwu⟩ := hway
   have hkd : ks.getD wy (0, 0) = ks[wy] := by rw [List.getD_eq_getElem?_getD, zw3 hw]; rfl
   have hFk := q9x c2 wy hw
   have hsplit : ks = ks.take wy ++ ([ks[wy]] ++ ks.drop (wy + 1)) := by
    have := List.take_append_drop wy ks
    rw [List.drop_eq_getElem_cons hw] at this
    exact this.symm
   have hnk : (pgs s (e + 1) ks[wy].2).Nodup := by
    rw [hsplit, q1j, q1j, qZZ] at hnt
    exact (List.nodup_append.1 (List.nodup_append.1 hnt).2.1).1
   have ih := qRZ hT e f (s := s) (fr := ks[wy].1) (hi := nx hi (ks.drop (wy + 1))) (p := ks[wy].2) (by omega) hl hFk hnk hwk hwu
   have hch : ∀ X, change T key f s (ks[wy].1, ks[wy].2) = X → change T key (f + 1) s (fr, p) = (match X with
    | .error e => .error e
    | .ok r => match mend r.1 ks wy r.2 with
      | .error e => .error e
      | .ok m => match lay r.1 m.1 with
        | .error e => .error e
        | .ok q => .ok (q.1, ([], replaced ks m.2.1 m.2.2 q.2))) := by
    intro X hX
    rw [change]
    simp only [hnE]
    rw [if_neg r5, hks, hwy, hkd]
    rw [show change T key f s ks[wy] = X from hX]
    cases X <;> rfl
   rcases ih with ⟨i1, i2⟩ | ⟨s1, now, ps1, i1, C⟩
   · exact .inl ⟨by rw [hch _ i1], by omega⟩
   · -- the keys of what lies ahead and behind
     have keysA : ∀ (i : Nat), i ≤ wy → ∀ x ∈ cits s (e + 1) (ks.take i), x.1.toNat < key.toNat := fun i hi' x hx => by
      obtain ⟨b, hb, hxb⟩ := List.mem_flatMap.1 hx
      obtain ⟨j, hj, rfl⟩ := List.getElem_of_mem hb
      rw [zw4] at hj
      rw [List.getElem_take] at hxb
      have hf1 := q9x c2 j (by omega)
      have hu1 := ((qCX hf1).2 x hxb).2
      rw [List.drop_eq_getElem_cons (show j + 1 < ks.length by omega)] at hu1
      simp only [nx, under, decide_eq_true_eq] at hu1
      have hmono : ks[j + 1].1.toNat ≤ ks[wy].1.toNat := by
       rcases Nat.lt_or_ge (j + 1) wy with q | q
       · exact Nat.le_of_lt (List.pairwise_iff_getElem.1 (q7q c2).1 (j + 1) wy (by omega) hw q)
       · obtain h0 : j + 1 = wy := by omega
         simp only [h0]; exact zw0 _
      omega
     have keysB : ∀ (i : Nat), wy < i → ∀ x ∈ cits s (e + 1) (ks.drop i), key.toNat < x.1.toNat := fun i hi' x hx => by
      obtain ⟨b, hb, hxb⟩ := List.mem_flatMap.1 hx
      obtain ⟨j, hj, rfl⟩ := List.getElem_of_mem hb
      rw [List.length_drop] at hj
      rw [List.getElem_drop] at hxb
      have hf1 := q9x c2 (i + j) (by omega)
      have hu1 := ((qCX hf1).2 x hxb).1
      simp only [above, decide_eq_true_eq] at hu1
      have h0 : key.toNat < (ks[wy + 1]'(by omega)).1.toNat := by
       have := hwu
       rw [List.drop_eq_getElem_cons (show wy + 1 < ks.length by omega)] at this
       simpa [nx, under] using this
      have hmono : (ks[wy + 1]'(by omega)).1.toNat ≤ (ks[i + j]'(by omega)).1.toNat := by
       rcases Nat.lt_or_ge (wy + 1) (i + j) with q | q
       · exact Nat.le_of_lt (List.pairwise_iff_getElem.1 (q7q c2).1 (wy + 1) (i + j) (by omega) (by omega) q)
       · have h9 : i + j = wy + 1 := by omega
         simp only [h9]; exact zw0 _
      omega
     -- what is laid in the place of some branches makes the answer
     have finish : ∀ (M : Cnt) (i j : Nat) (lM : List Itm) (pM : List Int), i ≤ wy → wy < j → j ≤ ks.length → mend s1 ks wy now = .ok (M, i, j) → (hil : i < ks.length) → Cont s1 ks[i].1 (nx hi (ks.drop j)) M lM pM e → pM.Nodup → (∀ q ∈ pM, q ∈ cpgs s (e + 1) ((ks.drop i).take (j - i)) ∨ page s q = []) → lM = T (cits s (e + 1) ((ks.drop i).take (j - i))) → (if e = 0 then 1 else 2) ≤ csize M → (csize M ≤ if e = 0 then 4 else 5) → j - i ≤ 2 → ChangeOk T key (f + 1) s (e + 1) fr hi p := by
      intro M i j lM pM hi1 hj1 hj2 hm hil hM hpn hpp hlM h1 h2 hji
      have hsp : ks = ks.take i ++ ((ks.drop i).take (j - i) ++ ks.drop j) := by
       have e1 : (ks.drop i).drop (j - i) = ks.drop j := by rw [List.drop_drop]; congr 1; omega
       rw [← e1, List.take_append_drop, List.take_append_drop]
      have hR : ∃ r R', (ks.drop i).take (j - i) = r :: R' ∧ ks[i].1 = r.1 := by
       refine ⟨ks[i], (ks.drop (i + 1)).take (j - i - 1), ?_, rfl⟩
       rw [List.drop_eq_getElem_cons hil, show j - i = (j - i - 1) + 1 by omega, List.take_succ_cons]
       rfl
      have st := lay_step hT (s := s) (s1 := s1) (e := e) (fr := fr) (hi := hi) (A := ks.take i) (R := (ks.drop i).take (j - i)) (B := ks.drop j) (M := M) (lM := lM) (pM := pM) (frM := ks[i].1) (lR := []) hl (by rw [← hsp]; exact c2) (by rw [← hsp]; exact hnt) (by rw [← hsp]; exact c5) C.ext C.few C.len hR hM hpn hpp hlM (keysA i hi1) (keysB j hj1) h1 h2
      rcases st with ⟨k1, k2⟩ | ⟨s2, bs, ps, k1, k2, k3, k4, k5, k6, k7, k8, k9⟩
      · refine .inl ⟨?_, by omega⟩
        rw [hch _ i1]
        simp only [hm, k1]
      · refine .inr ⟨s2, ([], replaced ks i j bs), ps, ?_, ⟨k2, k3, by omega, ?_, k6, fun q hq => ?_, ?_, fun _ => ?_⟩⟩
        · rw [hch _ i1]
          simp only [hm, k1]
        · rw [← hsp, c3] at k5
          have e2 : ks.take i ++ (bs ++ ks.drop j) = replaced ks i j bs := by unfold replaced; rw [List.append_assoc]
          rw [e2] at k5
          exact k5
        · rcases k7 q hq with k | k
          · rw [← hsp] at k
            exact .inl (hpt q k)
          · exact .inr k
        · rw [if_neg (by omega)]
          simp only [csize, replaced, zw2, zw4, List.length_drop, List.length_nil]
          omega
        · simp only [csize, replaced, zw2, zw4, List.length_drop, List.length_nil]
          omega
     have hq1 : (ks.drop wy).take 1 = [ks[wy]] := by rw [List.drop_eq_getElem_cons hw]; rfl
     by_cases hs : 2 ≤ csize now
     · refine finish now wy (wy + 1) _ ps1 (zw0 _) (by omega) hw (by unfold mend; rw [if_pos hs]) hw C.cont C.nodup ?_ ?_ ?_ C.most (by omega)
       · intro q hq
         rw [show wy + 1 - wy = 1 by omega, hq1, qZZ]
         exact C.pages q hq
       · rw [show wy + 1 - wy = 1 by omega, hq1, cits_one]
       · split <;> omega
     · by_cases h0 : 0 < wy
       · -- joined to the one ahead
         have hi1 : wy - 1 < ks.length := by omega
         have hFs := q9x c2 (wy - 1) hi1
         obtain ⟨j1, hj1⟩ : ∃ j1, wy = j1 + 1 := ⟨wy - 1, by omega⟩
         subst hj1
         have hj' : j1 + 1 - 1 = j1 := by omega
         simp only [hj'] at hi1 hFs
         rw [List.drop_eq_getElem_cons hw] at hFs
         simp only [nx] at hFs
         have hFs1 := (qHx C.ext hFs).1
         obtain ⟨a1, a2, a3, a4, -⟩ := qIq hFs1
         have hits : its s1 (e + 1) ks[j1].2 = its s (e + 1) ks[j1].2 := (qHx C.ext hFs).2.1
         have hpgs : pgs s1 (e + 1) ks[j1].2 = pgs s (e + 1) ks[j1].2 := (qHx C.ext hFs).2.2
         rw [hits, hpgs] at a2
         have hq2 : (ks.drop j1).take 2 = [ks[j1], ks[j1 + 1]] := by rw [List.drop_eq_getElem_cons hi1, List.drop_eq_getElem_cons hw]; rfl
         have hlt2 := List.pairwise_iff_getElem.1 (q7q c2).1 j1 (j1 + 1) hi1 hw (by omega)
         have hJ := cont_join a2 C.cont (Nat.le_of_lt hlt2) (fit_lt hFk)
         have hnk2 : (pgs s (e + 1) ks[j1].2 ++ pgs s (e + 1) ks[j1 + 1].2).Nodup := by
          have h7 : (ks.drop j1).take 2 ++ ks.drop (j1 + 2) = ks.drop j1 := by
           have := List.take_append_drop 2 (ks.drop j1)
           rw [List.drop_drop] at this
           exact this
          have h8 : (cpgs s (e + 1) (ks.drop j1)).Nodup := by
           rw [← List.take_append_drop j1 ks, q1j] at hnt
           exact (List.nodup_append.1 hnt).2.1
          rw [← h7, q1j, hq2, qNj] at h8
          exact (List.nodup_append.1 h8).1
         obtain ⟨d1, d2, d3⟩ := List.nodup_append.1 hnk2
         have hgd : ks.getD j1 (0, 0) = ks[j1] := by rw [List.getD_eq_getElem?_getD, zw3 hi1]; rfl
         have hfull := qJx hFs
         have hupAll : Up (its s (e + 1) ks[j1].2 ++ its s (e + 1) ks[j1 + 1].2) := by
          have h7 : (ks.drop j1).take 2 ++ ks.drop (j1 + 2) = ks.drop j1 := by
           have := List.take_append_drop 2 (ks.drop j1)
           rw [List.drop_drop] at this
           exact this
          have h8 := (qNQ c2).1
          rw [← List.take_append_drop j1 ks, q2X] at h8
          have h9 := (List.pairwise_append.1 h8).2.1
          rw [← h7, q2X, hq2, qNx] at h9
          exact (List.pairwise_append.1 h9).1
         refine finish (joined (contOf (nod s1 ks[j1].2) ks[j1].1) now) j1 (j1 + 2) _ _ (by omega) (by omega) (by omega) ?_ hi1 hJ ?_ ?_ ?_ ?_ ?_ (by omega)
         · unfold mend
           rw [if_neg hs, if_pos h0, hj', hgd]
           simp only [a1]
         · refine List.nodup_append.2 ⟨List.Nodup.sublist (List.tail_sublist _) d1, C.nodup, fun a ha b hb e => ?_⟩
           subst e
           have ha' := List.mem_of_mem_tail ha
           rcases C.pages a hb with k | k
           · exact d3 a ha' a k rfl
           · exact hfull a ha' k
         · intro q hq
           rw [show j1 + 2 - j1 = 2 by omega, hq2, qNj]
           rcases List.mem_append.1 hq with hq | hq
           · exact .inl (List.mem_append_left _ (List.mem_of_mem_tail hq))
           · rcases C.pages q hq with k | k
             · exact .inl (List.mem_append_right _ k)
             · exact .inr k
         · rw [show j1 + 2 - j1 = 2 by omega, hq2, qNx]
           have := hT.mid (its s (e + 1) ks[j1].2) (its s (e + 1) ks[j1 + 1].2) [] (by rw [List.append_nil]; exact hupAll) (fun x hx => by
            have hu1 := ((qCX hFs).2 x hx).2
            simp only [under, decide_eq_true_eq] at hu1
            omega) (fun x hx => by cases hx)
           rw [List.append_nil, List.append_nil] at this
           exact this.symm
         · simp only [csize, joined, zw2] at a3 ⊢
           omega
         · simp only [csize, joined, zw2] at a4 hs ⊢
           split <;> split at a4 <;> omega
       · -- joined to the one behind
         obtain rfl : wy = 0 := by omega
         have hi1 : 1 < ks.length := by omega
         have hFs := q9x c2 1 hi1
         have hFs1 := (qHx C.ext hFs).1
         obtain ⟨a1, a2, a3, a4, -⟩ := qIq hFs1
         have hits : its s1 (e + 1) ks[1].2 = its s (e + 1) ks[1].2 := (qHx C.ext hFs).2.1
         have hpgs : pgs s1 (e + 1) ks[1].2 = pgs s (e + 1) ks[1].2 := (qHx C.ext hFs).2.2
         rw [hits, hpgs] at a2
         have hq2 : (ks.drop 0).take 2 = [ks[0], ks[1]] := by
          rw [List.drop_zero]
          conv => lhs; rw [← List.drop_zero (l := ks)]
          rw [List.drop_eq_getElem_cons hw, List.drop_eq_getElem_cons hi1]; rfl
         have hlt2 := List.pairwise_iff_getElem.1 (q7q c2).1 0 1 hw hi1 (by omega)
         have hcn := C.cont
         have hn1 : nx hi (ks.drop (0 + 1)) = some ks[1].1 := by rw [List.drop_eq_getElem_cons hi1]; rfl
         rw [hn1] at hcn hFk
         have hJ := cont_join hcn a2 (Nat.le_of_lt hlt2) (fit_lt hFs)
         have h7 : (ks.drop 0).take 2 ++ ks.drop 2 = ks := by rw [List.drop_zero, List.take_append_drop]
         have hnk2 : (pgs s (e + 1) ks[0].2 ++ pgs s (e + 1) ks[1].2).Nodup := by
          have h8 := hnt
          rw [← h7, q1j, hq2, qNj] at h8
          exact (List.nodup_append.1 h8).1
         obtain ⟨d1, d2, d3⟩ := List.nodup_append.1 hnk2
         have hgd : ks.getD 1 (0, 0) = ks[1] := by rw [List.getD_eq_getElem?_getD, zw3 hi1]; rfl
         have hfull := qJx hFs
         have hupAll : Up (its s (e + 1) ks[0].2 ++ its s (e + 1) ks[1].2) := by
          have h8 := (qNQ c2).1
          rw [← h7, q2X, hq2, qNx] at h8
          exact (List.pairwise_append.1 h8).1
         refine finish (joined now (contOf (nod s1 ks[1].2) ks[1].1)) 0 2 _ _ (by omega) (by omega) (by omega) ?_ hw hJ ?_ ?_ ?_ ?_ ?_ (by omega)
         · unfold mend
           rw [if_neg hs, if_neg h0, Nat.zero_add, hgd]
           simp only [a1]
         · refine List.nodup_append.2 ⟨C.nodup, List.Nodup.sublist (List.tail_sublist _) d2, fun a ha b hb e => ?_⟩
           subst e
           have hb' := List.mem_of_mem_tail hb
           rcases C.pages a ha with k | k
           · exact d3 a k a hb' rfl
           · exact hfull a hb' k
         · intro q hq
           rw [show 2 - 0 = 2 from rfl, hq2, qNj]
           rcases List.mem_append.1 hq with hq | hq
           · rcases C.pages q hq with k | k
             · exact .inl (List.mem_append_left _ k)
             · exact .inr k
           · exact .inl (List.mem_append_right _ (List.mem_of_mem_tail hq))
         · rw [show 2 - 0 = 2 from rfl, hq2, qNx]
           have := hT.mid [] (its s (e + 1) ks[0].2) (its s (e + 1) ks[1].2) (by rw [List.nil_append]; exact hupAll) (fun x hx => by cases hx) (fun x hx => by
            have hu1 := ((qCX hFs).2 x hx).1
            simp only [above, decide_eq_true_eq] at hu1
            have h9 := hwu
            rw [hn1] at h9
            simp only [under, decide_eq_true_eq] at h9
            omega)
           rw [List.nil_append, List.nil_append] at this
           exact this.symm
         · simp only [csize, joined, zw2] at a3 ⊢
           omega
         · simp only [csize, joined, zw2] at a4 hs ⊢
           split <;> split at a4 <;> omega
end Tr
namespace Tr
open Oct Crc Lf
def IsRoot (s : Pgs) (l : List Itm) (r : Int) : Prop := l = [] ∧ r = 0 ∨ ∃ d, 1 ≤ d ∧ Fit s d none none r ∧ its s d r = l ∧ (pgs s d r).Nodup
def RootOk (R : Except Int (Pgs × Int)) (s : Pgs) (m : Nat) (l : List Itm) : Prop :=
 (R = .error 51 ∧ 2048 < s.length + m) ∨ ∃ s' r, R = .ok (s', r) ∧ Ext s s' ∧ s'.length ≤ 2048 ∧ s'.length ≤ s.length + m ∧ IsRoot s' l r
theorem RootOk.on {R : Except Int (Pgs × Int)} {s s1 : Pgs} {m m' : Nat} {l : List Itm} (h : RootOk R s1 m l) (x : Ext s s1) (hl : s1.length ≤ s.length + m') : RootOk R s (m' + m) l := by
 rcases h with ⟨h1, h2⟩ | ⟨s', r, h1, h2, h3, h4, h5⟩
 · exact .inl ⟨h1, by omega⟩
 · exact .inr ⟨s', r, h1, x.trans h2, h3, by omega, h5⟩
theorem RootOk.mono {R : Except Int (Pgs × Int)} {s : Pgs} {m m' : Nat} {l : List Itm} (h : RootOk R s m l) (hm : m ≤ m') : RootOk R s m' l := by
 rcases h with ⟨h1, h2⟩ | ⟨s', r, h1, h2, h3, h4, h5⟩
 · exact .inl ⟨h1, by omega⟩
 · exact .inr ⟨s', r, h1, h2, h3, by omega, h5⟩
theorem qOQ {k : Nat} {s : Pgs} {c : Cnt} (h : c.1 ≠ [] ∨ 1 < c.2.length) : rootOf (k + 1) s c = match lay s c with
 | .error e => .error e
 | .ok r => rootOf k r.1 ([], r.2) := by
 rw [rootOf, if_pos h]
 cases lay s c <;> rfl
theorem qWx (k : Nat) {s : Pgs} {bs : List Brn} {d : Nat} (hd : 1 ≤ d) (hl : s.length ≤ 2048) (h1 : bs.length = 1) (hc : q6x s d none bs) (hn : (cpgs s d bs).Nodup) : RootOk (rootOf (k + 1) s ([], bs)) s 0 (cits s d bs) := by
 obtain ⟨b, rfl⟩ := List.length_eq_one_iff.1 h1
 refine .inr ⟨s, b.2, ?_, Ext.refl s, hl, by omega, .inr ⟨d, hd, fit_lo hc.1 (fun _ _ => rfl), (cits_one s d b).symm, by rw [← qZZ]; exact hn⟩⟩
 rw [rootOf, if_neg (by simp)]
 rfl
theorem root_four (k : Nat) {s : Pgs} {bs : List Brn} {d : Nat} (hd : 1 ≤ d) (hl : s.length ≤ 2048) (h1 : 1 ≤ bs.length) (h4 : bs.length ≤ 4) (hc : q6x s d none bs) (hn : (cpgs s d bs).Nodup) : RootOk (rootOf (k + 2) s ([], bs)) s 2 (cits s d bs) := by
 by_cases h : bs.length = 1
 · exact (qWx (k + 1) hd hl h hc hn).mono (by omega)
 · rw [qOQ (.inr (by simp only; omega))]
   rcases qYx (fr := 0) hd hl (by omega) (by omega) hc (fun b hb => Nat.zero_le _) hn with ⟨k1, k2⟩ | ⟨s1, b1, k1, L, k3, k4, k5, k6⟩
   · rw [k1]
     exact .inl ⟨rfl, k2⟩
   · rw [k1]
     simp only
     have := qWx k (by omega : 1 ≤ d + 1) L.few (k6 h1 h4) L.chain L.nodup
     rw [L.items] at this
     exact this.on L.ext k3
theorem root_five (k : Nat) {s : Pgs} {bs : List Brn} {d : Nat} (hd : 1 ≤ d) (hl : s.length ≤ 2048) (h1 : 1 ≤ bs.length) (h5 : bs.length ≤ 5) (hc : q6x s d none bs) (hn : (cpgs s d bs).Nodup) : RootOk (rootOf (k + 3) s ([], bs)) s 4 (cits s d bs) := by
 by_cases h : bs.length = 1
 · exact (qWx (k + 2) hd hl h hc hn).mono (by omega)
 · rw [qOQ (.inr (by simp only; omega))]
   rcases qYx (fr := 0) hd hl (by omega) h5 hc (fun b hb => Nat.zero_le _) hn with ⟨k1, k2⟩ | ⟨s1, b1, k1, L, k3, k4, k5, k6⟩
   · rw [k1]
     exact .inl ⟨rfl, by omega⟩
   · rw [k1]
     simp only
     have := root_four k (by omega : 1 ≤ d + 1) L.few k4 (by omega) L.chain L.nodup
     rw [L.items] at this
     exact this.on L.ext k3
theorem root_mean {s : Pgs} {fr : UInt64} {c : Cnt} {l : List Itm} {ps : List Int} {e : Nat} (h : Cont s fr none c l ps e) (hl : s.length ≤ 2048) (hn : ps.Nodup) (h1 : e ≠ 0 → 1 ≤ csize c) (h2 : csize c ≤ if e = 0 then 4 else 5) : RootOk (rootOf 5 s c) s 4 l := by
 cases e with
 | zero =>
   obtain ⟨rfl, rfl, h3, h4⟩ := h
   simp only [if_true, csize, List.length_nil] at h2
   by_cases h0 : l = []
   · subst h0
     refine .inr ⟨s, 0, ?_, Ext.refl s, hl, by omega, .inl ⟨rfl, rfl⟩⟩
     rw [rootOf, if_neg (by simp)]
     rfl
   · rw [qOQ (.inl h0)]
     have hlen : 1 ≤ l.length := List.length_pos_iff.2 h0
     rcases lay_items hl hlen (by omega) h3 h4 with ⟨k1, k2⟩ | ⟨s1, b1, k1, L, k3, k4, k5, -⟩
     · rw [k1]
       exact .inl ⟨rfl, by omega⟩
     · rw [k1]
       simp only
       have := root_four 2 (zw0 1) L.few k4 (by omega) L.chain L.nodup
       rw [L.items] at this
       exact this.on L.ext k3
 | succ e =>
   obtain ⟨k1, k2, k3, k4, k5⟩ := h
   obtain ⟨c1, c2⟩ := c
   simp only at k1 k2 k3 k4 k5
   subst k1
   subst k3
   subst k4
   rw [if_neg (by omega)] at h2
   have h1 := h1 (by omega)
   simp only [csize, List.length_nil] at h1 h2
   exact root_five 2 (by omega) hl (by omega) (by omega) k2 hn
theorem fit_depth {s : Pgs} {d : Nat} {lo hi : Bnd} {p : Int} (hl : s.length ≤ 2048) (h : Fit s d lo hi p) (hn : (pgs s d p).Nodup) : d ≤ 11 := by
 have h1 := qZj h
 have h2 := qIj s.length _ hn (q2Q h)
 by_cases hd : d ≤ 11
 · exact hd
 · have : 2 ^ 12 ≤ 2 ^ d := Nat.pow_le_pow_right (by omega) (by omega)
   have : (2 : Nat) ^ 12 = 4096 := by decide
   omega
theorem IsRoot.read {s : Pgs} {l : List Itm} {r : Int} (hl : s.length ≤ 2048) (h : IsRoot s l r) : readE s r = 0 ∧ readI s r = l := by
 rcases h with ⟨rfl, rfl⟩ | ⟨d, h1, h2, h3, h4⟩
 · have e : readE s 0 = 0 := by unfold readE; rw [if_neg (by omega), if_pos rfl]
   exact ⟨e, by unfold readI; rw [if_neg (fun h => h.2 rfl)]⟩
 · have := qBz hl ⟨h1, by have := fit_depth hl h2 h4; omega, h2, h4⟩
   exact ⟨this.1, this.2.1.trans h3⟩
theorem qPz {s : Pgs} {r : Int} (h : readE s r = 0) : s.length ≤ 2048 ∧ IsRoot s (readI s r) r := by
 obtain ⟨h1, h2⟩ := qDQ h
 refine ⟨h1, ?_⟩
 rcases h2 with ⟨rfl, e, -⟩ | ⟨-, d, W, e, -⟩
 · rw [e]; exact .inl ⟨rfl, rfl⟩
 · rw [e]; exact .inr ⟨d, W.pos, W.fit, rfl, W.nodup⟩
structure qTx (T : List Itm → List Itm) (s : Pgs) (root : Int) (s' : Pgs) (r : Int) : Prop where
 ext : Ext s s'
 few : s'.length ≤ 2048
 len : s'.length ≤ s.length + 26
 ok_ : readE s' r = 0
 items : readI s' r = T (readI s root)
theorem q7Z {T : List Itm → List Itm} {key : UInt64} (hT : Acts T key) {s : Pgs} {root : Int} (h : readE s root = 0) :
 (changed T key s root 16 = .error 51 ∧ 2048 < s.length + 26) ∨ ∃ s' r, changed T key s root 16 = .ok (s', r) ∧ qTx T s root s' r := by
 obtain ⟨hl, hr⟩ := qPz h
 have fin : ∀ {s1 : Pgs} {c : Cnt} {m : Nat}, turned T key s root 16 = .ok (s1, c) → Ext s s1 → s1.length ≤ s.length + m → m ≤ 22 → RootOk (rootOf 5 s1 c) s1 4 (T (readI s root)) → (changed T key s root 16 = .error 51 ∧ 2048 < s.length + 26) ∨ ∃ s' r, changed T key s root 16 = .ok (s', r) ∧ qTx T s root s' r := by
  intro s1 c m ht x hm h22 hro
  have e : changed T key s root 16 = rootOf 5 s1 c := by unfold changed; rw [ht]
  rw [e]
  rcases (hro.on x hm).mono (show m + 4 ≤ 26 by omega) with ⟨h1, h2⟩ | ⟨s', r, h1, h2, h3, h4, h5⟩
  · exact .inl ⟨h1, h2⟩
  · exact .inr ⟨s', r, h1, h2, h3, h4, (h5.read h3).1, (h5.read h3).2⟩
 rcases hr with ⟨e0, rfl⟩ | ⟨d, d1, hF, hI, hn⟩
 · refine fin (s1 := s) (c := (T [], [])) (m := 0) (by unfold turned; rw [if_pos rfl]) (Ext.refl s) (by omega) (by omega) ?_
   rw [e0]
   refine root_mean (fr := 0) (e := 0) (ps := []) ⟨rfl, rfl, hT.up [] List.Pairwise.nil, fun x hx => ⟨Nat.zero_le _, rfl⟩⟩ hl List.nodup_nil (fun h => absurd rfl h) ?_
   simp only [if_true, csize, List.length_nil]
   have := hT.few []
   simp only [List.length_nil] at this
   omega
 · have hd := fit_depth hl hF hn
   obtain ⟨e, rfl⟩ : ∃ e, d = e + 1 := ⟨d - 1, by omega⟩
   have hr0 : root ≠ 0 := fun e => by have := (qJj hF).1; omega
   have hF0 : Fit s (e + 1) (some 0) none root := fit_lo hF (fun k _ => by simp [above])
   have ht : turned T key s root 16 = change T key 16 s (0, root) := by unfold turned; rw [if_neg hr0]
   rcases qRZ hT e 16 (by omega) hl hF0 hn (Nat.zero_le _) rfl with ⟨k1, k2⟩ | ⟨s1, c, ps, k1, C⟩
   · refine .inl ⟨?_, by omega⟩
     unfold changed
     rw [ht, k1]
   · refine fin (ht.trans k1) C.ext C.len (by omega) ?_
     rw [← hI]
     exact root_mean C.cont C.few C.nodup C.some_ C.most
end Tr
namespace Tr
open Oct Crc Lf
abbrev Stk := List (Int × Nat)
def nodeAt (s : Pgs) (z : Int × Nat) : Nod := if z.2 = 0 then ([], []) else nod s z.1
def wgt (s : Pgs) (z : Int × Nat) : Nat := if z.2 = 0 then 1 else (pgs s z.2 z.1).length
def heavy (s : Pgs) (L : Stk) : Nat := (L.map (wgt s)).sum
def sits (s : Pgs) (L : Stk) : List Itm := L.flatMap fun z => its s z.2 z.1
def kidsAt (s : Pgs) (z : Int × Nat) : Stk := (nodeAt s z).2.map fun k => (k, z.2 - 1)
def OneOk (s : Pgs) (met : List Int) (z : Int × Nat) : Prop := (z.2 = 0 ∧ z.1 ∉ met) ∨ (1 ≤ z.2 ∧ (∃ lo hi, Fit s z.2 lo hi z.1) ∧ ∀ q ∈ pgs s z.2 z.1, q ∈ met)
theorem sits_append (s : Pgs) (a b : Stk) : sits s (a ++ b) = sits s a ++ sits s b := by unfold sits; rw [List.flatMap_append]
theorem heavy_append (s : Pgs) (a b : Stk) : heavy s (a ++ b) = heavy s a + heavy s b := by unfold heavy; rw [List.map_append, List.sum_append]
theorem OneOk.shape {s : Pgs} {met : List Int} {z : Int × Nat} (h : OneOk s met z) : (nodeAt s z).1.length ≤ 3 ∧ (nodeAt s z).2.length ≤ 4 ∧ rise (nodeAt s z).1 = true ∧ ((nodeAt s z).2 = [] ∨ (nodeAt s z).2.length = (nodeAt s z).1.length + 1) ∧ 1 ≤ wgt s z := by
 rcases h with ⟨h0, -⟩ | ⟨h1, ⟨lo, hi, hF⟩, -⟩
 · unfold nodeAt wgt; rw [if_pos h0, if_pos h0]; exact ⟨by simp, by simp, rfl, .inl rfl, by omega⟩
 · unfold nodeAt wgt; rw [if_neg (by omega), if_neg (by omega)]
   obtain ⟨d, hd⟩ : ∃ d, z.2 = d + 1 := ⟨z.2 - 1, by omega⟩
   rw [hd] at hF ⊢
   have hok := (good_ok hF.2.1).1
   have hk := hok.kids
   have hf := hok.few
   refine ⟨hf, ?_, hok.rises, ?_, ?_⟩
   · rcases hk with k | k
     · have : (nod s z.1).2 = [] := by simpa [Lf.isLeaf] using k
       rw [this]; simp
     · omega
   · rcases hk with k | k
     · exact .inl (by simpa [Lf.isLeaf] using k)
     · exact .inr k
   · unfold pgs; simp
theorem OneOk.met {s : Pgs} {met : List Int} {z : Int × Nat} (h : OneOk s met z) : (z.2 = 0 ∧ z.1 ∉ met ∧ nodeAt s z = ([], [])) ∨ (z.1 ∈ met ∧ nodeAt s z = nod s z.1 ∧ 1 ≤ z.1 ∧ z.1 ≤ s.length) := by
 rcases h with ⟨h0, h1⟩ | ⟨h1, ⟨lo, hi, hF⟩, h3⟩
 · exact .inl ⟨h0, h1, by unfold nodeAt; rw [if_pos h0]⟩
 · exact .inr ⟨h3 _ (qXJ h1 _), by unfold nodeAt; rw [if_neg (by omega)], qJj hF⟩
theorem OneOk.leaf {s : Pgs} {met : List Int} {z : Int × Nat} (h : OneOk s met z) (hk : (nodeAt s z).2 = []) : its s z.2 z.1 = (nodeAt s z).1 := by
 rcases h with ⟨h0, -⟩ | ⟨h1, -, -⟩
 · unfold nodeAt; rw [if_pos h0, h0]; rfl
 · unfold nodeAt at hk ⊢
   rw [if_neg (by omega)] at hk ⊢
   obtain ⟨d, hd⟩ : ∃ d, z.2 = d + 1 := ⟨z.2 - 1, by omega⟩
   rw [hd]
   unfold its
   rw [if_pos hk]
theorem OneOk.kids {s : Pgs} {met : List Int} {z : Int × Nat} (h : OneOk s met z) (hk : (nodeAt s z).2 ≠ []) : (∀ k ∈ kidsAt s z, OneOk s met k) ∧ heavy s (kidsAt s z) + 1 = wgt s z ∧ its s z.2 z.1 = sits s (kidsAt s z) ∧
 (∀ (i : Nat) (hi : i < (kidsAt s z).length), ∀ x ∈ its s (kidsAt s z)[i].2 (kidsAt s z)[i].1, (∀ (h1 : i < (nodeAt s z).1.length), x.1.toNat < (nodeAt s z).1[i].1.toNat) ∧ (∀ (h1 : 0 < i) (h2 : i - 1 < (nodeAt s z).1.length), (nodeAt s z).1[i - 1].1.toNat ≤ x.1.toNat)) := by
 rcases h with ⟨h0, -⟩ | ⟨h1, ⟨lo, hi, hF⟩, h3⟩
 · exact absurd (by unfold nodeAt; rw [if_pos h0]) hk
 · obtain ⟨p, dz⟩ := z
   simp only at h1 hF h3
   obtain ⟨d, rfl⟩ : ∃ d, dz = d + 1 := ⟨dz - 1, by omega⟩
   have hn : nodeAt s (p, d + 1) = nod s p := by unfold nodeAt; rw [if_neg (by omega)]
   rw [hn] at hk
   have hkd : kidsAt s (p, d + 1) = (nod s p).2.map fun k => (k, d) := by unfold kidsAt; rw [hn]; rfl
   obtain ⟨g1, g2, g3⟩ := hF
   have hd0 : d ≠ 0 := fun e => by rw [if_pos e] at g3; exact hk g3
   rw [if_neg hd0] at g3
   have hpg : pgs s (d + 1) p = p :: (nod s p).2.flatMap (pgs s d) := rfl
   rw [hkd]
   refine ⟨fun k hk' => ?_, ?_, ?_, ?_⟩
   · obtain ⟨q, hq, rfl⟩ := List.mem_map.1 hk'
     obtain ⟨i, hi', rfl⟩ := List.getElem_of_mem hq
     refine .inr ⟨by simp only; omega, ⟨_, _, g3.2 i hi'⟩, fun r hr => h3 r ?_⟩
     rw [hpg]
     exact List.mem_cons_of_mem _ (List.mem_flatMap.2 ⟨_, hq, hr⟩)
   · unfold heavy wgt
     rw [if_neg (by simp only; omega)]
     simp only [List.map_map]
     rw [hpg, List.length_cons, List.length_flatMap]
     congr 1
     congr 1
     refine List.map_congr_left fun k hk' => ?_
     simp [hd0]
   · show its s (d + 1) p = _
     unfold its sits
     rw [if_neg hk, List.flatMap_map]
   · intro i hi' x hx
     rw [hn]
     have hi2 : i < (nod s p).2.length := by simpa using hi'
     simp only [List.getElem_map] at hx
     have hb := (qCX (g3.2 i hi2)).2 x hx
     refine ⟨fun h1 => ?_, fun h1 h2 => ?_⟩
     · have := hb.2
       unfold hiOf at this
       rw [if_pos h1, zw3 h1] at this
       simpa [under] using this
     · have := hb.1
       unfold loOf at this
       rw [if_pos h1, zw3 h2] at this
       simpa [above] using this
theorem sits_none {s : Pgs} {L : Stk} {f : Itm → Bool} (h : ∀ z ∈ L, ∀ x ∈ its s z.2 z.1, f x = false) : (sits s L).filter f = [] := by
 rw [List.filter_eq_nil_iff]
 intro x hx
 obtain ⟨z, hz, hxz⟩ := List.mem_flatMap.1 hx
 rw [h z hz x hxz]
 decide
theorem floor_node {s : Pgs} {met : List Int} {z : Int × Nat} (h : OneOk s met z) (hk : (nodeAt s z).2 ≠ []) (key : UInt64) : (its s z.2 z.1).filter (fun x => decide (x.1.toNat ≤ key.toNat)) = (sits s ((kidsAt s z).take (way (nodeAt s z) key + 1))).filter (fun x => decide (x.1.toNat ≤ key.toNat)) := by
 obtain ⟨-, -, k3, k4⟩ := h.kids hk
 obtain ⟨-, -, hr, -, -⟩ := h.shape
 have w2 := (qBq hr key).2
 rw [k3]
 conv => lhs; rw [← List.take_append_drop (way (nodeAt s z) key + 1) (kidsAt s z)]
 rw [sits_append, List.filter_append, sits_none (L := (kidsAt s z).drop _), List.append_nil]
 intro y hy x hx
 obtain ⟨j, hj, rfl⟩ := List.getElem_of_mem hy
 rw [List.length_drop] at hj
 rw [List.getElem_drop] at hx
 have hlen : (kidsAt s z).length = (nodeAt s z).1.length + 1 := by
  unfold kidsAt; rw [List.length_map]
  rcases h.shape.2.2.2.1 with e | e
  · exact absurd e hk
  · exact e
 have h5 := (k4 (way (nodeAt s z) key + 1 + j) (by omega) x hx).2 (by omega) (by omega)
 have h6 := w2 (way (nodeAt s z) key + 1 + j - 1) (by omega)
 simp only [decide_eq_false_iff_not]
 have h7 : ¬ (way (nodeAt s z) key + 1 + j - 1 < way (nodeAt s z) key) := by omega
 have h8 : ¬ ((nodeAt s z).1[way (nodeAt s z) key + 1 + j - 1]'(by omega)).1.toNat ≤ key.toNat := fun e => h7 (h6.2 e)
 omega
theorem from_node {s : Pgs} {met : List Int} {z : Int × Nat} (h : OneOk s met z) (hk : (nodeAt s z).2 ≠ []) (key : UInt64) : (its s z.2 z.1).filter (fun x => decide (key.toNat ≤ x.1.toNat)) = (sits s ((kidsAt s z).drop (way (nodeAt s z) key))).filter (fun x => decide (key.toNat ≤ x.1.toNat)) := by
 obtain ⟨-, -, k3, k4⟩ := h.kids hk
 obtain ⟨-, -, hr, -, -⟩ := h.shape
 have w2 := (qBq hr key).2
 have w1 := (qBq hr key).1
 rw [k3]
 conv => lhs; rw [← List.take_append_drop (way (nodeAt s z) key) (kidsAt s z)]
 rw [sits_append, List.filter_append, sits_none (L := (kidsAt s z).take _), List.nil_append]
 intro y hy x hx
 obtain ⟨j, hj, rfl⟩ := List.getElem_of_mem hy
 rw [zw4] at hj
 rw [List.getElem_take] at hx
 have hjw : j < way (nodeAt s z) key := by omega
 have hjl : j < (nodeAt s z).1.length := by unfold way at hjw; omega
 have h5 := (k4 j (by omega) x hx).1 hjl
 have h6 := (w2 j hjl).1 hjw
 simp only [decide_eq_false_iff_not]
 omega
end Tr
open Go.RowKit
theorem rKids_cells {w : World} {P : Nat → Prop} {ad : Addr} {n c : Nat} {l : List Int} (h : rKids.rd w P [.slice (some ad) n c] l) (hn : 0 < n) : ∀ j u, (q1J l)[j]? = some u → w.cell? (ad.add j) = some u := by
 obtain ⟨b, off, e, -, -, hat⟩ := q2z h hn
 simp only [Option.some.injEq] at e
 subst e
 intro j u hj
 have hlt : j < l.length := by have := (List.getElem?_eq_some_iff.1 hj).1; simpa [q1J] using this
 rw [Addr.add_lit, (hat j hlt).1, ← hj]
 simp [q1J, zw3 hlt]
theorem rKids_ins {w : World} {P : Nat → Prop} {a : Option Addr} {n c : Nat} {l : List Int} (h : rKids.rd w P [.slice a n c] l) : ∀ x ∈ l, -9223372036854775808 ≤ x ∧ x ≤ 9223372036854775807 := by
 intro x hx
 obtain ⟨j, hj, rfl⟩ := List.getElem_of_mem hx
 have hl := (q0x h).1
 obtain ⟨b, off, e, -, -, hat⟩ := q2z h (by omega)
 exact (hat j hj).2
theorem OwnK.typed {e : TypeId} {w : World} {base : Nat} {v : Value} {l : List Int} (h : OwnK e w base v l) : ∀ b, v.ownBlock = some b → ∃ c z, w.heap[b]? = some (.cells c e z) := fun b hb => by
 rcases h.row.2 with ⟨rfl, h0⟩ | ⟨g, cap, cur, rfl, g1, g2, -⟩
 · cases hb
 · cases hb; exact ⟨_, _, g2⟩
theorem OwnK.tk {ts : List TypeId} {e : TypeId} {w w' : World} {base : Nat} {v : Value} {l : List Int} (h : OwnK e w base v l) (k : TK ts w w') (hn : e ∉ ts) : OwnK e w' base v l := h.keep1 fun b hb => by obtain ⟨c, z, h1⟩ := h.typed b hb; exact k.keep h1 hn
theorem TK.grewK {w w' : World} {base : Nat} {v v' : Value} {l : List Int} (h : OwnK 3 w base v l) (k : Grew w w' v v') : TK [3] w w' :=
 ⟨k.grown.size, fun {b} _ _ _ e hn => k.grown.block b (Array.getElem?_eq_some_iff.1 e).1 (fun e' => by obtain ⟨c, z, h1⟩ := h.typed b e'.symm; rw [h1] at e; cases e; exact hn (by simp))⟩
theorem OwnK.base_below {w w' : World} {base : Nat} {v v' : Value} {l : List Int} (h : OwnK 3 w base v l) (hb : base ≤ w.heap.size) (g : Grew w w' v v') : Below base w w' :=
 ⟨g.grown.os, g.grown.tape, g.grown.output, g.grown.size, fun b hlt => g.grown.block b (by omega) (fun e => by have := (h.row.lt b e.symm).1; omega)⟩
theorem qOj {w : World} {base : Nat} {v : Value} {l : List Int} (hown : OwnK 3 w base v l) {P : Nat → Prop} {a : Option Addr} {n c : Nat} {m : List Int} (h : rKids.rd w P [.slice a n c] m) (hb : l.length + n ≤ 1000000) (hbase : base ≤ w.heap.size) (ty : TypeId) :
 ∃ v' w', (Builtin.append_ #[25, 25] ty #[v, .slice a n c]).run Tryz.prog w = .ok v' w' ∧ OwnK 3 w' base v' (l ++ m) ∧ Grew w w' v v' := by
 obtain ⟨ht, i, z, hi, hz, hsize, hby, hzs, hpos⟩ := elem_kid
 obtain ⟨hl, hnc, hnil, -⟩ := q0x h
 cases a with
 | none =>
   obtain rfl := hnil rfl
   obtain rfl : n = 0 := by omega
   obtain rfl : m = [] := List.length_eq_zero_iff.1 hl
   exact ⟨v, w, run_append_owned_none (P := Tryz.prog) (w := w) base 25 ty 3 i 1 ht hi v l.length (q1J l) hown.row, by rw [List.append_nil]; exact hown, ⟨World.grownBy.refl _ _, fun b e => .inl e⟩⟩
 | some ad =>
   obtain ⟨v', w', hr, k1, k2, -, k4⟩ := run_append_own_at (P := Tryz.prog) w base 25 ty 3 i z 1 8 ht hi hz hsize hby hzs (by decide) v l.length (q1J l) hown.row ad n c (q1J m) (by rw [show (q1J m).length = m.length by simp [q1J], hl]; exact (Nat.mul_one _).symm)
    (fun j u hj => by
     by_cases h0 : 0 < n
     · exact rKids_cells h h0 j u hj
     · obtain rfl : n = 0 := by omega
       obtain rfl : m = [] := List.length_eq_zero_iff.1 hl
       simp [q1J] at hj)
    (fun u hu => by
     obtain ⟨x, hx, rfl⟩ := List.mem_map.1 hu
     rfl) (by unfold maxLen; omega) (by omega) hbase
   refine ⟨v', w', hr, ⟨?_, fun y hy => ?_⟩, ⟨k2, fun b' e => ?_⟩⟩
   · rw [zw2, show q1J (l ++ m) = q1J l ++ q1J m by simp [q1J], hl]
     exact k1
   · rcases List.mem_append.1 hy with h' | h'
     · exact hown.ins y h'
     · exact rKids_ins h y h'
   · rcases k4 with k | k
     · exact .inl (k.symm.trans e)
     · exact .inr (by rw [e] at k; simp only [Option.some.injEq] at k; omega)
theorem OwnK.less {e : TypeId} {w : World} {base n c : Nat} {a : Option Addr} {l : List Int} {x : Int} (h : OwnK e w base (.slice a (n + 1) c) (l ++ [x])) : OwnK e w base (.slice a n c) l := by
 have hl : l.length = n := by obtain ⟨p, q, e, -⟩ := h.slice; simp only [Value.slice.injEq, zw2, List.length_singleton] at e; omega
 refine ⟨⟨by simp [q1J], ?_⟩, fun y hy => h.ins y (List.mem_append_left _ hy)⟩
 rcases h.row.2 with ⟨e, h0⟩ | ⟨g, cap, cur, e, g1, g2, g3, g4, g5, g6⟩
 · simp at h0
 · simp only [Value.slice.injEq] at e
   obtain ⟨rfl, -, rfl⟩ := e
   refine .inr ⟨g, c, cur, by rw [hl], g1, g2, ?_, g4, g5, ?_⟩
   · rw [zw2, List.length_singleton] at g3; omega
   · rw [zw2, List.length_singleton, Nat.mul_one] at g6
     have h1 := congrArg (List.take l.length) g6
     rw [List.take_take, Nat.min_eq_left (by omega)] at h1
     rw [Nat.mul_one, h1]
     simp [q1J]
theorem qEJ (w : World) (b base n c : Nat) (a : Option Addr) (l : List Int) (x : Int) (hV : Row w b 25 [.slice a (n + 1) c]) (hO : OwnK 3 w base (.slice a (n + 1) c) (l ++ [x])) (hn : n ≤ 1000000) :
 Calls Tryz.prog 46 #[.pointer (some ⟨b, 0, none⟩)] w fun e w' => e = .returned (.int .i64 x) ∧ Row w' b 25 [.slice a n c] ∧ OwnK 3 w' base (.slice a n c) l ∧ Kept (· ≠ b) w w' := by
 have hl : l.length = n := by obtain ⟨p, q, e, -⟩ := hO.slice; simp only [Value.slice.injEq, zw2, List.length_singleton] at e; omega
 have hnc : n + 1 ≤ c := by obtain ⟨p, q, e, h1, -⟩ := hO.slice; simp only [Value.slice.injEq, zw2, List.length_singleton] at e h1; omega
 obtain ⟨g, rfl⟩ : ∃ g, a = some ⟨g, 0, none⟩ := by
  rcases hO.row.2 with ⟨e, h0⟩ | ⟨g, c2, cur, e, -⟩
  · simp at h0
  · simp only [Value.slice.injEq] at e
    exact ⟨g, e.1⟩
 have hcell : w.cell? ⟨g, n, none⟩ = some (.int .i64 x) := by
  rcases hO.row.2 with ⟨e, h0⟩ | ⟨g', cap, cur, e, g1, g2, g3, g4, g5, g6⟩
  · cases e
  · simp only [Value.slice.injEq, Option.some.injEq, Addr.mk.injEq, and_true] at e
    obtain ⟨rfl, -, -⟩ := e
    have R : Row w g 3 cur.toList := ⟨by simpa using g2⟩
    refine R.cell ?_
    have h1 : (cur.toList.take ((l ++ [x]).length * 1))[n]? = some (.int .i64 x) := by
     rw [g6]
     simp [q1J, ← hl]
    rw [List.getElem?_take] at h1
    split at h1
    · exact h1
    · cases h1
 have HV : Hid _ := hV
 have HO2 : Hid (OwnK 3 w base (.slice (some ⟨g, 0, none⟩) n c) l) := hO.less
 have HG : Hid (∀ q, (Value.slice (some ⟨g, 0, none⟩) n c).ownBlock = some q → q ≠ b) := fun q e h => by
  subst h
  obtain ⟨c, z, h1⟩ := HO2.out.typed _ e
  rw [hV.eq] at h1
  cases h1
 have c0 := hV.cell (j := 0) rfl
 have f0 := hV.frozen 0
 have hw1 : IntKind.i64.wrap (((n + 1 : Nat) : Int) - 1) = (n : Int) := by rw [IntKind.wrap_i64]; omega
 have hn0 : (0 : Int) ≤ (n : Int) := Int.natCast_nonneg _
 have hn1 : (n : Int) < ((n + 1 : Nat) : Int) := by omega
 have hn2 : (n : Int) ≤ (c : Int) := by omega
 have hne : ¬ (c = n) := by omega
 obtain ⟨m, hm⟩ : ∃ m, m = n + 1 := ⟨_, rfl⟩
 rw [← hm] at HV c0 hw1 hn1 hnc
 clear hV hO hl hm
 go_enter Tryz.func46, Tryz.ntmps46
 go_wp2
 go_ret
 refine ⟨rfl, HV.out.set 0 _, HO2.out.keep1 (fun q e => Below.heap_setCell _ _ _ _ (HG.out q e)), (Kept.refl _ w).setCell (p := ⟨b, 0, none⟩) (fun h => h rfl) _⟩
structure Seen (w : World) (g gm : Nat) (s : Pgs) (met : List Int) : Prop where
 cell : ∀ W, Below w.heap.size w W → W.cell? ⟨g, 1, none⟩ = some (.map (some gm))
 look : ∀ W, Below w.heap.size w W → ∀ z, Tr.OneOk s met z → ∃ ia il ic ka kl kc, (Instr.lookup 61 (.map (some gm)) (.int .i64 z.1) false).run Tryz.prog W = .ok (.agg #[.slice ia il ic, .slice ka kl kc]) W ∧ rItms.rd W (fun b => b < w.heap.size) [.slice ia il ic] (Tr.nodeAt s z).1 ∧ rKids.rd W (fun b => b < w.heap.size) [.slice ka kl kc] (Tr.nodeAt s z).2
 lt : g < w.heap.size
theorem rItms_none0 (w : World) (N : Nat) : rItms.rd w (fun b => b < N) [.slice none 0 0] [] := rItms.weaken (P := fun b => w.heap.size ≤ b) ((OwnI.nil 45 w w.heap.size).rd (by simp)) (fun b hb hl => absurd hl (by omega))
theorem rKids_none0 (w : World) (N : Nat) : rKids.rd w (fun b => b < N) [.slice none 0 0] [] := rKids.weaken (P := fun b => w.heap.size ≤ b) ((OwnK.nil 3 w w.heap.size).rd (by simp)) (fun b hb hl => absurd hl (by omega))
theorem LWalks.seen {w : World} {g gm : Nat} {P : Nat → Prop} {pa : Option Addr} {pc base : Nat} {s : Pgs} {k : Tr.Lw} {es : List (Int × Value)} (h : LWalks w g gm P pa pc base s k es) : Seen w g gm s k.met where
 cell W b := (h.row.below b).cell (j := 1) rfl
 lt := h.row.lt
 look W b z hz := by
  have hM := h.met.below b
  have hN : (es.map Prod.fst).Nodup := by rw [h.keys]; exact h.nodup
  rcases hz.met with ⟨-, h1, e⟩ | ⟨h1, e, -, -⟩
  · have hno : ∀ y ∈ es, y.1 ≠ z.1 := fun y hy e' => h1 (by rw [← h.keys, ← e']; exact List.mem_map.2 ⟨y, hy, rfl⟩)
    refine ⟨none, 0, 0, none, 0, 0, look_no hM hno false, ?_, ?_⟩
    · rw [e]; exact rItms_none0 W _
    · rw [e]; exact rKids_none0 W _
  · rw [← h.keys] at h1
    obtain ⟨y, hy, e'⟩ := List.mem_map.1 h1
    obtain ⟨ia, il, ic, ka, kl, kc, ev, hI, hK⟩ := h.nodes y hy
    refine ⟨ia, il, ic, ka, kl, kc, ?_, ?_, ?_⟩
    · have := look_yes hM (p := z.1) (v := y.2) (by rw [← e']; exact hy) hN false
      rw [ev] at this
      exact this
    · rw [e, ← e']; exact Rep.below (rItms.weaken hI (fun b _ hl => hl)) b
    · rw [e, ← e']; exact Rep.below (rKids.weaken hK (fun b _ hl => hl)) b
open Go.Shelf
attribute [local go_sem] Oper.semAt_some
abbrev qWq := Nat × Int
def q4j (z : Nat → Int) (len k : Nat) : List qWq := (List.range k).map (fun t => (len - 1 - t, z (len - 1 - t)))
theorem qLJ (z : Nat → Int) (len j : Nat) (h : j < len) : q4j z len (len - 1 - j + 1) = q4j z len (len - 1 - j) ++ [(j, z j)] := by
 simp only [q4j, List.range_succ, List.map_append, List.map_cons, List.map_nil]
 rw [show len - 1 - (len - 1 - j) = j from by omega]
theorem qGj (z : Nat → Int) (len k : Nat) : (q4j z len k).length = k := by simp [q4j]
def fitI (x : Int) : Int := if -9223372036854775808 ≤ x ∧ x ≤ 9223372036854775807 then x else 0
theorem fitI_of {x : Int} (h : -9223372036854775808 ≤ x ∧ x ≤ 9223372036854775807) : fitI x = x := by unfold fitI; rw [if_pos h]
theorem fitI_in (x : Int) : -9223372036854775808 ≤ fitI x ∧ fitI x ≤ 9223372036854775807 := by
 unfold fitI
 split
 · assumption
 · omega
def encGivenI (x : qWq) : Array Value := #[.int .i64 (x.1 : Int), .int .i64 (fitI x.2)]
def KB (Bs b : Nat) (A B : World) : Prop := ∀ p : Addr, (p.block = Bs ∨ p.block = b) → B.cell? p = A.cell? p
theorem KB.refl (Bs b : Nat) (A : World) : KB Bs b A A := fun _ _ => rfl
theorem KB.trans {Bs b : Nat} {A B C : World} (h : KB Bs b A B) (k : KB Bs b B C) : KB Bs b A C := fun p hp => (k p hp).trans (h p hp)
theorem KB.below {Bs b : Nat} {A B : World} {n : Nat} (h : Below n A B) (h1 : Bs < n) (h2 : b < n) : KB Bs b A B := fun p hp => h.cell (by rcases hp with e | e <;> omega)
theorem KB.put {Bs b : Nat} {w : World} (h1 : Bs < w.heap.size) (h2 : b < w.heap.size) (W : World) (l : Nat) (o o' : Obj) (hl : w.heap.size ≤ l) (h : W.heap[l]? = some o) (hc : o.isCells = false) (hw : o.isWalk = false) : KB Bs b W (W.putObj l o') :=
 KB.below (belowK_b (w := w) (zw0 _) W l o o' hl h hc hw) h1 h2
set_option maxRecDepth 100000 in
theorem back1I_in (F : Fence) (n : Nat) (h7 : F.fn 65) (hro : F.round = none) (hn : 1 ≤ n) (l Bs b off len cap : Nat) (z : Nat → Int) (hz : ∀ j, j < len → -9223372036854775808 ≤ z j ∧ z j ≤ 9223372036854775807) (hlen : len ≤ 1000000) (J Jx : List qWq → World → Prop)
 (hY : ∀ pre x W, J pre W → pre.length < len → YieldAt F (n - 1) Tryz.prog l #[.int .i64 (x.1 : Int), .int .i64 (fitI x.2)] W fun e W' =>
  (e = .returned (.bool true) ∧ J (pre ++ [x]) W' ∧ KB Bs b W W') ∨ (e = .returned (.bool false) ∧ Jx (pre ++ [x]) W'))
 (W : World) (hBs : W.cell? ⟨Bs, 0, none⟩ = some (.slice (some ⟨b, off, none⟩) len cap))
 (hc : ∀ j, j < len → W.cell? ⟨b, off + j, none⟩ = some (.int .i64 (z j))) (h0 : J [] W) :
 CallsIn F n Tryz.prog 65 #[.func (.yield l) #[] #[], .pointer (some ⟨Bs, 0, none⟩)] W fun e W' => (∃ v, e = .returned v) ∧
  ((∃ ys, ys = q4j z len len ∧ J ys W') ∨ (∃ pre, (∃ j, j < len ∧ pre = q4j z len (len - 1 - j + 1)) ∧ Jx pre W')) := by
 refine callsIn_of_wp Tryz.func65 rfl h7 ?_ hro
 simp only [Tryz.ntmps65, List.size_toArray, List.length_cons, List.length_nil, Nat.reduceAdd, Nat.reduceSub, Array.replicate_succ, Array.replicate_zero, List.push_toArray, List.append_toArray, List.nil_append, List.cons_append]
 gi_wp2
 gi_loopw [3] (fun i wr => ((∃ j : Nat, j < len ∧ i = .int .i64 j ∧ J (q4j z len (len - 1 - j)) wr) ∨ (i = .int .i64 (-1) ∧ J (q4j z len len) wr)) ∧ Hid (KB Bs b W wr))
  (fun i _ => (intOf i + 1).toNat)
 case atStart =>
  refine ⟨?_, KB.refl _ _ _⟩
  cases len with
  | zero => exact .inr ⟨by simp, by simpa [q4j] using h0⟩
  | succ m => exact .inl ⟨m, by omega, by go_num, by simpa [q4j] using h0⟩
 case round =>
  obtain ⟨⟨j, hj, rfl, hJs⟩ | ⟨rfl, hJs⟩, hnx⟩ := hrel
  · have c0 := hc j hj
    have d0 := (hnx.out ⟨b, off + j, none⟩ (.inr rfl)).trans c0
    have dB := (hnx.out ⟨Bs, 0, none⟩ (.inl rfl)).trans hBs
    obtain ⟨fn, tmps, assign, body, hy, hR⟩ := hY _ (j, z j) wr hJs (by rw [qGj]; omega)
    dsimp only at hy
    rw [fitI_of (hz j hj)] at hy
    clear c0
    gi_wp2
    refine hR.mono ?_
    rintro e W3 (⟨rfl, hJ3, hk3⟩ | ⟨rfl, hJx3⟩)
    · gi_wp2
      go_roundw
      case rel =>
       refine ⟨?_, hnx.out.trans hk3⟩
       rw [← qLJ z len j hj] at hJ3
       cases j with
       | zero => exact .inr ⟨by simp, by rwa [show len - 1 - 0 + 1 = len from by omega] at hJ3⟩
       | succ i => exact .inl ⟨i, by omega, by go_num, by rwa [show len - 1 - (i + 1) + 1 = len - 1 - i from by omega] at hJ3⟩
      case measure => simp [intOf]
    · gi_wp2
      refine bodyPost_ret (results_none rfl _ _ _) rfl ?_
      exact ⟨⟨_, rfl⟩, .inr ⟨_, ⟨j, hj, (qLJ z len j hj).symm⟩, hJx3⟩⟩
  · gi_wp2
    go_end0
    exact ⟨⟨_, rfl⟩, .inl ⟨_, rfl, hJs⟩⟩
theorem backwardI_u (a : Option Addr) (len cap : Nat) (w : World) :
 Calls Tryz.prog 48 #[.slice a len cap] w fun e w' => e = .returned (.func (.func 65) #[] #[.pointer (some ⟨w.heap.size, 0, none⟩)]) ∧ w' = w.alloc (.cells #[.slice a len cap] 25) := by
 have hmf : ∀ (fn : Fn) (first cap : Array Value) (w : World), (Instr.makeFunc fn first cap).run Tryz.prog w = .ok (.func fn first cap) w := fun _ _ _ _ => rfl
 go_enter Tryz.func48, Tryz.ntmps48
 go_wp2
 go_ret
 exact ⟨rfl, rfl⟩
theorem qRX (F : Fence) (n : Nat) (h7 : F.fn 65) (hro : F.round = none) (hn : 1 ≤ n) (Bs len cap b off : Nat) (z : Nat → Int) (hz : ∀ j, j < len → -9223372036854775808 ≤ z j ∧ z j ≤ 9223372036854775807) (hlen : len ≤ 1000000) (w : World) (hBs : Bs < w.heap.size) (hb : b < w.heap.size)
 (hc : w.cell? ⟨Bs, 0, none⟩ = some (.slice (some ⟨b, off, none⟩) len cap)) (hI : ∀ j, j < len → w.cell? ⟨b, off + j, none⟩ = some (.int .i64 (z j))) :
 SeqStopsK F n Tryz.prog 65 #[.pointer (some ⟨Bs, 0, none⟩)] encGivenI (KB Bs b) (fun ys => ys = q4j z len len)
  (fun pre => ∃ j, j < len ∧ pre = q4j z len (len - 1 - j + 1)) len w := fun l J Jx W hW _ _ hY h0 => by
 have hc' := (hW.cell (p := ⟨Bs, 0, none⟩) hBs).trans hc
 exact back1I_in F n h7 hro hn l Bs b off len cap z hz hlen J Jx hY W hc' (fun j hj => (hW.cell (p := ⟨b, off + j, none⟩) hb).trans (hI j hj)) h0
theorem backToI_rev (ks : List Int) (z : Nat → Int) (hz : ∀ (j : Nat) (h : j < ks.length), z j = ks[j]) (hi : ∀ x ∈ ks, -9223372036854775808 ≤ x ∧ x ≤ 9223372036854775807) : (q4j z ks.length ks.length).map (fun x => fitI x.2) = ks.reverse := by
 refine List.ext_getElem (by simp [q4j]) (fun i h1 h2 => ?_)
 have h3 : i < ks.length := by simpa using h2
 rw [List.getElem_reverse]
 simp only [q4j, List.map_map, List.getElem_map, List.getElem_range, Function.comp]
 rw [hz _ (by omega), fitI_of (hi _ (List.getElem_mem _))]
def Marks (w : World) (B : Nat) : List Deferred → Prop
 | [] => True
 | d :: ds => (∃ r, d = { target := .collected r, args := #[] } ∧ B ≤ r ∧ w.heap[r]? = some (.deferred (some [])) ∧ ∀ e ∈ ds, e.target ≠ .collected r) ∧ Marks w B ds
theorem Marks.keep {w w' : World} {B : Nat} : ∀ {ds : List Deferred}, Marks w B ds → (∀ r, (∃ d ∈ ds, d.target = .collected r) → w'.heap[r]? = w.heap[r]?) → Marks w' B ds
 | [], _, _ => trivial
 | d :: ds, ⟨⟨r, e, h1, h2, h3⟩, h4⟩, hk => ⟨⟨r, e, h1, (hk r ⟨d, by simp, by rw [e]⟩).trans h2, h3⟩, h4.keep (fun q ⟨x, hx, e'⟩ => hk q ⟨x, by simp [hx], e'⟩)⟩
theorem Marks.low {w : World} {B : Nat} : ∀ {ds : List Deferred}, Marks w B ds → ∀ r, (∃ d ∈ ds, d.target = .collected r) → B ≤ r ∧ w.heap[r]? = some (.deferred (some []))
 | d :: ds, ⟨⟨r, e, h1, h2, h3⟩, h4⟩, q, ⟨x, hx, e'⟩ => by
   rcases List.mem_cons.1 hx with rfl | hx
   · rw [e] at e'
     cases e'
     exact ⟨h1, h2⟩
   · exact h4.low q ⟨x, hx, e'⟩
theorem qDJ {fn : Func} {tmps : Array Value} {R : Ending → World → Prop} {n B : Nat} : ∀ {ds : List Deferred} {w : World}, Marks w B ds →
 (∀ w', Kept (fun b => b < B ∨ CellB w b) w w' → LeavesInM Fence.wide n Tryz.prog fn tmps R [] .returning w') → LeavesInM Fence.wide n Tryz.prog fn tmps R ds .returning w
 | [], w, _, h => h w (Kept.refl _ _)
 | d :: ds, w, ⟨⟨r, e, h1, h2, h3⟩, h4⟩, h => by
   subst e
   refine ⟨by simp, .inl ⟨r, _, rfl, run_takeDeferred h2, ?_⟩⟩
   have hk : ∀ b, b ≠ r → (w.putObj r (.deferred none)).heap[b]? = w.heap[b]? := fun b hb => World.putObj_heap_other hb
   refine qDJ (h4.keep (fun q ⟨x, hx, e'⟩ => hk q (fun e => h3 x hx (by rw [e', e])))) (fun w' k' => h w' ?_)
   have hk2 : Kept (fun b => b < B ∨ CellB w b) w (w.putObj r (.deferred none)) := ⟨rfl, rfl, rfl, by simp [World.putObj], fun b hb => hk b (fun e => by
    subst e
    rcases hb with hb | ⟨c, t, z, hc⟩
    · omega
    · rw [h2] at hc; cases hc)⟩
   refine ⟨k'.os.trans hk2.os, k'.tape.trans hk2.tape, k'.output.trans hk2.output, zw1 hk2.size k'.size, fun b hb => (k'.block b ?_).trans (hk2.block b hb)⟩
   rcases hb with hb | hb
   · exact .inl hb
   · exact .inr (hb.keep (hk2.block b (.inr hb)))
end Go.Proofs.YtkbmadoaomoojaaGreat
namespace Go.Proofs.YtkbmadoaomoojaaGreat
set_option maxHeartbeats 16000000
set_option maxRecDepth 20000
set_option linter.unusedVariables false
namespace Tr
open Lf
def qQJ (key : UInt64) (l : List Itm) : List Itm := l.filter fun x => decide (key.toNat ≤ x.1.toNat)
def Finds (s : Pgs) (key : UInt64) (m : Nat) (R : List Itm) (out : List Itm) (rest : List Itm) : Prop := out.length ≤ m ∧ (out ++ qQJ key rest).take m = R
theorem Finds.start {s : Pgs} {key : UInt64} {m : Nat} {l : List Itm} : Finds s key m (rangeOf l key m) [] l := ⟨Nat.zero_le _, rfl⟩
theorem Finds.end_ {s : Pgs} {key : UInt64} {m : Nat} {R out : List Itm} (h : Finds s key m R out []) : out = R := by
 rw [← h.2]
 unfold qQJ
 rw [List.filter_nil, List.append_nil, List.take_of_length_le h.1]
theorem Finds.full {s : Pgs} {key : UInt64} {m : Nat} {R out rest : List Itm} (h : Finds s key m R out rest) (hm : out.length = m) : out = R := by
 rw [← h.2, ← hm, List.take_left]
theorem Finds.skip {s : Pgs} {key : UInt64} {m : Nat} {R out rest : List Itm} {x : Itm} (h : Finds s key m R out (x :: rest)) (hx : ¬ key.toNat ≤ x.1.toNat) : Finds s key m R out rest := by
 refine ⟨h.1, ?_⟩
 have := h.2
 unfold qQJ at this ⊢
 rw [List.filter_cons_of_neg (by simpa using hx)] at this
 exact this
theorem Finds.take_ {s : Pgs} {key : UInt64} {m : Nat} {R out rest : List Itm} {x : Itm} (h : Finds s key m R out (x :: rest)) (hx : key.toNat ≤ x.1.toNat) (hm : out.length < m) : Finds s key m R (out ++ [x]) rest := by
 refine ⟨by rw [zw2]; simp; omega, ?_⟩
 have := h.2
 unfold qQJ at this ⊢
 rw [List.filter_cons_of_pos (by simpa using hx)] at this
 rw [List.append_assoc]
 exact this
theorem Finds.few {s : Pgs} {key : UInt64} {m : Nat} {R out rest : List Itm} (h : Finds s key m R out rest) : out.length ≤ R.length := by
 rw [← h.2, zw4, zw2]
 have := h.1
 omega
theorem Finds.node {s : Pgs} {met : List Int} {key : UInt64} {m : Nat} {R out : List Itm} {L : Stk} {z : Int × Nat} (h : Finds s key m R out (sits s (L ++ [z]).reverse)) (hz : OneOk s met z) (hk : (nodeAt s z).2 ≠ []) : Finds s key m R out (sits s (L ++ ((kidsAt s z).drop (way (nodeAt s z) key)).reverse).reverse) := by
 refine ⟨h.1, ?_⟩
 rw [← h.2]
 have e : qQJ key (sits s (L ++ ((kidsAt s z).drop (way (nodeAt s z) key)).reverse).reverse) = qQJ key (sits s (L ++ [z]).reverse) := by
  rw [List.reverse_append, List.reverse_append, List.reverse_reverse, sits_append, sits_append]
  unfold qQJ
  rw [List.filter_append, List.filter_append, show sits s [z].reverse = its s z.2 z.1 by unfold sits; simp, from_node hz hk key]
 rw [e]
theorem Finds.leaf {s : Pgs} {met : List Int} {key : UInt64} {m : Nat} {R out : List Itm} {L : Stk} {z : Int × Nat} (h : Finds s key m R out (sits s (L ++ [z]).reverse)) (hz : OneOk s met z) (hk : (nodeAt s z).2 = []) : Finds s key m R out ((nodeAt s z).1 ++ sits s L.reverse) := by
 rw [List.reverse_append, sits_append, show sits s [z].reverse = its s z.2 z.1 by unfold sits; simp, hz.leaf hk] at h
 exact h
theorem rangeOf_len (l : List Itm) (key : UInt64) (m : Nat) : (rangeOf l key m).length ≤ l.length := by
 unfold rangeOf
 rw [zw4]
 have := List.length_filter_le (fun x : Itm => decide (key.toNat ≤ x.1.toNat)) l
 omega
end Tr
end Go.Proofs.YtkbmadoaomoojaaGreat
