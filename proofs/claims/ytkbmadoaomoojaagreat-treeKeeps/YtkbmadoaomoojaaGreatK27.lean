/-
  Facts that the proof rests on, part 28. Conditions: those that each of them names.
-/
import Derived.Deep.RegionHeld
import Derived.Deep.RegionHeldLaw
import Derived.Test.YtkbmadoaomoojaaGreatK24
import Derived.Test.YtkbmadoaomoojaaGreatK25
import Derived.Test.YtkbmadoaomoojaaGreatK26
namespace Go.Proofs.YtkbmadoaomoojaaGreat
set_option maxRecDepth 20000
set_option linter.unusedVariables false
open Go
theorem wpOps_round {P : Program} {l n : Nat} {ops : Array Oper} {Q : Exit → Go.Act → World → Prop} (hd : ∀ (i : Nat) (o : Oper), ops[i]? = some o → ∀ c, o.op ≠ .defer c) (hL : ¬ LetsOut Q) :
 ∀ (idx : List Nat) (a : Go.Act) (w : World), wpOps P ops Q idx a w → wpOpsIn (Fence.wide.inRound l) n P ops Q idx a w
 | [], a, w, h => h
 | i :: rest, a, w, h => by
   have ih := wpOps_round (P := P) (l := l) (n := n) hd hL rest
   unfold wpOps at h
   unfold wpOpsIn
   cases ho : ops[i]? with
   | none =>
     rw [ho] at h
     exact ih a w h
   | some o =>
     rw [ho] at h
     simp only at h ⊢
     by_cases hw : Region.wanted o (yielded ops a.tmps) = true
     · rw [if_pos hw] at h ⊢
       replace h := h.resolve_right (fun k => hL k.2)
       refine ⟨fun f _ => trivial, ?_⟩
       rw [Oper.semAt_eq _ _ _ (hd i o ho)]
       unfold Oper.wp at h
       generalize (execOp a.eval o).run P w = r at h
       cases r with
       | ok x w' =>
         cases x <;> first | exact ih _ _ h | exact h.elim | skip
         · rename_i f args
           refine ⟨(fun h => by cases h), CallsIn.inRound l ((callsIn_wide (n := n - 1)).2 (Calls.mono h ?_))⟩
           intro e w'' he
           cases e with
           | returned v => exact ih _ _ he
           | panicked ch => exact he
           | outgrown => exact he
         all_goals
          refine ⟨(fun h => by cases h), fun c cs hroom => ?_⟩
          obtain ⟨v, w'', hR, hs⟩ := h c cs
          exact ⟨v, w'', ih _ _ hR, stepsIn_wide.2 hs⟩
       | halt x w' =>
         cases x <;> first | exact h | exact h.elim
     · rw [if_neg hw] at h ⊢
       exact ⟨fun f _ => trivial, ih _ _ h⟩
theorem round_held_drew {P : Program} {l n : Nat} {ops : Array Oper} {Q : Exit → Go.Act → World → Prop} {S : World → Prop} {id : Nat} {a : Go.Act} {w : World} (hd : ∀ (i : Nat) (o : Oper), ops[i]? = some o → ∀ c, o.op ≠ .defer c) (hL : ¬ LetsOut Q) (hm : P.follows .mixedOrders = true) (hS : S w.drew)
 (h : S w.drew → wpAnyH P .any ops Q S ops.size (Array.replicate ops.size false) a w.drew) : (Code.region id ops true).wpIn (Fence.wide.inRound l) n P Q a w :=
 wpIn_region_draw fun t => by
  simp only [Region.schedule, hm, Bool.true_or, if_true]
  exact wpOps_round hd hL _ _ _ (wpAny_sound ops.size t _ a _ (wpAny_of_held _ _ _ _ (h hS)))
end Go.Proofs.YtkbmadoaomoojaaGreat
namespace Go.Proofs.YtkbmadoaomoojaaGreat
set_option maxRecDepth 20000
open Go.RowKit
set_option linter.unusedVariables false
theorem rd_take {α : Type} {A : Rep α} {hs : 0 < A.size} {w : World} {P : Nat → Prop} {b off n c k : Nat} {l : List α} (h : (rList A hs).rd w P [.slice (some ⟨b, off, none⟩) n c] l) (hk : k ≤ n) : (rList A hs).rd w P [.slice (some ⟨b, off, none⟩) k c] (l.take k) := by
 obtain ⟨a', n', c', e, h1, h2, h3, h4, h5⟩ := h
 simp only [List.cons.injEq, Value.slice.injEq, and_true] at e
 obtain ⟨rfl, rfl, rfl⟩ := e
 refine ⟨_, _, _, rfl, by rw [List.length_take]; omega, by omega, h3, Nat.le_trans (Nat.mul_le_mul_right _ hk) h4, fun x hx j hj => ?_⟩
 rw [List.length_take] at hj
 obtain ⟨p1, cj, p2, p3⟩ := h5 x hx j (by omega)
 exact ⟨p1, cj, by rw [List.getElem_take]; exact p2, p3⟩
theorem rd_drop {α : Type} {A : Rep α} {hs : 0 < A.size} {w : World} {P : Nat → Prop} {b off n c k : Nat} {l : List α} (h : (rList A hs).rd w P [.slice (some ⟨b, off, none⟩) n c] l) (hk : k ≤ n) : (rList A hs).rd w P [.slice (some ⟨b, off + k * A.size, none⟩) (n - k) (c - k)] (l.drop k) := by
 obtain ⟨a', n', c', e, h1, h2, h3, h4, h5⟩ := h
 simp only [List.cons.injEq, Value.slice.injEq, and_true] at e
 obtain ⟨rfl, rfl, rfl⟩ := e
 refine ⟨_, _, _, rfl, by rw [List.length_drop]; omega, by omega, (fun e => by cases e), Nat.le_trans (Nat.mul_le_mul_right _ (by omega)) h4, fun x hx j hj => ?_⟩
 simp only [Option.some.injEq] at hx
 subst hx
 rw [List.length_drop] at hj
 obtain ⟨p1, cj, p2, p3⟩ := h5 _ rfl (k + j) (by omega)
 refine ⟨p1, cj, by rw [List.getElem_drop]; exact p2, fun i v hv => ?_⟩
 have := p3 i v hv
 rw [Addr.add_lit] at this ⊢
 rw [show off + k * A.size + (j * A.size + i) = off + ((k + j) * A.size + i) by rw [Nat.add_mul]; omega]
 exact this
theorem gcuts_rd {α : Type} {A : Rep α} {hs : 0 < A.size} (h2 : A.size = 2) {w : World} {P : Nat → Prop} {b : Nat} : ∀ {c off n cap : Nat} {l : List α}, (rList A hs).rd w P [.slice (some ⟨b, off, none⟩) n cap] l → ∀ (j : Nat) (args : Array Value), (gcuts b c off n cap)[j]? = some args →
 ∃ off' k cap', args = #[.slice (some ⟨b, off', none⟩) k cap'] ∧ ∃ g, (Tr.groupsN c l)[j]? = some g ∧ (rList A hs).rd w P [.slice (some ⟨b, off', none⟩) k cap'] g
 | 0, off, n, cap, l, h, j, args, hj => by simp [gcuts] at hj
 | c + 1, off, n, cap, l, h, 0, args, hj => by
   have hl : l.length = n := (rList_len h).1
   unfold gcuts at hj
   simp only [List.getElem?_cons_zero, Option.some.injEq] at hj
   subst hj
   refine ⟨off, _, cap, rfl, _, rfl, ?_⟩
   rw [hl]
   exact rd_take h (gk_le n c)
 | c + 1, off, n, cap, l, h, j + 1, args, hj => by
   have hl : l.length = n := (rList_len h).1
   unfold gcuts at hj
   simp only [List.getElem?_cons_succ] at hj
   have hd := rd_drop h (gk_le n c)
   rw [h2] at hd
   obtain ⟨off', k, cap', e, g, hg, hr⟩ := gcuts_rd h2 hd j args hj
   refine ⟨off', k, cap', e, g, ?_, hr⟩
   unfold Tr.groupsN
   rw [List.getElem?_cons_succ, hl]
   exact hg
theorem groupsN_length {α : Type} : ∀ (c : Nat) (l : List α), (Tr.groupsN c l).length = c
 | 0, _ => rfl
 | c + 1, l => by unfold Tr.groupsN; rw [List.length_cons, groupsN_length c]
theorem groupsN_ne {α : Type} : ∀ {c : Nat} {l : List α}, c ≤ l.length → ∀ g ∈ Tr.groupsN c l, g ≠ []
 | 0, l, _, g, hg => by simp [Tr.groupsN] at hg
 | c + 1, l, h, g, hg => by
   unfold Tr.groupsN at hg
   have hk := gk_left (n := l.length) (c := c) h
   have hk1 : 1 ≤ (l.length + c) / (c + 1) := (Nat.one_le_div_iff (by omega)).2 (by omega)
   rcases List.mem_cons.1 hg with rfl | hg
   · intro e
     have := congrArg List.length e
     rw [List.length_take] at this
     simp only [List.length_nil] at this
     omega
   · exact groupsN_ne (by rw [List.length_drop]; exact hk) g hg
theorem groupsN_sub {α : Type} : ∀ {c : Nat} {l : List α}, ∀ g ∈ Tr.groupsN c l, g.Sublist l
 | 0, l, g, hg => by simp [Tr.groupsN] at hg
 | c + 1, l, g, hg => by
   unfold Tr.groupsN at hg
   rcases List.mem_cons.1 hg with rfl | hg
   · exact List.take_sublist _ _
   · exact (groupsN_sub g hg).trans (List.drop_sublist _ _)
theorem groups_le {α : Type} (most : Nat) (l g : List α) (h : g ∈ Tr.groups most l) : g.length ≤ l.length := (groupsN_sub g h).length_le
theorem groups_mem {α : Type} (most : Nat) (l g : List α) (h : g ∈ Tr.groups most l) : ∀ b ∈ g, b ∈ l := fun b hb => (groupsN_sub g h).subset hb
theorem groupsI_all (bl bm : Nat) {w : World} {P : Nat → Prop} {a : Option Addr} {n c most : Nat} (hm : 1 ≤ most) (hm2 : most ≤ 1000) (hn : n ≤ 1000) {l : List Itm} (h : rItms.rd w P [.slice a n c] l) :
 ∃ encs : List (Array Value), Hands Tryz.prog 101 #[.pointer (some ⟨bl, 0, none⟩), .pointer (some ⟨bm, 0, none⟩)] encs (fun W => W.cell? ⟨bl, 0, none⟩ = some (.slice a n c) ∧ W.cell? ⟨bm, 0, none⟩ = some (.int .i64 (most : Int))) ∧ encs.length = (Tr.groups most l).length ∧
   ∀ (j : Nat) (args : Array Value), encs[j]? = some args → ∃ b off' k cap', args = #[Value.slice (some ⟨b, off', none⟩) k cap'] ∧ ∃ g, (Tr.groups most l)[j]? = some g ∧ g ≠ [] ∧ rItms.rd w P [.slice (some ⟨b, off', none⟩) k cap'] g := by
 obtain ⟨hl, hnc, hnil, -⟩ := rList_len h
 by_cases h0 : n = 0
 · subst h0
   refine ⟨[], groupsI_hands0 bl bm c most a hm hm2, ?_, (fun j args hj => by cases j <;> cases hj)⟩
   unfold Tr.groups
   rw [groupsN_length, hl, Nat.zero_add, Nat.div_eq_of_lt (by omega)]
   rfl
 · obtain ⟨b, off, rfl, -⟩ := rList_at h (by omega)
   refine ⟨_, groupsI_hands bl bm b off n c most hm hm2 (by omega) hnc, ?_, fun j args hj => ?_⟩
   · unfold Tr.groups
     rw [groupsN_length, gcuts_length, hl]
     rfl
   · obtain ⟨off', k, cap', e, g, hg, hr⟩ := gcuts_rd rfl h j args hj
     refine ⟨b, off', k, cap', e, g, ?_, ?_, hr⟩
     · unfold Tr.groups
       rw [hl]
       exact hg
     · exact groupsN_ne (by rw [hl]; exact gmany_le hm) g (List.mem_of_getElem? hg)
theorem groupsB_all (bl bm : Nat) {w : World} {P : Nat → Prop} {a : Option Addr} {n c most : Nat} (hm : 1 ≤ most) (hm2 : most ≤ 1000) (hn : n ≤ 1000) {l : List Brn} (h : rBrns.rd w P [.slice a n c] l) :
 ∃ encs : List (Array Value), Hands Tryz.prog 105 #[.pointer (some ⟨bl, 0, none⟩), .pointer (some ⟨bm, 0, none⟩)] encs (fun W => W.cell? ⟨bl, 0, none⟩ = some (.slice a n c) ∧ W.cell? ⟨bm, 0, none⟩ = some (.int .i64 (most : Int))) ∧ encs.length = (Tr.groups most l).length ∧
   ∀ (j : Nat) (args : Array Value), encs[j]? = some args → ∃ b off' k cap', args = #[Value.slice (some ⟨b, off', none⟩) k cap'] ∧ ∃ g, (Tr.groups most l)[j]? = some g ∧ g ≠ [] ∧ rBrns.rd w P [.slice (some ⟨b, off', none⟩) k cap'] g := by
 obtain ⟨hl, hnc, hnil, -⟩ := rList_len h
 by_cases h0 : n = 0
 · subst h0
   refine ⟨[], groupsB_hands0 bl bm c most a hm hm2, ?_, (fun j args hj => by cases j <;> cases hj)⟩
   unfold Tr.groups
   rw [groupsN_length, hl, Nat.zero_add, Nat.div_eq_of_lt (by omega)]
   rfl
 · obtain ⟨b, off, rfl, -⟩ := rList_at h (by omega)
   refine ⟨_, groupsB_hands bl bm b off n c most hm hm2 (by omega) hnc, ?_, fun j args hj => ?_⟩
   · unfold Tr.groups
     rw [groupsN_length, gcuts_length, hl]
     rfl
   · obtain ⟨off', k, cap', e, g, hg, hr⟩ := gcuts_rd rfl h j args hj
     refine ⟨b, off', k, cap', e, g, ?_, ?_, hr⟩
     · unfold Tr.groups
       rw [hl]
       exact hg
     · exact groupsN_ne (by rw [hl]; exact gmany_le hm) g (List.mem_of_getElem? hg)
structure LayI (g base ob : Nat) (v kv tv : Value) (wd W : World) (vj : Value) (sj : Pgs) (ov : Value) (bs : List Brn) : Prop where
 wr : Wr W g base vj sj kv tv
 place : ∀ b, vj.ownBlock = some b → v.ownBlock = some b ∨ wd.heap.size ≤ b
 turn : Turn (ob :: WS g v) wd W
 row : Row W ob 109 [ov]
 out : OwnB 133 W wd.heap.size ov bs
 apart : ∀ b, ov.ownBlock = some b → vj.ownBlock ≠ some b
theorem LayI.below {g base ob : Nat} {v kv tv : Value} {wd W W' : World} {vj : Value} {sj : Pgs} {ov : Value} {bs : List Brn} (h : LayI g base ob v kv tv wd W vj sj ov bs) (b : Below W.heap.size W W') : LayI g base ob v kv tv wd W' vj sj ov bs :=
 ⟨h.wr.below b, h.place, h.turn.on b, h.row.below b, h.out.below b, h.apart⟩
theorem OwnB.cells {e : TypeId} {w : World} {base : Nat} {v : Value} {l : List Brn} (h : OwnB e w base v l) : ∀ b, v.ownBlock = some b → CellB w b := fun b hb => by
 rcases h.row.2 with ⟨rfl, h0⟩ | ⟨g, cap, cur, rfl, g1, g2, -⟩
 · cases hb
 · cases hb; exact ⟨_, _, _, g2⟩
theorem CellB.ne {w : World} {b r : Nat} {o : Obj} (h : CellB w b) (hr : w.heap[r]? = some o) (ho : o.isCells = false) : b ≠ r := fun e => by
 obtain ⟨c, t, z, hb⟩ := h
 rw [e, hr] at hb
 cases hb
 cases ho
theorem LayI.put {g base ob : Nat} {v kv tv : Value} {wd W : World} {vj : Value} {sj : Pgs} {ov : Value} {bs : List Brn} (h : LayI g base ob v kv tv wd W vj sj ov bs) {r : Nat} {o : Obj} (o' : Obj) (hd : wd.heap.size ≤ r) (hr : W.heap[r]? = some o) (ho : o.isCells = false) : LayI g base ob v kv tv wd (W.putObj r o') vj sj ov bs := by
 refine ⟨h.wr.put o' hr ho, h.place, ⟨h.turn.os, h.turn.tape, h.turn.output, by have := h.turn.size; simpa [World.putObj] using this, fun b hb => ?_⟩, h.row.keep (World.putObj_heap_other ?_), h.out.keep1 (fun b hb => World.putObj_heap_other ((h.out.cells b hb).ne hr ho)), h.apart⟩
 · exact (World.putObj_heap_other (by have := hb.1; omega)).trans (h.turn.block b hb)
 · exact CellB.ne ⟨_, _, _, h.row.eq⟩ hr ho
theorem LayI.step {g base ob : Nat} {v kv tv : Value} {wd W W' : World} {vj v' : Value} {sj s' : Pgs} {ov : Value} {bs : List Brn} (h : LayI g base ob v kv tv wd W vj sj ov bs) (hob : ob ∉ WS g v) (hod : ob < wd.heap.size) (hgd : g < wd.heap.size) (hW : Wr W' g base v' s' kv tv) (t : WTurn g vj W v' W') : LayI g base ob v kv tv wd W' v' s' ov bs := by
 have hsz : wd.heap.size ≤ W.heap.size := h.turn.size
 have hnew : ∀ b, b < wd.heap.size → b ∉ WS g v → b ∉ WS g vj := fun b hb hn e => by
  rcases mem_WS.1 e with e | e
  · exact hn (mem_WS.2 (.inl e))
  · rcases h.place b e with k | k
    · exact hn (mem_WS.2 (.inr k))
    · omega
 have hov : ∀ b, ov.ownBlock = some b → b ∉ WS g vj := fun b hb e => by
  rcases mem_WS.1 e with e | e
  · have := (h.out.row.lt b hb).1; omega
  · exact h.apart b hb e
 refine ⟨hW, fun b e => (t.place b e).elim (h.place b) (fun k => .inr (Nat.le_trans hsz k)), ?_, t.turn.row h.row (hnew ob hod hob), h.out.keep1 (fun b hb => t.turn.block b ⟨(h.out.row.lt b hb).2, hov b hb⟩), fun b hb e => ?_⟩
 · exact ⟨t.turn.os.trans h.turn.os, t.turn.tape.trans h.turn.tape, t.turn.output.trans h.turn.output, Nat.le_trans hsz t.turn.size, fun b hb => (t.turn.block b ⟨Nat.lt_of_lt_of_le hb.1 hsz, hnew b hb.1 (fun e => hb.2 (List.mem_cons_of_mem _ e))⟩).trans (h.turn.block b hb)⟩
 · rcases t.place b e with k | k
   · exact h.apart b hb k
   · have := (h.out.row.lt b hb).2; omega
theorem LayI.more {g base ob : Nat} {v kv tv : Value} {wd W W1 W2 : World} {vj : Value} {sj : Pgs} {ov ov' : Value} {bs bs' : List Brn} (h : LayI g base ob v kv tv wd W vj sj ov bs) (hob : ob ∉ WS g v) (hod : ob < wd.heap.size) (hgd : g < wd.heap.size) (b1 : Below W.heap.size W W1)
 (ho : OwnB 133 W2 wd.heap.size ov' bs') (gr : Grew W1 W2 ov ov') : LayI g base ob v kv tv wd (W2.setCell ⟨ob, 0, none⟩ ov') vj sj ov' bs' := by
 have hsz : wd.heap.size ≤ W.heap.size := h.turn.size
 have h1 := h.below b1
 have hk : ∀ b, b < W1.heap.size → ov.ownBlock ≠ some b → b ≠ ob → (W2.setCell ⟨ob, 0, none⟩ ov').heap[b]? = W1.heap[b]? := fun b hb hn hne => (Below.heap_setCell _ _ _ _ (by exact hne)).trans (gr.grown.block b hb (fun e => hn e.symm))
 have hobW : ov.ownBlock ≠ some ob := fun e => by have := (h.out.row.lt ob e).1; omega
 have hgo : g ≠ ob := fun e => hob (mem_WS.2 (.inl e.symm))
 have hgv : ov.ownBlock ≠ some g := fun e => by have := (h.out.row.lt g e).1; omega
 have hvo : ∀ b, vj.ownBlock = some b → b ≠ ob := fun b hb e => by
  rcases h.place b hb with k | k
  · exact hob (mem_WS.2 (.inr (e ▸ k)))
  · omega
 refine ⟨⟨h1.wr.row.keep (hk g h1.wr.row.lt hgv hgo), ?_, h1.wr.few, ?_⟩, h.place, ?_, ?_, ho.keep1 (fun b hb => Below.heap_setCell _ _ _ _ ?_), fun b hb e => ?_⟩
 · refine h1.wr.pgs.keep (fun b hb hc => hk b (h1.wr.pgs.lt2 hc) (fun e => ?_) (fun e => ?_))
   · rcases hc with hc | hc
     · obtain ⟨c1, z1, e1⟩ := hc
       rcases h1.out.row.2 with ⟨e0, -⟩ | ⟨g2, cap, cur, e0, -, e2, -⟩
       · rw [e0] at e; cases e
       · rw [e0] at e
         cases e
         rw [e2] at e1
         cases e1
     · exact h.apart b e hc
   · rcases hc with hc | hc
     · obtain ⟨c1, z1, e1⟩ := hc
       have := h1.row.eq
       rw [← e, e1] at this
       cases this
     · exact hvo b hc e
 · have := h1.wr.size; have := gr.grown.size; simp [World.setCell]; omega
 · refine Turn.set (p := ⟨ob, 0, none⟩) ?_ (.inr (by simp)) _
   exact ⟨gr.grown.os.trans h1.turn.os, gr.grown.tape.trans h1.turn.tape, gr.grown.output.trans h1.turn.output, Nat.le_trans h1.turn.size gr.grown.size, fun b hb => (gr.grown.block b (Nat.lt_of_lt_of_le hb.1 h1.turn.size) (fun e => by have := (h.out.row.lt b e.symm).1; have := hb.1; omega)).trans (h1.turn.block b hb)⟩
 · exact (h1.row.grew gr hobW).set 0 _
 · intro e
   have := (ho.row.lt b hb).1
   simp only at e
   omega
 · rcases gr.place b hb with k | k
   · exact h.apart b k e
   · have := (h1.wr.pgs.lt b e).2; omega
def Nc (w w' : World) : Prop := ∀ (r : Nat) (o : Obj), w.heap[r]? = some o → o.isCells = false → w'.heap[r]? = some o
theorem Nc.trans {a b c : World} (h : Nc a b) (k : Nc b c) : Nc a c := fun r o hr ho => k r o (h r o hr ho) ho
theorem Nc.below {w w' : World} (h : Below w.heap.size w w') : Nc w w' := fun r o hr _ => (h.block r (Array.getElem?_eq_some_iff.1 hr).1).trans hr
theorem Nc.turn {S : List Nat} {w w' : World} (t : Turn S w w') (hS : ∀ b ∈ S, CellB w b) : Nc w w' := fun r o hr ho =>
 (t.block r ⟨(Array.getElem?_eq_some_iff.1 hr).1, fun e => (hS r e).ne hr ho rfl⟩).trans hr
theorem Wr.cellsS {w : World} {g base : Nat} {v : Value} {s : Pgs} {kv tv : Value} (h : Wr w g base v s kv tv) : ∀ b ∈ WS g v, CellB w b := fun b hb => by
 rcases mem_WS.1 hb with rfl | e
 · exact ⟨_, _, _, h.row.eq⟩
 · exact h.pgs.cells b e
theorem Nc.grew {e : TypeId} {w w' : World} {base : Nat} {v v' : Value} {l : List Brn} (h : OwnB e w base v l) (gr : Grew w w' v v') : Nc w w' := fun r o hr ho =>
 (gr.grown.block r (Array.getElem?_eq_some_iff.1 hr).1 (fun e => (h.cells r e.symm).ne hr ho rfl)).trans hr
theorem Nc.set {w : World} {p : Addr} (h : CellB w p.block) (u : Value) : Nc w (w.setCell p u) := fun r o hr ho =>
 (Below.heap_setCell _ _ _ _ (fun e => h.ne hr ho e.symm)).trans hr
theorem LayI.turnW {g base ob : Nat} {v kv tv : Value} {wd W W' : World} {vj : Value} {sj : Pgs} {ov : Value} {bs : List Brn} (h : LayI g base ob v kv tv wd W vj sj ov bs) (t : Turn (WS g vj) W W') : Turn (ob :: WS g v) wd W' := by
 have hsz : wd.heap.size ≤ W.heap.size := h.turn.size
 refine ⟨t.os.trans h.turn.os, t.tape.trans h.turn.tape, t.output.trans h.turn.output, Nat.le_trans hsz t.size, fun b hb => (t.block b ⟨Nat.lt_of_lt_of_le hb.1 hsz, fun e => ?_⟩).trans (h.turn.block b hb)⟩
 rcases mem_WS.1 e with e | e
 · exact hb.2 (List.mem_cons_of_mem _ (mem_WS.2 (.inl e)))
 · rcases h.place b e with k | k
   · exact hb.2 (List.mem_cons_of_mem _ (mem_WS.2 (.inr k)))
   · have := hb.1; omega
def LayJ {α : Type} (mk : List α → Nod) (fr : List α → UInt64) (gl : List (List α)) (g base ob : Nat) (v kv tv : Value) (wd : World) (s : Pgs) (b0 : List Brn) (j : Nat) (W : World) : Prop :=
 ∃ vj sj ov bs, Tr.layG mk fr (gl.drop j) (sj, bs) = Tr.layG mk fr gl (s, b0) ∧ bs.length = b0.length + j ∧ LayI g base ob v kv tv wd W vj sj ov bs
def LayX {α : Type} (mk : List α → Nod) (fr : List α → UInt64) (gl : List (List α)) (g ob : Nat) (v : Value) (wd : World) (s : Pgs) (b0 : List Brn) (ch : List PanicEntry) (W : World) : Prop :=
 ∃ x, Ending.panicked ch = broke x ∧ Tr.layG mk fr gl (s, b0) = .error x ∧ Turn (ob :: WS g v) wd W
theorem LayJ.round {α : Type} {mk : List α → Nod} {fr : List α → UInt64} {gl : List (List α)} {g base ob : Nat} {v kv tv : Value} {wd : World} {s : Pgs} {b0 : List Brn} {j : Nat} {W : World} (h : LayJ mk fr gl g base ob v kv tv wd s b0 j W) {gj : List α} (hg : gl[j]? = some gj) :
 ∃ vj sj oa oc bs, bs.length = b0.length + j ∧ LayI g base ob v kv tv wd W vj sj (.slice oa bs.length oc) bs ∧ (∀ x, Tr.add sj (mk gj) = .error x → ∀ ch W', Ending.panicked ch = broke x → Turn (WS g vj) W W' → LayX mk fr gl g ob v wd s b0 ch W') ∧
   (∀ s5 q5, Tr.add sj (mk gj) = .ok (s5, q5) → ∀ W' v5 ov5, LayI g base ob v kv tv wd W' v5 s5 ov5 (bs ++ [(fr gj, q5)]) → LayJ mk fr gl g base ob v kv tv wd s b0 (j + 1) W') := by
 obtain ⟨vj, sj, ov, bs, hst, hlen, hLI⟩ := h
 obtain ⟨hlt, hgj⟩ := List.getElem?_eq_some_iff.1 hg
 have hd : gl.drop j = gj :: gl.drop (j + 1) := by rw [List.drop_eq_getElem_cons hlt, hgj]
 rw [hd] at hst
 obtain ⟨oa, oc, rfl, -⟩ := hLI.out.slice
 refine ⟨vj, sj, oa, oc, bs, hlen, hLI, fun x hx ch W' hch t => ⟨x, hch, ?_, hLI.turnW t⟩, fun s5 q5 hq W' v5 ov5 hL => ⟨v5, s5, ov5, _, ?_, by rw [List.length_append, hlen]; rfl, hL⟩⟩
 · rw [← hst]
   unfold Tr.layG
   simp only [hx]
 · rw [← hst]
   conv => rhs; unfold Tr.layG
   simp only [hq]
theorem LayI.fin {g base ob : Nat} {v kv tv : Value} {wd W w5 : World} {vj v5 : Value} {sj s5 : Pgs} {ov : Value} {bs : List Brn} (h : LayI g base ob v kv tv wd W vj sj ov bs) (hob : ob ∉ WS g v) (hod : ob < wd.heap.size) (hgd : g < wd.heap.size) (hl : bs.length ≤ 10000) (hW : Wr w5 g base v5 s5 kv tv) (t : WTurn g vj W v5 w5) (x : Brn) :
 ∃ a6 n6 c6 w6, (Builtin.append_ #[109, 109] 109 #[ov, .slice (some ⟨w5.heap.size, 0, none⟩) 1 1]).run Tryz.prog (w5.alloc (.cells #[.int .u64 (x.1.toNat : Int), .int .i64 x.2] 133)) = .ok (.slice a6 n6 c6) w6 ∧
   LayI g base ob v kv tv wd (w6.setCell ⟨ob, 0, none⟩ (.slice a6 n6 c6)) v5 s5 (.slice a6 n6 c6) (bs ++ [x]) ∧ Nc W (w6.setCell ⟨ob, 0, none⟩ (.slice a6 n6 c6)) ∧ w6.frozen? ⟨ob, 0, none⟩ = false ∧ w6.cell? ⟨ob, 0, none⟩ = some ov ∧ Turn (ob :: WS g v) wd w6 := by
 have h5 := h.step hob hod hgd hW t
 obtain ⟨v6, w6, hr, ho, gr⟩ := run_append_brn h5.out x (by omega) h5.turn.size 109
 have b1 : Below w5.heap.size w5 (w5.alloc (.cells #[.int .u64 (x.1.toNat : Int), .int .i64 x.2] 133)) := (Below.refl _ _).alloc (Nat.le_refl _) _
 obtain ⟨a6, c6, rfl, -⟩ := ho.slice
 have R6 : Row w6 ob 109 [ov] := (h5.row.below b1).grew gr (fun e => by have := (h5.out.row.lt ob e).1; omega)
 refine ⟨a6, _, c6, w6, hr, h5.more hob hod hgd b1 ho gr, ?_, R6.frozen 0, R6.cell (j := 0) rfl, ?_⟩
 · exact (((Nc.turn t.turn h.wr.cellsS).trans (Nc.below b1)).trans (Nc.grew (h5.out.below b1) gr)).trans (Nc.set (p := ⟨ob, 0, none⟩) ⟨_, _, _, R6.eq⟩ _)
 · have t1 := h5.turn.on b1
   exact ⟨gr.grown.os.trans t1.os, gr.grown.tape.trans t1.tape, gr.grown.output.trans t1.output, Nat.le_trans t1.size gr.grown.size, fun b hb => (gr.grown.block b (Nat.lt_of_lt_of_le hb.1 t1.size) (fun e => by have := (h.out.row.lt b e.symm).1; have := hb.1; omega)).trans (t1.block b hb)⟩
theorem Turn.cell {S : List Nat} {w w' : World} (t : Turn S w w') {p : Addr} {u : Value} (h : w.cell? p = some u) (hb : p.block < w.heap.size) (hn : p.block ∉ S) : w'.cell? p = some u := by
 unfold World.cell? at h ⊢
 rw [t.block _ ⟨hb, hn⟩]
 exact h
theorem rKids_nil (w : World) (P : Nat → Prop) : rKids.rd w P [.slice none 0 0] [] :=
 ⟨none, 0, 0, rfl, rfl, Nat.le_refl _, (fun _ => rfl), by simp, (fun x h => by cases h)⟩
theorem lay_turn {g ob : Nat} {v : Value} {w wc W : World} (h : Turn (ob :: WS g v) wc W) (hB : Below w.heap.size w wc) (hob : w.heap.size ≤ ob) : Turn (WS g v) w W :=
 ⟨h.os.trans hB.os, h.tape.trans hB.tape, h.output.trans hB.output, Nat.le_trans hB.size h.size, fun b hb => (h.block b ⟨Nat.lt_of_lt_of_le hb.1 hB.size, fun e => by
  rcases List.mem_cons.1 e with e | e
  · have := hb.1; omega
  · exact hb.2 e⟩).trans (hB.block b hb.1)⟩
theorem Turn.putN {S : List Nat} {w W : World} (h : Turn S w W) {r : Nat} (hr : w.heap.size ≤ r) (o : Obj) : Turn S w (W.putObj r o) :=
 ⟨h.os, h.tape, h.output, by have := h.size; simpa [World.putObj] using this, fun b hb => (World.putObj_heap_other (by have := hb.1; omega)).trans (h.block b hb)⟩
theorem LayI.done {g base ob : Nat} {v kv tv : Value} {w wc W : World} {v2 : Value} {s2 : Pgs} {ov : Value} {bs : List Brn} (h : LayI g base ob v kv tv wc W v2 s2 ov bs) (hB : Below w.heap.size w wc) (hob : w.heap.size ≤ ob) (hg : g < wc.heap.size) :
 OwnB 133 W w.heap.size ov bs ∧ Wr W g base v2 s2 kv tv ∧ WTurn g v w v2 W ∧ ∀ b, ov.ownBlock = some b → b ∉ WS g v2 := by
 refine ⟨h.out.mono hB.size, h.wr, ⟨lay_turn h.turn hB hob, fun b e => (h.place b e).imp id (fun k => Nat.le_trans hB.size k)⟩, fun b hb e => ?_⟩
 rcases mem_WS.1 e with e | e
 · have := (h.out.row.lt b hb).1; omega
 · exact h.apart b hb e
def plainOp : Op → Bool
 | .defer _ => false
 | _ => true
theorem plain_ops {ops : Array Oper} (h : ops.all (fun o => plainOp o.op) = true) : ∀ (i : Nat) (o : Oper), ops[i]? = some o → ∀ c, o.op ≠ .defer c := fun i o ho c e => by
 obtain ⟨hi, ho⟩ := Array.getElem?_eq_some_iff.1 ho
 have := (Array.all_eq_true.1 h) i hi
 rw [ho, e] at this
 cases this
namespace Tr
def contL (l : List Itm) (ks : List Int) (fr : UInt64) (j : Nat) : List Brn := (fr, ks.getD 0 0) :: ((l.zip ks.tail).map fun z => (z.1.1, z.2)).take j
theorem contL_zero (l : List Itm) (ks : List Int) (fr : UInt64) : contL l ks fr 0 = [(fr, ks.getD 0 0)] := rfl
theorem contL_next {l : List Itm} {ks : List Int} (fr : UInt64) {j : Nat} (h : j < l.length) (h' : ks.length = l.length + 1) : contL l ks fr (j + 1) = contL l ks fr j ++ [(l[j].1, ks[j + 1]'(by omega))] := by
 unfold contL
 rw [List.take_succ_eq_append_getElem (by simp; omega)]
 simp
theorem contL_all {l : List Itm} {ks : List Int} (fr : UInt64) (h' : ks.length = l.length + 1) : contL l ks fr l.length = (contOf (l, ks) fr).2 := by
 unfold contL contOf
 rw [if_neg (by intro e; simp only at e; rw [e] at h'; simp at h'), List.take_of_length_le (by simp; omega)]
theorem contL_length {l : List Itm} {ks : List Int} (fr : UInt64) {j : Nat} : (contL l ks fr j).length ≤ j + 1 := by
 unfold contL
 simp
 omega
end Tr
set_option maxHeartbeats 2000000 in
theorem contentOf_leaf (w : World) (a a' : Option Addr) (n c c' : Nat) (fr : UInt64) :
 Calls Tryz.prog 80 #[.agg #[.slice a n c, .slice a' 0 c'], .int .u64 (fr.toNat : Int)] w fun e w' => e = .returned (.agg #[.slice a n c, .slice none 0 0]) ∧ Below w.heap.size w w' := by
 obtain ⟨w0, hw0, V0, b0, z0⟩ := boxedRow w 63 [.slice a n c, .slice a' 0 c']
 obtain ⟨w1, hw1, V1, b1, z1⟩ := boxedRow w0 111 [.slice none 0 0, .slice none 0 0]
 obtain ⟨r0, r1⟩ := (V0.below b1).two
 have B1 : Hid (Below w.heap.size w w1) := on b0 b1
 have HV0 : Hid _ := V0.below b1
 have HV1 : Hid _ := V1
 have HZ : Hid (w.heap.size < w0.heap.size) := by unfold Hid; omega
 clear V0 V1 b0 b1 z0 z1
 go_enter Tryz.func80, Tryz.ntmps80
 go_wp2_with fail
 go_at_call 47
 refine (isLeafT_u _ _ _ _ _).mono ?_
 rintro e w2 ⟨rfl, b2⟩
 have V2 : Hid _ := HV1.out.below b2
 have B2 : Hid _ := on B1.out b2
 obtain ⟨t0, t1⟩ := (HV0.out.below b2).two
 obtain ⟨q0, q1⟩ := V2.out.two
 have f0 := V2.out.frozen 0
 have f1 := V2.out.frozen 1
 clear b2 r0 r1
 go_wp2
 exact st_ret1 V2.out B2.out (Nat.le_of_lt HZ.out) _ _ rfl rfl Tryz.underlying111 rfl (by kernel_rfl) (fun w' k' b' => ⟨rfl, b'⟩)
set_option maxHeartbeats 4000000 in
theorem contentOf_kids (w : World) (P : Nat → Prop) (a a' : Option Addr) (n c kn kc : Nat) (l : List Itm) (ks : List Int) (fr : UInt64) (hL : rItms.rd w P [.slice a n c] l) (hK : rKids.rd w P [.slice a' kn kc] ks) (hn : n ≤ 1000) (hk : kn = n + 1) :
 Calls Tryz.prog 80 #[.agg #[.slice a n c, .slice a' kn kc], .int .u64 (fr.toNat : Int)] w fun e w' => ∃ ba bn bc, e = .returned (.agg #[.slice none 0 0, .slice ba bn bc]) ∧ OwnB 133 w' w.heap.size (.slice ba bn bc) (Tr.contOf (l, ks) fr).2 ∧ Below w.heap.size w w' := by
 have HLl : Hid (l.length = n) := (rList_len hL).1
 have HKl : Hid (ks.length = n + 1) := by rw [← hk]; exact (rList_len hK).1
 obtain ⟨w0, hw0, V0, b0, z0⟩ := boxedRow w 63 [.slice a n c, .slice a' kn kc]
 obtain ⟨w1, hw1, V1, b1, z1⟩ := boxedRow w0 111 [.slice none 0 0, .slice none 0 0]
 obtain ⟨r0, r1⟩ := (V0.below b1).two
 have B1 : Hid (Below w.heap.size w w1) := on b0 b1
 have HV0 : Hid _ := V0.below b1
 have HV1 : Hid _ := V1
 have HZ : Hid (w.heap.size < w0.heap.size ∧ w0.heap.size < w1.heap.size) := ⟨by omega, by omega⟩
 have HL : Hid _ := hL
 have HK : Hid _ := hK
 have hkz : decide ((kn : Int) = 0) = false := decide_eq_false (by omega)
 have hk0 : (0 : Int) < (kn : Int) := by omega
 have hk1 : kn ≤ 1001 := by omega
 have HKn : Hid (kn = n + 1) := hk
 obtain ⟨kb, ko, rfl, -⟩ := rKids_at hK (by omega)
 clear V0 V1 b0 b1 z0 z1 hL hK hk
 go_enter Tryz.func80, Tryz.ntmps80
 go_wp2_with fail
 go_at_call 47
 refine (isLeafT_u _ _ _ _ _).mono ?_
 rintro e w2 ⟨rfl, b2⟩
 rw [hkz]
 clear hkz
 have V2 : Hid _ := HV1.out.below b2
 have N2 : Hid _ := HV0.out.below b2
 have B2 : Hid _ := on B1.out b2
 have HZ2 : Hid (w1.heap.size ≤ w2.heap.size) := b2.size
 obtain ⟨t0, t1⟩ := N2.out.two
 obtain ⟨Z, hZ⟩ : ∃ Z, Z = ks.getD 0 0 := ⟨_, rfl⟩
 have k0 : w2.cell? ⟨kb, ko, none⟩ = some (.int .i64 Z) := by
  obtain ⟨b, off, e, -, -, hat⟩ := rKids_at (Rep.below HK.out B2.out) (by omega)
  simp only [Option.some.injEq, Addr.mk.injEq, and_true] at e
  obtain ⟨rfl, rfl⟩ := e
  have h := (hat 0 (by rw [HKl.out]; omega)).1
  rw [Nat.add_zero] at h
  rw [h, hZ]
  simp [List.getD, List.getElem?_eq_getElem (show 0 < ks.length by rw [HKl.out]; omega)]
 obtain ⟨w3, hw3⟩ : ∃ w3, w2.alloc (.cells #[.int .u64 (fr.toNat : Int), .int .i64 Z] 133) = w3 := ⟨_, rfl⟩
 have O3 : Hid (OwnB 133 w3 w2.heap.size (.slice (some ⟨w2.heap.size, 0, none⟩) 1 1) (Tr.contL l ks fr 0)) := by
  rw [← hw3, Tr.contL_zero, ← hZ]
  exact OwnB.lit _ _ _ (Nat.le_refl _) (fr, Z)
 have B3 : Hid (Below w2.heap.size w2 w3) := by rw [← hw3]; exact (Below.refl _ _).alloc (Nat.le_refl _) _
 obtain ⟨m0, m1⟩ := (N2.out.below B3.out).two
 clear b2 r0 r1 hZ
 go_wp2
 go_loopw [5, 23] (fun bv i wr => ∃ (j : Nat) (ba : Option Addr) (bn bc : Nat), j ≤ n ∧ i = .int .i64 j ∧ bv = .slice ba bn bc ∧ Hid (OwnB 133 wr w2.heap.size (.slice ba bn bc) (Tr.contL l ks fr j)) ∧ Hid (Below w2.heap.size w2 wr)) (fun _ i _ => n - (intOf i).toNat)
 case atStart => exact ⟨0, _, _, _, Nat.zero_le _, rfl, rfl, O3, B3⟩
 case round =>
  obtain ⟨j, ba, bn, bc, hj, rfl, rfl, HO, HB⟩ := hrel
  by_cases hlt : j < n
  · obtain ⟨gb, go, rfl, -, -, hat⟩ := rItms_at (Rep.below HL.out (on B2.out HB.out)) (by omega)
    have hjl : j < l.length := by rw [HLl.out]; exact hlt
    obtain ⟨i0, i1⟩ := hat j hjl
    obtain ⟨X, hX⟩ : ∃ X, X = l[j] := ⟨_, rfl⟩
    rw [← hX] at i0 i1
    have HX : Hid (X = l[j]'(by rw [HLl.out]; exact hlt)) := hX
    obtain ⟨Y, hY⟩ : ∃ Y, Y = ks[j + 1]'(by rw [HKl.out]; omega) := ⟨_, rfl⟩
    have HY : Hid (Y = ks[j + 1]'(by rw [HKl.out]; omega)) := hY
    obtain ⟨wx, hwx, Vx, bx, zx⟩ := boxedRow wr 45 [.int .u64 (X.1.toNat : Int), .int .u64 (X.2.toNat : Int)]
    have hjz : (j : Int) < (n : Int) := by omega
    obtain ⟨j1, hj1⟩ : ∃ j1, j1 = j + 1 := ⟨_, rfl⟩
    have hwr : IntKind.i64.wrap ((j : Int) + 1) = (j1 : Int) := by rw [hj1, IntKind.wrap_i64]; omega
    have hjk : (j1 : Int) < (kn : Int) := by have := HKn.out; omega
    have HJ1 : Hid (j1 = j + 1) := hj1
    clear hj1
    obtain ⟨p0, p1⟩ := Vx.two
    obtain ⟨s0, s1⟩ := (N2.out.below HB.out).two
    have HS : Hid (∀ W', Below wx.heap.size wx W' → W'.cell? ⟨wr.heap.size, 0, none⟩ = some (.int .u64 (X.1.toNat : Int)) ∧ W'.cell? ⟨w.heap.size, 1, none⟩ = some (.slice (some ⟨kb, ko, none⟩) kn kc) ∧ W'.cell? ⟨kb, ko + j1, none⟩ = some (.int .i64 Y)) := by
     intro W' b'
     refine ⟨(Vx.below b').cell (j := 0) rfl, ((N2.out.below HB.out).below (on bx b')).cell (j := 1) rfl, ?_⟩
     obtain ⟨b, off, e, -, -, hat⟩ := rKids_at (Rep.below HK.out (on B2.out (on HB.out (on bx b')))) (by omega)
     simp only [Option.some.injEq, Addr.mk.injEq, and_true] at e
     obtain ⟨rfl, rfl⟩ := e
     rw [HY.out]
     have h := (hat (j + 1) (by rw [HKl.out]; omega)).1
     rw [HJ1.out]
     exact h
    have OX : OwnB 133 wx.drew w2.heap.size (.slice ba bn bc) (Tr.contL l ks fr j) := HO.out.below (on bx (Below.refl _ _).drew)
    obtain ⟨v6, w6, hr6, ho6, g6⟩ := run_append_brn OX (X.1, Y) (by have := Tr.contL_length (l := l) (ks := ks) fr (j := j); omega) (Nat.le_trans HB.out.size bx.size) 109
    obtain ⟨wk, hwk⟩ : ∃ wk, wx.drew.alloc (.cells #[.int .u64 (X.1.toNat : Int), .int .i64 Y] 133) = wk := ⟨_, rfl⟩
    dsimp only at hr6 g6
    rw [hwk] at hr6 g6
    have bk : Below wx.heap.size wx wk := by rw [← hwk]; exact on (Below.refl _ _).drew ((Below.refl _ _).alloc (Nat.le_refl _) _)
    obtain ⟨ea, ec, rfl, -⟩ := ho6.slice
    obtain ⟨en, hen⟩ : ∃ en, (Tr.contL l ks fr j ++ [(X.1, Y)]).length = en := ⟨_, rfl⟩
    rw [hen] at hr6 g6 ho6
    have HO6 : Hid (OwnB 133 w6 w2.heap.size (.slice ea en ec) (Tr.contL l ks fr (j + 1))) := by
     unfold Hid
     rw [Tr.contL_next fr (by rw [HLl.out]; exact hlt) (by rw [HKl.out, HLl.out]), ← HX.out, ← HY.out]
     exact ho6
    have h6 : Below w2.heap.size wk w6 := OwnB.base_below (OX.below (by rw [← hwk]; exact (Below.refl _ _).alloc (Nat.le_refl _) _)) (Nat.le_trans HB.out.size (Nat.le_trans bx.size bk.size)) g6
    have HB6 : Hid (Below w2.heap.size w2 w6) := ((HB.out.trans (bx.mono HB.out.size)).trans (bk.mono (Nat.le_trans HB.out.size bx.size))).trans h6
    have HRun : Hid _ := hr6
    have HS3 : Hid _ := HS.out wx.drew (Below.refl _ _).drew
    have HSk : Hid _ := HS.out wk bk
    have HS6 : Hid (w6.cell? ⟨wr.heap.size, 0, none⟩ = some (.int .u64 (X.1.toNat : Int)) ∧ w6.cell? ⟨w.heap.size, 1, none⟩ = some (.slice (some ⟨kb, ko, none⟩) kn kc) ∧ w6.cell? ⟨kb, ko + j1, none⟩ = some (.int .i64 Y)) := by
     refine ⟨?_, ((N2.out.below HB6.out)).cell (j := 1) rfl, ?_⟩
     · exact (((Vx.below bk)).grew g6 (fun e => by have := (HO.out.row.lt _ e).2; omega)).cell (j := 0) rfl
     · obtain ⟨b, off, e, -, -, hat⟩ := rKids_at (Rep.below HK.out (on B2.out HB6.out)) (by omega)
       simp only [Option.some.injEq, Addr.mk.injEq, and_true] at e
       obtain ⟨rfl, rfl⟩ := e
       rw [HY.out]
       have h := (hat (j + 1) (by rw [HKl.out]; omega)).1
       rw [HJ1.out]
       exact h
    clear hat hX hY hr6 ho6 g6 h6 OX bk Vx bx zx hen
    go_wp2_with fail
    refine wp_region_held_drew (S := (fun w' : World => w'.cell? ⟨wr.heap.size, 0, none⟩ = some (.int .u64 (X.1.toNat : Int)) ∧ w'.cell? ⟨w.heap.size, 1, none⟩ = some (.slice (some ⟨kb, ko, none⟩) kn kc) ∧ w'.cell? ⟨kb, ko + j1, none⟩ = some (.int .i64 Y))) (by kernel_rfl) (HS3.out) (fun hH => ?_)
    refine tkM 0 _ rfl rfl ?_; simp only [sz, ss]
    refine tkM 1 _ rfl rfl ?_; simp only [sz, ss]
    refine tkM 2 _ rfl rfl ?_; simp only [sz, ss]
    refine tkM 3 _ rfl rfl ?_; simp only [sz, ss]
    refine tkM 4 _ rfl rfl ?_; simp only [sz, ss]
    refine tkM 5 _ rfl rfl ?_; simp only [sz, ss]
    refine tkM 6 _ rfl rfl ?_; simp only [sz, ss]
    refine tkM 7 _ rfl rfl ?_; simp only [sz, ss]
    refine tkM 8 _ rfl rfl ?_; simp only [sz, ss]
    refine tkM 9 _ rfl rfl ?_; simp only [sz, ss]
    refine r1L 10 rfl fun K hK => ?_
    · go_simp
      refine hK.out _ _ ?_ (fun hH => ?_)
      · try dsimp only
        exact HSk.out
      clear hK K
      refine r1L 11 rfl fun K hK => ?_
      · refine held_append rfl rfl _ _ _ rfl _ _ _ rfl rfl HRun.out ?_
        refine hK.out _ _ ?_ (fun hH => ?_)
        · try dsimp only
          exact HS6.out
        clear hK K
        refine tkM 12 _ rfl rfl ?_; simp only [sz, ss]
        refine wpAnyH_done (by kernel_rfl) ?_ _
        clear hH hwr hwk hjk
        go_wp2
        go_roundw
        case rel => exact ⟨j + 1, _, _, _, by omega, by go_num, rfl, HO6, HB6⟩
        case measure => simp [intOf]; omega
  · obtain rfl : n = j := by omega
    have HO9 : Hid (OwnB 133 wr w2.heap.size (.slice ba bn bc) (Tr.contOf (l, ks) fr).2) := by
     rw [← Tr.contL_all fr (by rw [HKl.out, HLl.out]), HLl.out]
     exact HO.out
    have V9 : Hid _ := V2.out.below HB.out
    have B9 : Hid _ := on B2.out HB.out
    obtain ⟨q0, q1⟩ := V9.out.two
    have f0 := V9.out.frozen 0
    have f1 := V9.out.frozen 1
    go_wp2
    exact st_ret1 V9.out B9.out (Nat.le_of_lt HZ.out.1) _ _ rfl rfl Tryz.underlying111 rfl (by kernel_rfl) (fun w' k' b' => ⟨ba, bn, bc, rfl, (HO9.out.keptL k' (by have := HZ.out; have := HZ2.out; omega)).mono B2.out.size, b'⟩)
end Go.Proofs.YtkbmadoaomoojaaGreat
