/-
  Facts that the proof rests on, part 33. Conditions: those that each of them names.
-/
import Derived.Deep.LoopGhost
import Derived.Deep.RegionHeldLaw
import Derived.Test.YtkbmadoaomoojaaGreatK17
import Derived.Test.YtkbmadoaomoojaaGreatK30
import Derived.Test.YtkbmadoaomoojaaGreatK31
namespace Go.Proofs.YtkbmadoaomoojaaGreat
set_option maxRecDepth 20000
open Go.RowKit
set_option linter.unusedVariables false
attribute [local go_sem] Oper.semAt_some
namespace Tr
theorem heavy_len {s : Pgs} : ∀ {L : Stk}, (∀ z ∈ L, 1 ≤ wgt s z) → L.length ≤ heavy s L
 | [], _ => Nat.zero_le _
 | z :: L, h => by
   have h1 := h z (by simp)
   have h2 := heavy_len (s := s) (L := L) (fun y hy => h y (by simp [hy]))
   unfold heavy at h2 ⊢
   simp only [List.map_cons, List.sum_cons, List.length_cons]
   omega
end Tr
end Go.Proofs.YtkbmadoaomoojaaGreat
namespace Go.Proofs.YtkbmadoaomoojaaGreat
set_option maxRecDepth 20000
open Go.RowKit Go.Shelf
set_option linter.unusedVariables false
theorem wpListIn_append_run {F : Fence} {n : Nat} {P : Program} (w : World) {ops : Array Oper} {rest : List Oper} {o : Oper} {a : Go.Act} {Q : Exit → Go.Act → World → Prop} (hgd : o.guard = none) (s x : Operand) (t tn : TypeId)
 (ho : o.op = .call { callee := .builtin .append, args := #[s, x], argTypes := #[t, tn] }) (vs vx : Value) (hs : a.eval s = vs) (hx : a.eval x = vx)
 (v' : Value) (w' : World) (hr : (Builtin.append_ #[t, tn] o.type #[vs, vx]).run P w = .ok v' w') (h : wpListIn F n P ops Q rest (a.put o.dst v') w') : wpListIn F n P ops Q (o :: rest) a w := by
 refine wpListIn_plain hgd fun K hK' => ?_
 unfold Oper.wpIn
 refine ⟨?_, ?_⟩
 · simp [Oper.about, ho, resolve, Target.leads, Sem.run_pure]
 · rw [Oper.semAt_plain F _ _ (by rw [ho]; intro c hc'; cases hc')]
   simp [execOp, ho, resolve, invoke, builtin, hs, hx, hr, Result.andThen]
   exact hK' _ _ h
structure FromG (w w8 : World) (Bs gk2 : Nat) (L1 : List Int) (out : List Itm) (oa : Option Addr) (on_ oc : Nat) (ds : List Deferred) (pre : List GivenI) (W : World) : Prop where
 lists : ∃ la n lc, n = L1.length + pre.length ∧ Row W (w.heap.size + 1) 25 [.slice la n lc] ∧ OwnK 3 W w.heap.size (.slice la n lc) (L1 ++ pre.map fun x => fitI x.2)
 own : OwnI 45 W w.heap.size (.slice oa on_ oc) out
 below : Below w.heap.size w W
 kbs : W.heap[Bs]? = w8.heap[Bs]?
 marks : ∀ r, (∃ d ∈ ds, d.target = .collected r) → W.heap[r]? = w8.heap[r]?
 size : w8.heap.size ≤ W.heap.size
theorem FromG.ownFrom {w w8 : World} {Bs gk2 : Nat} {L1 : List Int} {out : List Itm} {oa : Option Addr} {on_ oc : Nat} {ds : List Deferred} (h1 : Bs < w8.heap.size) (h2 : gk2 < w8.heap.size) (h3 : w.heap.size ≤ w8.heap.size) (hm : Marks w8 w.heap.size ds) : OwnFrom w8.heap.size (FromG w w8 Bs gk2 L1 out oa on_ oc ds) := by
 intro pre W W' row h hg hr
 have hB : Below w8.heap.size W W' := (Below.refl _ W).grown hg h.size (fun k e => (hr k e).1)
 have hc : ∀ (b : Nat) (c : Array Value) (t : TypeId) (z : Nat × Nat), W.heap[b]? = some (Obj.cells c t z) → W'.heap[b]? = W.heap[b]? := fun b c t z e => hg.block b (Array.getElem?_eq_some_iff.1 e).1 (fun e' => by
  obtain ⟨-, o, ho, hcl⟩ := hr b e'.symm
  rw [e] at ho
  cases ho
  cases hcl)
 obtain ⟨la, n, lc, e1, e2, e3⟩ := h.lists
 refine ⟨⟨la, n, lc, e1, e2.keep (hc _ _ _ _ e2.eq), e3.keep1 fun b hb => ?_⟩, h.own.keep1 fun b hb => ?_, h.below.trans (hB.mono h3), (hB.block Bs h1).trans h.kbs, fun r hx => ?_, Nat.le_trans h.size hg.size⟩
 · obtain ⟨c, z, h5⟩ := e3.typed b hb
   exact hc _ _ _ _ h5
 · obtain ⟨c, z, h5⟩ := h.own.typed b hb
   exact hc _ _ _ _ h5
 · rw [← h.marks r hx]
   exact hB.block r (Array.getElem?_eq_some_iff.1 (hm.low r hx).2).1
theorem FromG.more {w w8 W wa wb : World} {Bs gk2 : Nat} {L1 : List Int} {out : List Itm} {oa : Option Addr} {on_ oc : Nat} {ds : List Deferred} {pre : List GivenI} {x : GivenI} (h : FromG w w8 Bs gk2 L1 out oa on_ oc ds pre W) (hgk : gk2 < w.heap.size) (hBs : ∃ (c : Array Value) (z : Nat × Nat), w8.heap[Bs]? = some (Obj.cells c 25 z)) (hBn : Bs ≠ w.heap.size + 1) (h3 : w.heap.size + 1 < w8.heap.size) (hm : Marks w8 w.heap.size ds)
 {la la' : Option Addr} {n lc n' lc' : Nat} (hrow : Row W (w.heap.size + 1) 25 [.slice la n lc]) (hA : Below W.heap.size W wa) (hO : OwnK 3 wa w.heap.size (.slice la n lc) (L1 ++ pre.map fun x => fitI x.2)) (hG : Grew wa wb (.slice la n lc) (.slice la' n' lc')) (hO' : OwnK 3 wb w.heap.size (.slice la' n' lc') ((L1 ++ pre.map fun x => fitI x.2) ++ [fitI x.2])) (hn' : n' = L1.length + pre.length + 1) :
 KeepsFrom w8.heap.size W (wb.setCell ⟨w.heap.size + 1, 0, none⟩ (.slice la' n' lc')) ∧ KB Bs gk2 W (wb.setCell ⟨w.heap.size + 1, 0, none⟩ (.slice la' n' lc')) ∧ FromG w w8 Bs gk2 L1 out oa on_ oc ds (pre ++ [x]) (wb.setCell ⟨w.heap.size + 1, 0, none⟩ (.slice la' n' lc')) := by
 have tkb : TK [3] wa wb := TK.grewK hO hG
 have tk1 : TK [3] W wb := (TK.of hA _).trans tkb
 have hrb : Row wb (w.heap.size + 1) 25 [.slice la n lc] := hrow.tk tk1 (by decide)
 have hrc : Row (wb.setCell ⟨w.heap.size + 1, 0, none⟩ (.slice la' n' lc')) (w.heap.size + 1) 25 [.slice la' n' lc'] := hrb.set 0 (.slice la' n' lc')
 have hsz : W.heap.size ≤ wb.heap.size := tk1.size
 have hset : ∀ b, b ≠ w.heap.size + 1 → (wb.setCell ⟨w.heap.size + 1, 0, none⟩ (.slice la' n' lc')).heap[b]? = wb.heap[b]? := fun b hb => Below.heap_setCell _ _ _ _ hb
 have hblk : ∀ b, b < W.heap.size → (∀ (c : Array Value) (z : Nat × Nat), W.heap[b]? ≠ some (Obj.cells c 3 z)) → b ≠ w.heap.size + 1 → (wb.setCell ⟨w.heap.size + 1, 0, none⟩ (.slice la' n' lc')).heap[b]? = W.heap[b]? := fun b hb hn hne => by
  rw [hset b hne, hG.grown.block b (Nat.lt_of_lt_of_le hb hA.size) (fun e => by
   obtain ⟨c, z, h5⟩ := hO.typed b e.symm
   rw [hA.block b hb] at h5
   exact hn c z h5), hA.block b hb]
 have hlow : ∀ b, b < w.heap.size → (wb.setCell ⟨w.heap.size + 1, 0, none⟩ (.slice la' n' lc')).heap[b]? = W.heap[b]? := fun b hb => by
  have hbW : b < W.heap.size := Nat.lt_of_lt_of_le hb h.below.size
  rw [hset b (by omega), hG.grown.block b (Nat.lt_of_lt_of_le hbW hA.size) (fun e => by
   have := (hO.row.lt b e.symm).1
   omega), hA.block b hbW]
 have hszs : (wb.setCell ⟨w.heap.size + 1, 0, none⟩ (.slice la' n' lc')).heap.size = wb.heap.size := by simp
 obtain ⟨c8, z8, h8⟩ := hBs
 have hBs8 : Bs < w8.heap.size := (Array.getElem?_eq_some_iff.1 h8).1
 have hBsW : (wb.setCell ⟨w.heap.size + 1, 0, none⟩ (.slice la' n' lc')).heap[Bs]? = W.heap[Bs]? := hblk Bs (Nat.lt_of_lt_of_le hBs8 h.size) (fun c z e => by
  rw [h.kbs, h8] at e
  cases e) hBn
 refine ⟨⟨by rw [hszs]; exact hsz, fun k o hk ho hcl => ?_⟩, fun p hp => World.cell?_of_block ?_, ⟨⟨la', n', lc', by rw [hn', List.length_append]; simp; omega, hrc, ?_⟩, ?_, ?_, hBsW.trans h.kbs, fun r hx => ?_, by rw [hszs]; exact Nat.le_trans h.size hsz⟩⟩
 · rw [hblk k (Array.getElem?_eq_some_iff.1 ho).1 (fun c z e => by rw [ho] at e; cases e; cases hcl) (by omega)]
   exact ho
 · rcases hp with e | e
   · rw [e]; exact hBsW
   · rw [e]; exact hlow _ hgk
 · rw [List.map_append, ← List.append_assoc]
   exact hO'.tk (TK.box hrb ⟨rfl, rfl, rfl, by simp, fun b hb => hset b hb⟩) (by decide)
 · refine h.own.keep1 fun b hb => ?_
   obtain ⟨c, z, h5⟩ := h.own.typed b hb
   exact hblk b (Array.getElem?_eq_some_iff.1 h5).1 (fun c' z' e => by rw [h5] at e; cases e) (fun e => by
    subst e
    rw [hrow.eq] at h5
    cases h5)
 · exact h.below.trans ⟨hG.grown.os.trans hA.os, hG.grown.tape.trans hA.tape, hG.grown.output.trans hA.output, by rw [hszs]; exact hsz, hlow⟩
 · have hl := hm.low r hx
   have hl8 : r < w8.heap.size := (Array.getElem?_eq_some_iff.1 hl.2).1
   have hW := h.marks r hx
   rw [← hW]
   exact hblk r (Nat.lt_of_lt_of_le hl8 h.size) (fun c z e => by rw [hW, hl.2] at e; cases e) (fun e => by
    subst e
    rw [hrow.eq, hl.2] at hW
    cases hW)
end Go.Proofs.YtkbmadoaomoojaaGreat
