/-
  Facts that the proof rests on, part 32. Conditions: those that each of them names.
-/
import Derived.LoopIn
import Derived.LoopNIn
import Derived.OwnWalkIn
import Derived.RangeFuncBox
import Derived.RangeFuncLeaves
import Derived.RangeFuncNested
import Derived.Shelf.Abstract
import Derived.TacticsInMore
import Derived.WalkKit
import Derived.Test.YtkbmadoaomoojaaGreatK30
namespace Go.Proofs.YtkbmadoaomoojaaGreat
set_option maxRecDepth 20000
open Go.RowKit Go.Shelf
set_option linter.unusedVariables false
attribute [local go_sem] Oper.semAt_some
abbrev GivenI := Nat × Int
def backToI (z : Nat → Int) (len k : Nat) : List GivenI := (List.range k).map (fun t => (len - 1 - t, z (len - 1 - t)))
theorem backToI_next (z : Nat → Int) (len j : Nat) (h : j < len) : backToI z len (len - 1 - j + 1) = backToI z len (len - 1 - j) ++ [(j, z j)] := by
 simp only [backToI, List.range_succ, List.map_append, List.map_cons, List.map_nil]
 rw [show len - 1 - (len - 1 - j) = j from by omega]
theorem backToI_length (z : Nat → Int) (len k : Nat) : (backToI z len k).length = k := by simp [backToI]
def fitI (x : Int) : Int := if -9223372036854775808 ≤ x ∧ x ≤ 9223372036854775807 then x else 0
theorem fitI_of {x : Int} (h : -9223372036854775808 ≤ x ∧ x ≤ 9223372036854775807) : fitI x = x := by unfold fitI; rw [if_pos h]
theorem fitI_in (x : Int) : -9223372036854775808 ≤ fitI x ∧ fitI x ≤ 9223372036854775807 := by
 unfold fitI
 split
 · assumption
 · omega
def encGivenI (x : GivenI) : Array Value := #[.int .i64 (x.1 : Int), .int .i64 (fitI x.2)]
def KB (Bs b : Nat) (A B : World) : Prop := ∀ p : Addr, (p.block = Bs ∨ p.block = b) → B.cell? p = A.cell? p
theorem KB.refl (Bs b : Nat) (A : World) : KB Bs b A A := fun _ _ => rfl
theorem KB.trans {Bs b : Nat} {A B C : World} (h : KB Bs b A B) (k : KB Bs b B C) : KB Bs b A C := fun p hp => (k p hp).trans (h p hp)
theorem KB.below {Bs b : Nat} {A B : World} {n : Nat} (h : Below n A B) (h1 : Bs < n) (h2 : b < n) : KB Bs b A B := fun p hp => h.cell (by rcases hp with e | e <;> omega)
theorem KB.put {Bs b : Nat} {w : World} (h1 : Bs < w.heap.size) (h2 : b < w.heap.size) (W : World) (l : Nat) (o o' : Obj) (hl : w.heap.size ≤ l) (h : W.heap[l]? = some o) (hc : o.isCells = false) (hw : o.isWalk = false) : KB Bs b W (W.putObj l o') :=
 KB.below (belowK_b (w := w) (Nat.le_refl _) W l o o' hl h hc hw) h1 h2
set_option maxRecDepth 100000 in
set_option maxHeartbeats 2000000 in
theorem back1I_in (F : Fence) (n : Nat) (h7 : F.fn 65) (hro : F.round = none) (hn : 1 ≤ n) (l Bs b off len cap : Nat) (z : Nat → Int) (hz : ∀ j, j < len → -9223372036854775808 ≤ z j ∧ z j ≤ 9223372036854775807) (hlen : len ≤ 1000000) (J Jx : List GivenI → World → Prop)
 (hY : ∀ pre x W, J pre W → pre.length < len → YieldAt F (n - 1) Tryz.prog l #[.int .i64 (x.1 : Int), .int .i64 (fitI x.2)] W fun e W' =>
  (e = .returned (.bool true) ∧ J (pre ++ [x]) W' ∧ KB Bs b W W') ∨ (e = .returned (.bool false) ∧ Jx (pre ++ [x]) W'))
 (W : World) (hBs : W.cell? ⟨Bs, 0, none⟩ = some (.slice (some ⟨b, off, none⟩) len cap))
 (hc : ∀ j, j < len → W.cell? ⟨b, off + j, none⟩ = some (.int .i64 (z j))) (h0 : J [] W) :
 CallsIn F n Tryz.prog 65 #[.func (.yield l) #[] #[], .pointer (some ⟨Bs, 0, none⟩)] W fun e W' => (∃ v, e = .returned v) ∧
  ((∃ ys, ys = backToI z len len ∧ J ys W') ∨ (∃ pre, (∃ j, j < len ∧ pre = backToI z len (len - 1 - j + 1)) ∧ Jx pre W')) := by
 refine callsIn_of_wp Tryz.func65 rfl h7 ?_ hro
 simp only [Tryz.ntmps65, List.size_toArray, List.length_cons, List.length_nil, Nat.reduceAdd, Nat.reduceSub, Array.replicate_succ, Array.replicate_zero, List.push_toArray, List.append_toArray, List.nil_append, List.cons_append]
 gi_wp2
 gi_loopw [3] (fun i wr => ((∃ j : Nat, j < len ∧ i = .int .i64 j ∧ J (backToI z len (len - 1 - j)) wr) ∨ (i = .int .i64 (-1) ∧ J (backToI z len len) wr)) ∧ Hid (KB Bs b W wr))
  (fun i _ => (intOf i + 1).toNat)
 case atStart =>
  refine ⟨?_, KB.refl _ _ _⟩
  cases len with
  | zero => exact .inr ⟨by simp, by simpa [backToI] using h0⟩
  | succ m => exact .inl ⟨m, by omega, by go_num, by simpa [backToI] using h0⟩
 case round =>
  obtain ⟨⟨j, hj, rfl, hJs⟩ | ⟨rfl, hJs⟩, hnx⟩ := hrel
  · have c0 := hc j hj
    have d0 := (hnx.out ⟨b, off + j, none⟩ (.inr rfl)).trans c0
    have dB := (hnx.out ⟨Bs, 0, none⟩ (.inl rfl)).trans hBs
    obtain ⟨fn, tmps, assign, body, hy, hR⟩ := hY _ (j, z j) wr hJs (by rw [backToI_length]; omega)
    dsimp only at hy
    rw [fitI_of (hz j hj)] at hy
    clear c0
    gi_wp2
    refine hR.mono ?_
    rintro e W3 (⟨rfl, hJ3, hk3⟩ | ⟨rfl, hJx3⟩)
    · gi_wp2
      go_roundw
      case rel =>
       refine ⟨?_, hnx.out.trans hk3⟩
       rw [← backToI_next z len j hj] at hJ3
       cases j with
       | zero => exact .inr ⟨by simp, by rwa [show len - 1 - 0 + 1 = len from by omega] at hJ3⟩
       | succ i => exact .inl ⟨i, by omega, by go_num, by rwa [show len - 1 - (i + 1) + 1 = len - 1 - i from by omega] at hJ3⟩
      case measure => simp [intOf]
    · gi_wp2
      refine bodyPost_ret (results_none rfl _ _ _) rfl ?_
      exact ⟨⟨_, rfl⟩, .inr ⟨_, ⟨j, hj, (backToI_next z len j hj).symm⟩, hJx3⟩⟩
  · gi_wp2
    go_end0
    exact ⟨⟨_, rfl⟩, .inl ⟨_, rfl, hJs⟩⟩
theorem backwardI_u (a : Option Addr) (len cap : Nat) (w : World) :
 Calls Tryz.prog 48 #[.slice a len cap] w fun e w' => e = .returned (.func (.func 65) #[] #[.pointer (some ⟨w.heap.size, 0, none⟩)]) ∧ w' = w.alloc (.cells #[.slice a len cap] 25) := by
 have hmf : ∀ (fn : Fn) (first cap : Array Value) (w : World), (Instr.makeFunc fn first cap).run Tryz.prog w = .ok (.func fn first cap) w := fun _ _ _ _ => rfl
 go_enter Tryz.func48, Tryz.ntmps48
 go_wp2
 go_ret
 exact ⟨rfl, rfl⟩
theorem backwardI_stops (F : Fence) (n : Nat) (h7 : F.fn 65) (hro : F.round = none) (hn : 1 ≤ n) (Bs len cap b off : Nat) (z : Nat → Int) (hz : ∀ j, j < len → -9223372036854775808 ≤ z j ∧ z j ≤ 9223372036854775807) (hlen : len ≤ 1000000) (w : World) (hBs : Bs < w.heap.size) (hb : b < w.heap.size)
 (hc : w.cell? ⟨Bs, 0, none⟩ = some (.slice (some ⟨b, off, none⟩) len cap)) (hI : ∀ j, j < len → w.cell? ⟨b, off + j, none⟩ = some (.int .i64 (z j))) :
 SeqStopsK F n Tryz.prog 65 #[.pointer (some ⟨Bs, 0, none⟩)] encGivenI (KB Bs b) (fun ys => ys = backToI z len len)
  (fun pre => ∃ j, j < len ∧ pre = backToI z len (len - 1 - j + 1)) len w := fun l J Jx W hW _ _ hY h0 => by
 have hc' := (hW.cell (p := ⟨Bs, 0, none⟩) hBs).trans hc
 exact back1I_in F n h7 hro hn l Bs b off len cap z hz hlen J Jx hY W hc' (fun j hj => (hW.cell (p := ⟨b, off + j, none⟩) hb).trans (hI j hj)) h0
theorem backToI_rev (ks : List Int) (z : Nat → Int) (hz : ∀ (j : Nat) (h : j < ks.length), z j = ks[j]) (hi : ∀ x ∈ ks, -9223372036854775808 ≤ x ∧ x ≤ 9223372036854775807) : (backToI z ks.length ks.length).map (fun x => fitI x.2) = ks.reverse := by
 refine List.ext_getElem (by simp [backToI]) (fun i h1 h2 => ?_)
 have h3 : i < ks.length := by simpa using h2
 rw [List.getElem_reverse]
 simp only [backToI, List.map_map, List.getElem_map, List.getElem_range, Function.comp]
 rw [hz _ (by omega), fitI_of (hi _ (List.getElem_mem _))]
def Marks (w : World) (B : Nat) : List Deferred → Prop
 | [] => True
 | d :: ds => (∃ r, d = { target := .collected r, args := #[] } ∧ B ≤ r ∧ w.heap[r]? = some (.deferred (some [])) ∧ ∀ e ∈ ds, e.target ≠ .collected r) ∧ Marks w B ds
theorem Marks.keep {w w' : World} {B : Nat} : ∀ {ds : List Deferred}, Marks w B ds → (∀ r, (∃ d ∈ ds, d.target = .collected r) → w'.heap[r]? = w.heap[r]?) → Marks w' B ds
 | [], _, _ => trivial
 | d :: ds, ⟨⟨r, e, h1, h2, h3⟩, h4⟩, hk => ⟨⟨r, e, h1, (hk r ⟨d, by simp, by rw [e]⟩).trans h2, h3⟩, h4.keep (fun q ⟨x, hx, e'⟩ => hk q ⟨x, by simp [hx], e'⟩)⟩
theorem Marks.low {w : World} {B : Nat} : ∀ {ds : List Deferred}, Marks w B ds → ∀ r, (∃ d ∈ ds, d.target = .collected r) → B ≤ r ∧ w.heap[r]? = some (.deferred (some []))
 | d :: ds, ⟨⟨r, e, h1, h2, h3⟩, h4⟩, q, ⟨x, hx, e'⟩ => by
   rcases List.mem_cons.1 hx with rfl | hx
   · rw [e] at e'
     cases e'
     exact ⟨h1, h2⟩
   · exact h4.low q ⟨x, hx, e'⟩
theorem leaves_marks {fn : Func} {tmps : Array Value} {R : Ending → World → Prop} {n B : Nat} : ∀ {ds : List Deferred} {w : World}, Marks w B ds →
 (∀ w', Kept (fun b => b < B ∨ CellB w b) w w' → LeavesInM Fence.wide n Tryz.prog fn tmps R [] .returning w') → LeavesInM Fence.wide n Tryz.prog fn tmps R ds .returning w
 | [], w, _, h => h w (Kept.refl _ _)
 | d :: ds, w, ⟨⟨r, e, h1, h2, h3⟩, h4⟩, h => by
   subst e
   refine ⟨by simp, .inl ⟨r, _, rfl, run_takeDeferred h2, ?_⟩⟩
   have hk : ∀ b, b ≠ r → (w.putObj r (.deferred none)).heap[b]? = w.heap[b]? := fun b hb => World.putObj_heap_other hb
   refine leaves_marks (h4.keep (fun q ⟨x, hx, e'⟩ => hk q (fun e => h3 x hx (by rw [e', e])))) (fun w' k' => h w' ?_)
   have hk2 : Kept (fun b => b < B ∨ CellB w b) w (w.putObj r (.deferred none)) := ⟨rfl, rfl, rfl, by simp [World.putObj], fun b hb => hk b (fun e => by
    subst e
    rcases hb with hb | ⟨c, t, z, hc⟩
    · omega
    · rw [h2] at hc; cases hc)⟩
   refine ⟨k'.os.trans hk2.os, k'.tape.trans hk2.tape, k'.output.trans hk2.output, Nat.le_trans hk2.size k'.size, fun b hb => (k'.block b ?_).trans (hk2.block b hb)⟩
   rcases hb with hb | hb
   · exact .inl hb
   · exact .inr (hb.keep (hk2.block b (.inr hb)))
end Go.Proofs.YtkbmadoaomoojaaGreat
namespace Go.Proofs.YtkbmadoaomoojaaGreat
set_option maxRecDepth 20000
set_option linter.unusedVariables false
namespace Tr
open Lf
def fromK2 (key : UInt64) (l : List Itm) : List Itm := l.filter fun x => decide (key.toNat ≤ x.1.toNat)
def Finds (s : Pgs) (key : UInt64) (m : Nat) (R : List Itm) (out : List Itm) (rest : List Itm) : Prop := out.length ≤ m ∧ (out ++ fromK2 key rest).take m = R
theorem Finds.start {s : Pgs} {key : UInt64} {m : Nat} {l : List Itm} : Finds s key m (rangeOf l key m) [] l := ⟨Nat.zero_le _, rfl⟩
theorem Finds.end_ {s : Pgs} {key : UInt64} {m : Nat} {R out : List Itm} (h : Finds s key m R out []) : out = R := by
 rw [← h.2]
 unfold fromK2
 rw [List.filter_nil, List.append_nil, List.take_of_length_le h.1]
theorem Finds.full {s : Pgs} {key : UInt64} {m : Nat} {R out rest : List Itm} (h : Finds s key m R out rest) (hm : out.length = m) : out = R := by
 rw [← h.2, ← hm, List.take_left]
theorem Finds.skip {s : Pgs} {key : UInt64} {m : Nat} {R out rest : List Itm} {x : Itm} (h : Finds s key m R out (x :: rest)) (hx : ¬ key.toNat ≤ x.1.toNat) : Finds s key m R out rest := by
 refine ⟨h.1, ?_⟩
 have := h.2
 unfold fromK2 at this ⊢
 rw [List.filter_cons_of_neg (by simpa using hx)] at this
 exact this
theorem Finds.take_ {s : Pgs} {key : UInt64} {m : Nat} {R out rest : List Itm} {x : Itm} (h : Finds s key m R out (x :: rest)) (hx : key.toNat ≤ x.1.toNat) (hm : out.length < m) : Finds s key m R (out ++ [x]) rest := by
 refine ⟨by rw [List.length_append]; simp; omega, ?_⟩
 have := h.2
 unfold fromK2 at this ⊢
 rw [List.filter_cons_of_pos (by simpa using hx)] at this
 rw [List.append_assoc]
 exact this
theorem Finds.few {s : Pgs} {key : UInt64} {m : Nat} {R out rest : List Itm} (h : Finds s key m R out rest) : out.length ≤ R.length := by
 rw [← h.2, List.length_take, List.length_append]
 have := h.1
 omega
theorem Finds.node {s : Pgs} {met : List Int} {key : UInt64} {m : Nat} {R out : List Itm} {L : Stk} {z : Int × Nat} (h : Finds s key m R out (sits s (L ++ [z]).reverse)) (hz : OneOk s met z) (hk : (nodeAt s z).2 ≠ []) : Finds s key m R out (sits s (L ++ ((kidsAt s z).drop (way (nodeAt s z) key)).reverse).reverse) := by
 refine ⟨h.1, ?_⟩
 rw [← h.2]
 have e : fromK2 key (sits s (L ++ ((kidsAt s z).drop (way (nodeAt s z) key)).reverse).reverse) = fromK2 key (sits s (L ++ [z]).reverse) := by
  rw [List.reverse_append, List.reverse_append, List.reverse_reverse, sits_append, sits_append]
  unfold fromK2
  rw [List.filter_append, List.filter_append, show sits s [z].reverse = its s z.2 z.1 by unfold sits; simp, from_node hz hk key]
 rw [e]
theorem Finds.leaf {s : Pgs} {met : List Int} {key : UInt64} {m : Nat} {R out : List Itm} {L : Stk} {z : Int × Nat} (h : Finds s key m R out (sits s (L ++ [z]).reverse)) (hz : OneOk s met z) (hk : (nodeAt s z).2 = []) : Finds s key m R out ((nodeAt s z).1 ++ sits s L.reverse) := by
 rw [List.reverse_append, sits_append, show sits s [z].reverse = its s z.2 z.1 by unfold sits; simp, hz.leaf hk] at h
 exact h
theorem rangeOf_len (l : List Itm) (key : UInt64) (m : Nat) : (rangeOf l key m).length ≤ l.length := by
 unfold rangeOf
 rw [List.length_take]
 have := List.length_filter_le (fun x : Itm => decide (key.toNat ≤ x.1.toNat)) l
 omega
end Tr
end Go.Proofs.YtkbmadoaomoojaaGreat
