/-
  Facts that the proof rests on, part 7. Conditions: those that each of them names.
-/
import Derived.LoopIn
import Derived.LoopNIn
import Derived.OwnWalkIn
import Derived.RangeFuncBox
import Derived.RangeFuncLeaves
import Derived.RangeFuncNested
import Derived.Shelf.Abstract
import Derived.TacticsInMore
import Derived.WalkKit
import Derived.Test.YtoophkmnppoppaaM00
import Derived.Test.YtoophkmnppoppaaM01
import Derived.Test.YtoophkmnppoppaaM03
import Derived.Test.YtoophkmnppoppaaM05
namespace Go.Proofs.Ytoophkmnppoppaa
set_option maxHeartbeats 16000000
open Go.RowKit Go.Shelf
set_option linter.unusedVariables false
attribute [local go_sem] Oper.semAt_some
abbrev Slc := Option Addr × Nat × Nat
def slV (z : Slc) : Value := .slice z.1 z.2.1 z.2.2
abbrev Plc (z : Nat → Slc) (len : Nat) := { j : Nat // j < len ∧ ¬ (z j).2.1 = 0 }
def encW {z : Nat → Slc} {len : Nat} (x : Plc z len) : Array Value := #[.int .i64 (x.1 : Int), .slice (z x.1).1 (z x.1).2.1 (z x.1).2.2]
def writ (z : Nat → Slc) (len : Nat) : (k : Nat) → k ≤ len → List (Plc z len)
 | 0, _ => []
 | k + 1, hk => if h : (z k).2.1 = 0 then writ z len k (by omega) else writ z len k (by omega) ++ [⟨k, by omega, h⟩]
theorem writ_len (z : Nat → Slc) (len : Nat) : ∀ k hk, (writ z len k hk).length ≤ k
 | 0, _ => Nat.le_refl _
 | k + 1, hk => by
   have ih := writ_len z len k (by omega)
   unfold writ
   split
   · omega
   · rw [List.length_append, List.length_singleton]; omega
theorem writ_no {z : Nat → Slc} {len k : Nat} (hk : k < len) (h : (z k).2.1 = 0) : writ z len (k + 1) hk = writ z len k (by omega) := dif_pos h
theorem writ_yes {z : Nat → Slc} {len k : Nat} (hk : k < len) (h : ¬ (z k).2.1 = 0) : writ z len (k + 1) hk = writ z len k (by omega) ++ [⟨k, hk, h⟩] := dif_neg h
theorem qIj (z : Nat → Slc) (len : Nat) : ∀ k hk, ∀ x : Plc z len, x ∈ writ z len k hk ↔ x.1 < k
 | 0, _, x => by simp [writ]
 | k + 1, hk, x => by
   have ih := qIj z len k (by omega) x
   unfold writ
   split
   · rename_i h
     rw [ih]
     constructor
     · intro h1; omega
     · intro h1
       rcases Nat.lt_succ_iff_lt_or_eq.1 h1 with h1 | h1
       · exact h1
       · have := x.2.2; rw [h1] at this; exact absurd h this
   · rename_i h
     rw [List.mem_append, ih, List.mem_singleton]
     constructor
     · rintro (h1 | rfl)
       · omega
       · show k < k + 1; omega
     · intro h1
       rcases Nat.lt_succ_iff_lt_or_eq.1 h1 with h1 | h1
       · exact .inl h1
       · exact .inr (Subtype.ext h1)
def KB (Bs b : Nat) (A B : World) : Prop := ∀ p : Addr, (p.block = Bs ∨ p.block = b) → B.cell? p = A.cell? p
theorem KB.refl (Bs b : Nat) (A : World) : KB Bs b A A := fun _ _ => rfl
theorem KB.trans {Bs b : Nat} {A B C : World} (h : KB Bs b A B) (k : KB Bs b B C) : KB Bs b A C := fun p hp => (k p hp).trans (h p hp)
theorem KB.below {Bs b : Nat} {A B : World} {n : Nat} (h : Below n A B) (h1 : Bs < n) (h2 : b < n) : KB Bs b A B := fun p hp => h.cell (by rcases hp with e | e <;> omega)
theorem KB.put {Bs b : Nat} {w : World} (h1 : Bs < w.heap.size) (h2 : b < w.heap.size) (W : World) (l : Nat) (o o' : Obj) (hl : w.heap.size ≤ l) (h : W.heap[l]? = some o) (hc : o.isCells = false) (hw : o.isWalk = false) : KB Bs b W (W.putObj l o') :=
 KB.below (belowK_b (w := w) (Nat.le_refl _) W l o o' hl h hc hw) h1 h2
set_option maxRecDepth 100000 in
theorem written1_in (n : Nat) (hn : 1 ≤ n) (l Bs b off len cap : Nat) (sa : Option Addr) (ha : 0 < len → sa = some ⟨b, off, none⟩) (z : Nat → Slc) (hlen : len ≤ 140737488355328) (hz : ∀ j, j < len → (z j).2.1 ≤ 140737488355328) (J Jx : List (Plc z len) → World → Prop)
 (hY : ∀ pre x W, J pre W → pre.length < len → YieldAt Fence.wide (n - 1) Try.prog l (encW x) W fun e W' =>
  (e = .returned (.bool true) ∧ J (pre ++ [x]) W' ∧ KB Bs b W W') ∨ (e = .returned (.bool false) ∧ Jx (pre ++ [x]) W'))
 (W : World) (hBs : W.cell? ⟨Bs, 0, none⟩ = some (.slice sa len cap))
 (hc : ∀ j, j < len → W.cell? ⟨b, off + j, none⟩ = some (slV (z j))) (h0 : J [] W) :
 CallsIn Fence.wide n Try.prog 62 #[.func (.yield l) #[] #[], .pointer (some ⟨Bs, 0, none⟩)] W fun e W' => (∃ v, e = .returned v) ∧
  ((∃ ys, ys = writ z len len (Nat.le_refl _) ∧ J ys W') ∨ (∃ pre, (∃ j, ∃ hj : j < len, ¬ (z j).2.1 = 0 ∧ pre = writ z len (j + 1) hj) ∧ Jx pre W')) := by
 have HY : Hid _ := hY
 have HC : Hid _ := hc
 have HZ : Hid _ := hz
 clear hY hc hz
 refine callsIn_of_wp Try.func62 rfl trivial ?_ rfl
 simp only [Try.ntmps62, List.size_toArray, List.length_cons, List.length_nil, Nat.reduceAdd, Nat.reduceSub, Array.replicate_succ, Array.replicate_zero, List.push_toArray, List.append_toArray, List.nil_append, List.cons_append]
 gi_wp2
 gi_loopw [7] (fun i wr => (∃ (j : Nat) (hj : j ≤ len), i = .int .i64 j ∧ Hid (J (writ z len j hj) wr)) ∧ Hid (KB Bs b W wr)) (fun i _ => len - (intOf i).toNat)
 case atStart => exact ⟨⟨0, Nat.zero_le _, rfl, h0⟩, KB.refl _ _ _⟩
 case round =>
  obtain ⟨⟨j, hj, rfl, HJs⟩, hnx⟩ := hrel
  by_cases hjn : j < len
  · obtain rfl := ha (by omega)
    have d0 := (hnx.out ⟨b, off + j, none⟩ (.inr rfl)).trans (HC.out j hjn)
    have dB := (hnx.out ⟨Bs, 0, none⟩ (.inl rfl)).trans hBs
    have hzj := HZ.out j hjn
    have hjz : (j : Int) < (len : Int) := by omega
    obtain ⟨zj, hzz⟩ : ∃ zj, zj = z j := ⟨_, rfl⟩
    have HZJ : Hid (zj = z j) := hzz
    rw [← hzz] at d0 hzj
    unfold slV at d0
    clear hzz
    by_cases h0 : zj.2.1 = 0
    · have HW : Hid (writ z len (j + 1) hjn = writ z len j hj) := writ_no hjn (by rw [← HZJ.out]; exact h0)
      have h0z : ¬ (0 : Int) < (zj.2.1 : Int) := by omega
      gi_wp2
      refine ⟨(fun f hf => by cases hf), ?_⟩
      gi_wp2
      go_roundw
      case rel => exact ⟨⟨j + 1, by omega, by go_num, by rw [HW.out]; exact HJs⟩, hnx⟩
      case measure => simp [intOf]; omega
    · have HN0 : Hid (¬ (z j).2.1 = 0) := by have h := HZJ.out; unfold Hid at *; rw [← h]; exact h0
      have HW : Hid (writ z len (j + 1) hjn = writ z len j hj ++ [⟨j, hjn, HN0.out⟩]) := writ_yes hjn HN0.out
      have h0z : (0 : Int) < (zj.2.1 : Int) := by omega
      obtain ⟨fn, tmps, assign, body, hy, hR⟩ := HY.out _ ⟨j, hjn, HN0.out⟩ wr HJs.out (by have := writ_len z len j hj; omega)
      unfold encW at hy
      dsimp only at hy
      rw [← HZJ.out] at hy
      gi_wp2
      refine hR.mono ?_
      rintro e W3 (⟨rfl, hJ3, hk3⟩ | ⟨rfl, hJx3⟩)
      · have HJ3 : Hid _ := hJ3
        clear hJ3
        gi_wp2
        go_roundw
        case rel => exact ⟨⟨j + 1, by omega, by go_num, by rw [HW.out]; exact HJ3⟩, hnx.out.trans hk3⟩
        case measure => simp [intOf]; omega
      · have HX3 : Hid _ := hJx3
        clear hJx3
        gi_wp2
        refine bodyPost_ret (results_none rfl _ _ _) rfl ?_
        exact ⟨⟨_, rfl⟩, .inr ⟨_, ⟨j, hjn, HN0.out, HW.out.symm⟩, HX3.out⟩⟩
  · obtain rfl : len = j := by omega
    gi_wp2
    go_end0
    exact ⟨⟨_, rfl⟩, .inl ⟨_, rfl, HJs.out⟩⟩
theorem qEz (a : Option Addr) (len cap : Nat) (w : World) :
 Calls Try.prog 55 #[.slice a len cap] w fun e w' => e = .returned (.func (.func 62) #[] #[.pointer (some ⟨w.heap.size, 0, none⟩)]) ∧ w' = w.alloc (.cells #[.slice a len cap] 22) := by
 have hmf : ∀ (fn : Fn) (first cap : Array Value) (w : World), (Instr.makeFunc fn first cap).run Try.prog w = .ok (.func fn first cap) w := fun _ _ _ _ => rfl
 go_enter Try.func55, Try.ntmps55
 go_wp2
 go_ret
 exact ⟨rfl, rfl⟩
theorem q7z (n : Nat) (hn : 1 ≤ n) (Bs b off len cap : Nat) (sa : Option Addr) (ha : 0 < len → sa = some ⟨b, off, none⟩) (z : Nat → Slc) (hlen : len ≤ 140737488355328) (hz : ∀ j, j < len → (z j).2.1 ≤ 140737488355328) (w : World) (hBs : Bs < w.heap.size) (hb : b < w.heap.size)
 (hc : w.cell? ⟨Bs, 0, none⟩ = some (.slice sa len cap)) (hI : ∀ j, j < len → w.cell? ⟨b, off + j, none⟩ = some (slV (z j))) :
 SeqStopsK Fence.wide n Try.prog 62 #[.pointer (some ⟨Bs, 0, none⟩)] (encW (z := z) (len := len)) (KB Bs b) (fun ys => ys = writ z len len (Nat.le_refl _))
  (fun pre => ∃ j, ∃ hj : j < len, ¬ (z j).2.1 = 0 ∧ pre = writ z len (j + 1) hj) len w := fun l J Jx W hW _ _ hY h0 => by
 have hc' := (hW.cell (p := ⟨Bs, 0, none⟩) hBs).trans hc
 exact written1_in n hn l Bs b off len cap sa ha z hlen hz J Jx hY W hc' (fun j hj => (hW.cell (p := ⟨b, off + j, none⟩) hb).trans (hI j hj)) h0
theorem q9J {w : World} {P : Nat → Prop} {a : Option Addr} {n c : Nat} {d : Dsk} (h : rSectors.rd w P [.slice a n c] d) :
 ∃ (b off : Nat) (z : Nat → Slc), (0 < n → a = some ⟨b, off, none⟩ ∧ P b ∧ b < w.heap.size) ∧ (∀ j, j < n → w.cell? ⟨b, off + j, none⟩ = some (slV (z j))) ∧ (∀ j (hj : j < d.length), rBytes.rd w P [slV (z j)] d[j] ∧ (z j).2.1 = d[j].length ∧ d[j].length ≤ 140737488351232) ∧ d.length = n ∧ n ≤ 140737488351232 := by
 obtain ⟨hl, -, -, hb⟩ := q0Q h
 have hn : n ≤ 140737488351232 := by have : n * 24 ≤ 140737488351232 := hb; omega
 by_cases h0 : n = 0
 · exact ⟨0, 0, fun _ => (none, 0, 0), fun h => by omega, fun j hj => by omega, fun j hj => by omega, hl, hn⟩
 · obtain ⟨b, off, e1, e2, e3, e4⟩ := q9Q h (by omega)
   refine ⟨b, off, fun j => if hj : j < d.length then (Classical.choose (e4 j hj), Classical.choose (Classical.choose_spec (e4 j hj)), Classical.choose (Classical.choose_spec (Classical.choose_spec (e4 j hj)))) else (none, 0, 0), fun _ => ⟨e1, e2, e3⟩, fun j hj => ?_, fun j hj => ?_, hl, hn⟩
   · have hj' : j < d.length := by omega
     simp only [hj', dif_pos, slV]
     obtain ⟨k0, k1, k2⟩ := Classical.choose_spec (Classical.choose_spec (Classical.choose_spec (e4 j hj')))
     exact k2
   · simp only [hj, dif_pos, slV]
     obtain ⟨k0, k1, k2⟩ := Classical.choose_spec (Classical.choose_spec (Classical.choose_spec (e4 j hj)))
     refine ⟨k0, k1.symm, ?_⟩
     have := (q0Q k0).2.2.2
     have h3 : _ * 1 ≤ 140737488351232 := this
     omega
end Go.Proofs.Ytoophkmnppoppaa
namespace Go.Proofs.Ytoophkmnppoppaa
set_option maxHeartbeats 16000000
open Go.RowKit
set_option linter.unusedVariables false
theorem copy_u (w : World) (a : Option Addr) (n c : Nat) (l : List UInt8) (hn : n ≤ 140737488355328) (hc : a = none → c = 0) (hB : IsB w a n l) :
 Calls Try.prog 28 #[.slice a n c] w fun e w' => ∃ b d, e = .returned (.slice b n d) ∧
  w'.ownsRow w.heap.size 5 1 (.slice b n d) n (cellsOf l) ∧ Below w.heap.size w w' := by
 obtain ⟨i0, hi, hz0, hz1, hz2⟩ := info_parts qFQ
 have hl := hB.1
 cases a with
 | none =>
   have hn0 := hB.2.1 rfl
   have hc0 := hc rfl
   subst hn0
   subst hc0
   have : l = [] := List.length_eq_zero_iff.1 hl
   subst this
   go_enter Try.func28, Try.ntmps28
   go_wp2_with (at_builtin; refine wpList_append_own_none rfl _ _ 26 rfl w.heap.size 5 i0 1 Try.underlying26 hi _ 0 [] rfl (World.ownsRow_nil w _ _ _) rfl ?_)
   go_ret
   exact ⟨none, 0, rfl, own_nil _ _, Below.refl _ _⟩
 | some x =>
   go_enter Try.func28, Try.ntmps28
   go_wp2_with (at_builtin; refine wpList_append_own _ rfl _ _ 26 rfl w.heap.size 5 i0 (.int .u8 0) 1 1 Try.underlying26 hi hz0 hz1 hz2 rfl (by decide) _ 0 [] rfl (World.ownsRow_nil w _ _ _) x n c (cellsOf l) rfl (by simp [cellsOf, hl]) (qBz hB) (q4x l) (by unfold maxLen; omega) (by omega) (Nat.le_refl _) ?_)
   intro v' w1 hown hgrow _
   try simp only [Nat.zero_add, List.nil_append] at hown
   obtain ⟨b, d, rfl, -⟩ := qHx hown
   go_wp2
   go_ret
   exact ⟨b, d, rfl, hown, (Below.refl _ _).grown hgrow (Nat.le_refl _) (fun k h => by cases h)⟩
theorem q1Q {w : World} {P : Nat → Prop} {a : Option Addr} {n c : Nat} {l : List UInt8} (h : rBytes.rd w P [.slice a n c] l) : IsB w a n l ∧ n ≤ c ∧ (a = none → c = 0) ∧ n ≤ 140737488351232 := by
 obtain ⟨a', n', c', e, h1, h2, h3, h4, h5⟩ := h
 simp only [List.cons.injEq, Value.slice.injEq, and_true] at e
 obtain ⟨rfl, rfl, rfl⟩ := e
 refine ⟨⟨h1, fun e => by have := h3 e; omega, fun x hx j hj => ?_⟩, h2, h3, by have : n * 1 ≤ _ := h4; omega⟩
 obtain ⟨_, cj, g1, g2⟩ := h5 x hx j hj
 have g1' : cj = [.int .u8 (l[j].toNat : Int)] := g1
 subst g1'
 have := g2 0 _ rfl
 rwa [show j * rByte.size + 0 = j from by show j * 1 + 0 = j; omega] at this
theorem q9x (w : World) (P : Nat → Prop) : ∀ l : List UInt8, q5j rByte w P (cellsOf l) l
 | [] => rfl
 | b :: l => ⟨[.int .u8 (b.toNat : Int)], cellsOf l, rfl, rfl, q9x w P l⟩
theorem q4q {w : World} {base n c : Nat} {a : Option Addr} {l : List UInt8} (h : w.ownsRow base 5 1 (.slice a n c) n (cellsOf l)) (hn : n ≤ 140737488351232) : rBytes.rd w (fun b => base ≤ b) [.slice a n c] l := by
 have hl : n = l.length := by have := h.1; simp [cellsOf] at this; omega
 obtain ⟨a', c', e, hr⟩ := qDZ (A := rByte) (hs := by decide) h (q9x w (fun b => base ≤ b) l) hl (by show n * 1 ≤ _; omega) (fun b e => (World.ownsRow.lt h b e).1)
 simp only [Value.slice.injEq] at e
 obtain ⟨rfl, _, rfl⟩ := e
 exact hr
theorem elem_sectors : q6q Try.prog 22 26 rBytes := qBQ (z := .slice none 0 0) Try.underlying22 (by kernel_rfl) rfl rfl rfl (by decide)
end Go.Proofs.Ytoophkmnppoppaa
