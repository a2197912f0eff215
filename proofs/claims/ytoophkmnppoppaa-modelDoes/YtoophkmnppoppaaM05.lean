/-
  Facts that the proof rests on, part 6. Conditions: those that each of them names.
-/
import Derived.BigQuiet
import Derived.Deep.DeepCutAuto
import Derived.Deep.QuietTactic
import Derived.Deep.RegionHeldLaw
import Derived.Lib.AppendZeros
import Derived.Shelf.Abstract
import Derived.Test.YtoophkmnppoppaaRows
import Derived.Test.YtoophkmnppoppaaM00
import Derived.Test.YtoophkmnppoppaaM02
import Derived.Test.YtoophkmnppoppaaM03
import Derived.Test.YtoophkmnppoppaaM04
namespace Go.Proofs.Ytoophkmnppoppaa
set_option maxHeartbeats 16000000
open Go.RowKit
set_option linter.unusedVariables false
theorem q3x {a w : World} {B : Nat} (h : Below B a w) (n : Nat) : Below B a (w.drewN n) := ⟨h.os, h.tape, h.output, h.size, h.block⟩
theorem qCZ {P : Program} {ops : Array Oper} {Q : Exit → Go.Act → World → Prop} {md : Region.Mode} {S : World → Prop} {i k : Nat} {oi : Oper} {v : Value} {fuel : Nat} {listed : Array Bool} {l : List Value} {d : List Deferred} {w : World} (hi : ops[i]? = some oi) (hk : oi.dst = some k)
 (hs : Region.noSelect ops = true) (hf : Region.free md ops listed i = true) (hr : (Region.ready md ops listed).contains i = true) (hQ : ∀ c a w, Q (.panic c) (a.put oi.dst v) w → Q (.panic c) a w) (hy : YieldsIf P ops S oi v ⟨l.toArray, d⟩)
 (hS : S w) (h : wpAnyH P md ops Q S fuel (listed.setIfInBounds i true) ⟨(l.set k v).toArray, d⟩ w) : wpAnyH P md ops Q S (fuel + 1) listed ⟨l.toArray, d⟩ w := by
 refine wpAnyH_take hi hs hf hr hQ hy hS ?_
 have e : Go.Act.put ⟨l.toArray, d⟩ oi.dst v = ⟨(l.set k v).toArray, d⟩ := by rw [hk]; simp [Go.Act.put]
 rw [e]
 exact h
theorem sz {α : Type} {a b : α} {l : List α} : (a :: l).set 0 b = b :: l := rfl
theorem ss {α : Type} {a b : α} {l : List α} {n : Nat} : (a :: l).set (n + 1) b = a :: l.set n b := rfl
theorem tkL (i : Nat) (v : Value) {P : Program} {ops : Array Oper} {Q : Exit → Go.Act → World → Prop} {md : Region.Mode} {S : World → Prop} {k : Nat} {oi : Oper} {fuel : Nat} {listed : Array Bool} {l : List Value} {d : List Deferred} {w : World} (hi : ops[i]? = some oi) (hk : oi.dst = some k) (hy : YieldsIf P ops S oi v ⟨l.toArray, d⟩)
 (h : wpAnyH P md ops Q S fuel (listed.setIfInBounds i true) ⟨(l.set k v).toArray, d⟩ w) (hs : Region.noSelect ops = true := by kernel_rfl) (hf : Region.free md ops listed i = true := by kernel_rfl) (hr : (Region.ready md ops listed).contains i = true := by kernel_rfl) (hQ : ∀ c a w, Q (.panic c) (a.put oi.dst v) w → Q (.panic c) a w := by exact fun _ _ _ h => h)
 (hS : S w := by assumption) : wpAnyH P md ops Q S (fuel + 1) listed ⟨l.toArray, d⟩ w := qCZ hi hk hs hf hr hQ hy hS h
theorem tkM (i : Nat) (v : Value) {P : Program} {ops : Array Oper} {Q : Exit → Go.Act → World → Prop} {md : Region.Mode} {S : World → Prop} {k : Nat} {oi : Oper} {fuel : Nat} {listed : Array Bool} {l : List Value} {d : List Deferred} {w : World} (hi : ops[i]? = some oi) (hk : oi.dst = some k)
 (h : wpAnyH P md ops Q S fuel (listed.setIfInBounds i true) ⟨(l.set k v).toArray, d⟩ w) (hy : YieldsIf P ops S oi v ⟨l.toArray, d⟩ := by exact Or.inl ⟨by rfl, by intro w h; (try dsimp only at h); go_simp; all_goals with_reducible rfl⟩) (hs : Region.noSelect ops = true := by kernel_rfl) (hf : Region.free md ops listed i = true := by kernel_rfl) (hr : (Region.ready md ops listed).contains i = true := by kernel_rfl) (hQ : ∀ c a w, Q (.panic c) (a.put oi.dst v) w → Q (.panic c) a w := by exact fun _ _ _ h => h)
 (hS : S w := by assumption) : wpAnyH P md ops Q S (fuel + 1) listed ⟨l.toArray, d⟩ w := qCZ hi hk hs hf hr hQ hy hS h
theorem rdL (rs : List Nat) {P : Program} {ops : Array Oper} {Q : Exit → Go.Act → World → Prop} {md : Region.Mode} {S : World → Prop} {fuel : Nat} {listed : Array Bool} {a : Go.Act} {w : World} (h : AllReadyH P md ops Q S fuel listed a w rs) (hr : Region.ready md ops listed = rs := by kernel_rfl) (hn : rs ≠ [] := by simp) : wpAnyH P md ops Q S (fuel + 1) listed a w := wpAnyH_ready hr hn h
theorem rcL {P : Program} {ops : Array Oper} {Q : Exit → Go.Act → World → Prop} {md : Region.Mode} {S : World → Prop} {fuel : Nat} {listed : Array Bool} {a : Go.Act} {w : World} {i : Nat} {rs : List Nat} {o : Oper}
 (h : ∀ K' : Go.Act → World → Prop, Shut (∀ a w, S w → (S w → wpAnyH P md ops Q S fuel (listed.setIfInBounds i true) a w) → K' a w) → if Region.wanted o (yielded ops a.tmps) = true then Oper.wp P o a w K' Q else K' (a.put o.dst undef) w)
 (hs : AllReadyH P md ops Q S fuel listed a w rs) (ho : ops[i]? = some o := by rfl) : AllReadyH P md ops Q S fuel listed a w (i :: rs) := AllReadyH.cons ho h hs
theorem r1L (i : Nat) {P : Program} {ops : Array Oper} {Q : Exit → Go.Act → World → Prop} {md : Region.Mode} {S : World → Prop} {fuel : Nat} {listed : Array Bool} {a : Go.Act} {w : World} {o : Oper} (ho : ops[i]? = some o)
 (h : ∀ K' : Go.Act → World → Prop, Shut (∀ a w, S w → (S w → wpAnyH P md ops Q S fuel (listed.setIfInBounds i true) a w) → K' a w) → if Region.wanted o (yielded ops a.tmps) = true then Oper.wp P o a w K' Q else K' (a.put o.dst undef) w)
 (hr : Region.ready md ops listed = [i] := by kernel_rfl) : wpAnyH P md ops Q S (fuel + 1) listed a w := wpAnyH_ready hr (by simp) (AllReadyH.cons ho h AllReadyH.nil)
theorem rnL {P : Program} {ops : Array Oper} {Q : Exit → Go.Act → World → Prop} {md : Region.Mode} {S : World → Prop} {fuel : Nat} {listed : Array Bool} {a : Go.Act} {w : World} : AllReadyH P md ops Q S fuel listed a w [] := AllReadyH.nil
theorem held_append {Pr : Program} {ops : Array Oper} {o : Oper} {l : List Value} {d : List Deferred} {w w' : World} {K' : Go.Act → World → Prop} {Q : Exit → Go.Act → World → Prop} {k : Nat} (hk : o.dst = some k) (hg : Region.wanted o (yielded ops l.toArray) = true)
 (s y : Operand) (ts : Array TypeId) (ho : o.op = .call { callee := .builtin .append, args := #[s, y], argTypes := ts }) (v1 v2 v' : Value) (h1 : Go.Act.eval ⟨l.toArray, d⟩ s = v1) (h2 : Go.Act.eval ⟨l.toArray, d⟩ y = v2)
 (hr : (Builtin.append_ ts o.type #[v1, v2]).run Pr w = .ok v' w') (h : K' ⟨(l.set k v').toArray, d⟩ w') : if Region.wanted o (yielded ops l.toArray) = true then Oper.wp Pr o ⟨l.toArray, d⟩ w K' Q else K' (Go.Act.put ⟨l.toArray, d⟩ o.dst undef) w := by
 have e : Go.Act.put ⟨l.toArray, d⟩ o.dst v' = ⟨(l.set k v').toArray, d⟩ := by rw [hk]; simp [Go.Act.put]
 rw [if_pos hg]
 unfold Oper.wp execOp
 simp only [ho, resolve, invoke, builtin, Sem.run_bind, Sem.run_pure, Result.andThen_ok, List.map_toArray, List.map_cons, List.map_nil, h1, h2, hr]
 rw [← e] at h
 exact h
theorem q0z {k : IntKind} {a b : Int} (h : a = b) : Ending.returned (.int k a) = .returned (.int k b) := by rw [h]
def idxZ {α : Type} (p : α → Bool) (l : List α) : Int := if l.any p = true then (l.findIdx p : Int) else -1
theorem qFJ {α : Type} {p : α → Bool} {l : List α} {k : Nat} (hk : k < l.length) (h : p l[k] = true) (hb : ∀ j (hj : j < l.length), j < k → p l[j] = false) : idxZ p l = (k : Int) := by
 unfold idxZ
 rw [if_pos (List.any_eq_true.2 ⟨l[k], List.getElem_mem hk, h⟩), (List.findIdx_eq hk).2 ⟨h, fun j hj => hb j (by omega) hj⟩]
theorem qFZ {α : Type} {p : α → Bool} {l : List α} (hb : ∀ j (hj : j < l.length), p l[j] = false) : idxZ p l = -1 := by
 unfold idxZ
 rw [if_neg]
 intro h
 obtain ⟨x, hx, hp⟩ := List.any_eq_true.1 h
 obtain ⟨j, hj, rfl⟩ := List.mem_iff_getElem.1 hx
 rw [hb j hj] at hp
 cases hp
theorem idxZ_ge {α : Type} {p : α → Bool} {l : List α} : decide (0 ≤ idxZ p l) = l.any p := by
 unfold idxZ
 by_cases h : l.any p = true
 · rw [if_pos h, h, decide_eq_true_eq]; omega
 · rw [if_neg h, Bool.eq_false_iff.2 h]; rfl
theorem qIJ (f : Nat) (bs : Array Value) (eg : ∀ args w, (callFunc f args).run Try.prog w = .ok (.enter f args) w) (w : World) (P : Nat → Prop) (a : Option Addr) (n c : Nat) (l : List Nmd) (hL : rNmds.rd w P [.slice a n c] l) (p : Nmd → Bool)
 (hf : ∀ w1, Below w.heap.size w w1 → ∀ y ∈ l, Calls Try.prog f ((fun y => #[.agg #[.int .i64 y.1, .string y.2]]) y ++ bs) w1 fun e w' => e = .returned (.bool (p y)) ∧ Below w1.heap.size w1 w') :
 Calls Try.prog 59 #[.slice a n c, .func (.func f) #[] bs] w fun e w' => e = .returned (.int .i64 (idxZ p l)) ∧ Below w.heap.size w w' := by
 obtain ⟨hl, hnc, hnil, hb⟩ := q0Q hL
 have hn : n ≤ 140737488351232 := by have : n * 24 ≤ 140737488351232 := hb; omega
 have HL : Hid (l.length = n) := hl
 have HR : Hid _ := hL
 have HF : Hid _ := hf
 clear hl hnc hnil hb hL hf
 go_enter Try.func59, Try.ntmps59
 go_wp2
 go_loopw [8] (fun i wr => ∃ k : Nat, k ≤ n ∧ i = .int .i64 k ∧ Hid (∀ j (h : j < l.length), j < k → p l[j] = false) ∧ Below w.heap.size w wr) (fun i _ => n - (intOf i).toNat)
 case atStart => exact ⟨0, Nat.zero_le _, rfl, (fun j _ h => by omega), Below.refl _ _⟩
 case round =>
  obtain ⟨k, hk, rfl, HK, bel⟩ := hrel
  by_cases hlt : k < n
  · have hkl : k < l.length := by rw [HL.out]; exact hlt
    obtain ⟨g, off, rfl, -, -, hat⟩ := q8Q (Rep.below HR.out bel) (by omega)
    obtain ⟨c0, c1, -, -⟩ := hat k hkl
    have hc := HF.out wr bel l[k] (List.getElem_mem hkl)
    have HHere : Hid (p l[k] = true → idxZ p l = (k : Int)) := fun h => qFJ hkl h HK.out
    have HNx : Hid (p l[k] = false → ∀ j (h : j < l.length), j < k + 1 → p l[j] = false) := fun h j hj hjk => by
     by_cases e : j = k
     · subst e; exact h
     · exact HK.out j hj (by omega)
    obtain ⟨X, hX⟩ : ∃ X, X = l[k] := ⟨_, rfl⟩
    rw [← hX] at c0 c1 hc HHere HNx
    have B : Hid _ := bel
    have hkz : (k : Int) < (n : Int) := by omega
    clear hX hat bel 
    cases hp : p X <;> rw [hp] at hc
    · have HN2 : Hid _ := HNx.out hp
      clear hp HNx HHere
      go_wp2_with (go_at_fn f; refine hc.mono ?_; rintro e w' ⟨rfl, hb⟩)
      go_roundw
      case rel => exact ⟨k + 1, by omega, by go_num, HN2, on B.out hb⟩
      case measure => simp [intOf]; omega
    · have HN2 : Hid _ := HHere.out hp
      clear hp HNx HHere
      go_wp2_with (go_at_fn f; refine hc.mono ?_; rintro e w' ⟨rfl, hb⟩)
      go_ret
      exact ⟨q0z HN2.out.symm, on B.out hb⟩
  · obtain rfl : k = n := by omega
    have HN2 : Hid (idxZ p l = -1) := qFZ (fun j hj => HK.out j hj (by rw [← HL.out]; exact hj))
    go_wp2
    go_ret
    exact ⟨q0z HN2.out.symm, bel⟩
theorem q7J (f : Nat) (bs : Array Value) (eg : ∀ args w, (callFunc f args).run Try.prog w = .ok (.enter f args) w) (w : World) (P : Nat → Prop) (a : Option Addr) (n c : Nat) (l : List Nmd) (hL : rNmds.rd w P [.slice a n c] l) (p : Nmd → Bool)
 (hf : ∀ w1, Below w.heap.size w w1 → ∀ y ∈ l, Calls Try.prog f ((fun y => #[.agg #[.int .i64 y.1, .string y.2]]) y ++ bs) w1 fun e w' => e = .returned (.bool (p y)) ∧ Below w1.heap.size w1 w') :
 Calls Try.prog 43 #[.slice a n c, .func (.func f) #[] bs] w fun e w' => e = .returned (.bool (l.any p)) ∧ Below w.heap.size w w' := by
 have HF : Hid _ := qIJ f bs eg w P a n c l hL p hf
 have HG : Hid _ := idxZ_ge (p := p) (l := l)
 generalize idxZ p l = r at *
 generalize l.any p = q at *
 clear hf hL
 go_enter Try.func43, Try.ntmps43
 go_wp2_with (go_at_call 59; refine Calls.mono HF.out ?_; rintro e w1 ⟨rfl, hb1⟩)
 go_ret
 refine ⟨?_, hb1⟩
 rw [← HG.out]
 rfl
theorem qIX (f : Nat) (bs : Array Value) (eg : ∀ args w, (callFunc f args).run Try.prog w = .ok (.enter f args) w) (w : World) (P : Nat → Prop) (a : Option Addr) (n c : Nat) (l : List UInt8) (hL : rBytes.rd w P [.slice a n c] l) (p : UInt8 → Bool)
 (hf : ∀ w1, Below w.heap.size w w1 → ∀ y ∈ l, Calls Try.prog f ((fun y => #[.int .u8 (y.toNat : Int)]) y ++ bs) w1 fun e w' => e = .returned (.bool (p y)) ∧ Below w1.heap.size w1 w') :
 Calls Try.prog 65 #[.slice a n c, .func (.func f) #[] bs] w fun e w' => e = .returned (.int .i64 (idxZ p l)) ∧ Below w.heap.size w w' := by
 obtain ⟨hl, hnc, hnil, hb⟩ := q0Q hL
 have hn : n ≤ 140737488351232 := by have : n * 1 ≤ 140737488351232 := hb; omega
 have HL : Hid (l.length = n) := hl
 have HR : Hid _ := hL
 have HF : Hid _ := hf
 clear hl hnc hnil hb hL hf
 go_enter Try.func65, Try.ntmps65
 go_wp2
 go_loopw [8] (fun i wr => ∃ k : Nat, k ≤ n ∧ i = .int .i64 k ∧ Hid (∀ j (h : j < l.length), j < k → p l[j] = false) ∧ Below w.heap.size w wr) (fun i _ => n - (intOf i).toNat)
 case atStart => exact ⟨0, Nat.zero_le _, rfl, (fun j _ h => by omega), Below.refl _ _⟩
 case round =>
  obtain ⟨k, hk, rfl, HK, bel⟩ := hrel
  by_cases hlt : k < n
  · have hkl : k < l.length := by rw [HL.out]; exact hlt
    obtain ⟨g, off, rfl, -, -, hat⟩ := q8q (Rep.below HR.out bel) (by omega)
    have c0 := hat k hkl
    have hc := HF.out wr bel l[k] (List.getElem_mem hkl)
    have HHere : Hid (p l[k] = true → idxZ p l = (k : Int)) := fun h => qFJ hkl h HK.out
    have HNx : Hid (p l[k] = false → ∀ j (h : j < l.length), j < k + 1 → p l[j] = false) := fun h j hj hjk => by
     by_cases e : j = k
     · subst e; exact h
     · exact HK.out j hj (by omega)
    obtain ⟨X, hX⟩ : ∃ X, X = l[k] := ⟨_, rfl⟩
    rw [← hX] at c0 hc HHere HNx
    have B : Hid _ := bel
    have hkz : (k : Int) < (n : Int) := by omega
    clear hX hat bel 
    cases hp : p X <;> rw [hp] at hc
    · have HN2 : Hid _ := HNx.out hp
      clear hp HNx HHere
      go_wp2_with (go_at_fn f; refine hc.mono ?_; rintro e w' ⟨rfl, hb⟩)
      go_roundw
      case rel => exact ⟨k + 1, by omega, by go_num, HN2, on B.out hb⟩
      case measure => simp [intOf]; omega
    · have HN2 : Hid _ := HHere.out hp
      clear hp HNx HHere
      go_wp2_with (go_at_fn f; refine hc.mono ?_; rintro e w' ⟨rfl, hb⟩)
      go_ret
      exact ⟨q0z HN2.out.symm, on B.out hb⟩
  · obtain rfl : k = n := by omega
    have HN2 : Hid (idxZ p l = -1) := qFZ (fun j hj => HK.out j hj (by rw [← HL.out]; exact hj))
    go_wp2
    go_ret
    exact ⟨q0z HN2.out.symm, bel⟩
theorem qDx (f : Nat) (bs : Array Value) (eg : ∀ args w, (callFunc f args).run Try.prog w = .ok (.enter f args) w) (w : World) (P : Nat → Prop) (a : Option Addr) (n c : Nat) (l : List UInt8) (hL : rBytes.rd w P [.slice a n c] l) (p : UInt8 → Bool)
 (hf : ∀ w1, Below w.heap.size w w1 → ∀ y ∈ l, Calls Try.prog f ((fun y => #[.int .u8 (y.toNat : Int)]) y ++ bs) w1 fun e w' => e = .returned (.bool (p y)) ∧ Below w1.heap.size w1 w') :
 Calls Try.prog 63 #[.slice a n c, .func (.func f) #[] bs] w fun e w' => e = .returned (.bool (l.any p)) ∧ Below w.heap.size w w' := by
 have HF : Hid _ := qIX f bs eg w P a n c l hL p hf
 have HG : Hid _ := idxZ_ge (p := p) (l := l)
 generalize idxZ p l = r at *
 generalize l.any p = q at *
 clear hf hL
 go_enter Try.func63, Try.ntmps63
 go_wp2_with (go_at_call 65; refine Calls.mono HF.out ?_; rintro e w1 ⟨rfl, hb1⟩)
 go_ret
 refine ⟨?_, hb1⟩
 rw [← HG.out]
 rfl
theorem qBj (f : Nat) (bs : Array Value) (eg : ∀ args w, (callFunc f args).run Try.prog w = .ok (.enter f args) w) (w : World) (P : Nat → Prop) (a : Option Addr) (n c : Nat) (l : List Snp) (hL : rSnps.rd w P [.slice a n c] l) (p : Snp → Bool)
 (hf : ∀ w1, Below w.heap.size w w1 → ∀ y ∈ l, ∀ v : Value, rSectors.rd w1 P [v] y.2.2 → Calls Try.prog f (#[.agg #[.int .i64 y.1, .string y.2.1, v]] ++ bs) w1 fun e w' => e = .returned (.bool (p y)) ∧ Below w1.heap.size w1 w') :
 Calls Try.prog 51 #[.slice a n c, .func (.func f) #[] bs] w fun e w' => e = .returned (.int .i64 (idxZ p l)) ∧ Below w.heap.size w w' := by
 obtain ⟨hl, hnc, hnil, hb⟩ := q0Q hL
 have hn : n ≤ 140737488351232 := by have : n * 48 ≤ 140737488351232 := hb; omega
 have HL : Hid (l.length = n) := hl
 have HR : Hid _ := hL
 have HF : Hid _ := hf
 clear hl hnc hnil hb hL hf
 go_enter Try.func51, Try.ntmps51
 go_wp2
 go_loopw [8] (fun i wr => ∃ k : Nat, k ≤ n ∧ i = .int .i64 k ∧ Hid (∀ j (h : j < l.length), j < k → p l[j] = false) ∧ Below w.heap.size w wr) (fun i _ => n - (intOf i).toNat)
 case atStart => exact ⟨0, Nat.zero_le _, rfl, (fun j _ h => by omega), Below.refl _ _⟩
 case round =>
  obtain ⟨k, hk, rfl, HK, bel⟩ := hrel
  by_cases hlt : k < n
  · have hkl : k < l.length := by rw [HL.out]; exact hlt
    obtain ⟨g, off, rfl, -, -, hat⟩ := q1J (Rep.below HR.out bel) (by omega)
    obtain ⟨sx, sm, sd, hsx, -, c0, c1, c2, -, -⟩ := hat k hkl
    have hc := HF.out wr bel l[k] (List.getElem_mem hkl) _ hsx
    have HHere : Hid (p l[k] = true → idxZ p l = (k : Int)) := fun h => qFJ hkl h HK.out
    have HNx : Hid (p l[k] = false → ∀ j (h : j < l.length), j < k + 1 → p l[j] = false) := fun h j hj hjk => by
     by_cases e : j = k
     · subst e; exact h
     · exact HK.out j hj (by omega)
    obtain ⟨X, hX⟩ : ∃ X, X = l[k] := ⟨_, rfl⟩
    rw [← hX] at c0 c1 hc HHere HNx
    have B : Hid _ := bel
    have hkz : (k : Int) < (n : Int) := by omega
    clear hX hat bel hsx
    cases hp : p X <;> rw [hp] at hc
    · have HN2 : Hid _ := HNx.out hp
      clear hp HNx HHere
      go_wp2_with (go_at_fn f; refine hc.mono ?_; rintro e w' ⟨rfl, hb⟩)
      go_roundw
      case rel => exact ⟨k + 1, by omega, by go_num, HN2, on B.out hb⟩
      case measure => simp [intOf]; omega
    · have HN2 : Hid _ := HHere.out hp
      clear hp HNx HHere
      go_wp2_with (go_at_fn f; refine hc.mono ?_; rintro e w' ⟨rfl, hb⟩)
      go_ret
      exact ⟨q0z HN2.out.symm, on B.out hb⟩
  · obtain rfl : k = n := by omega
    have HN2 : Hid (idxZ p l = -1) := qFZ (fun j hj => HK.out j hj (by rw [← HL.out]; exact hj))
    go_wp2
    go_ret
    exact ⟨q0z HN2.out.symm, bel⟩
abbrev I64 (x : Int) : Prop := -9223372036854775808 ≤ x ∧ x ≤ 9223372036854775807
theorem q5Z {b c : Bool} (h : b = c) : Ending.returned (.bool b) = .returned (.bool c) := by rw [h]
theorem num10_u (n : Int) (w : World) : Calls Try.prog 15 #[.int .i64 n] w fun e w' => e = .returned (.int .i64 n) ∧ w = w' := by
 go_enter Try.func15, Try.ntmps15
 go_wp2
 go_ret
 exact ⟨rfl, rfl⟩
theorem q8J (n : Int) (w : World) (b : Bool) (hb : decide (0 ≤ n ∧ n ≤ 65536) = b) : Calls Try.prog 39 #[.int .i64 n] w fun e w' => e = .returned (.bool b) ∧ w = w' := by
 have HB : Hid _ := hb
 clear hb
 by_cases h1 : 0 ≤ n
 · by_cases h2 : n ≤ 65536
   · have HV : Hid (true = b) := by unfold Hid; rw [← HB.out]; symm; rw [decide_eq_true_eq]; omega
     go_enter Try.func39, Try.ntmps39
     go_wp2
     go_ret
     exact ⟨q5Z HV.out, rfl⟩
   · have HV : Hid (false = b) := by unfold Hid; rw [← HB.out]; symm; rw [decide_eq_false_iff_not]; omega
     go_enter Try.func39, Try.ntmps39
     go_wp2
     go_ret
     exact ⟨q5Z HV.out, rfl⟩
 · have HV : Hid (false = b) := by unfold Hid; rw [← HB.out]; symm; rw [decide_eq_false_iff_not]; omega
   go_enter Try.func39, Try.ntmps39
   go_wp2
   go_ret
   exact ⟨q5Z HV.out, rfl⟩
theorem q4J (s : ByteArray) (hs : s.size ≤ maxLen) (w : World) (b : Bool) (hb : Mo.okName s = b) : Calls Try.prog 36 #[.string s] w fun e w' => e = .returned (.bool b) ∧ w = w' := by
 have HB : Hid _ := hb
 unfold maxLen at hs
 clear hb
 by_cases h1 : 1 ≤ s.size
 · have h1z : (1 : Int) ≤ (s.size : Int) := by omega
   by_cases h2 : s.size ≤ 16
   · have h2z : (s.size : Int) ≤ 16 := by omega
     go_enter Try.func36, Try.ntmps36
     go_wp2
     go_ret
     exact ⟨q5Z (by rw [← HB.out]; simp [Mo.okName, h1, h2]), rfl⟩
   · have h2z : ¬ (s.size : Int) ≤ 16 := by omega
     go_enter Try.func36, Try.ntmps36
     go_wp2
     go_ret
     exact ⟨q5Z (by rw [← HB.out]; simp [Mo.okName, h1, h2]), rfl⟩
 · have h1z : ¬ (1 : Int) ≤ (s.size : Int) := by omega
   go_enter Try.func36, Try.ntmps36
   go_wp2
   go_ret
   exact ⟨q5Z (by rw [← HB.out]; simp [Mo.okName, h1]), rfl⟩
theorem zeroAsk_u (y : UInt8) (w : World) : Calls Try.prog 64 (#[.int .u8 (y.toNat : Int)] ++ #[]) w fun e w' => e = .returned (.bool (decide (y ≠ 0))) ∧ Below w.heap.size w w' := by
 show Calls Try.prog 64 #[.int .u8 (y.toNat : Int)] w _
 by_cases h : y = 0
 · subst h
   go_enter Try.func64, Try.ntmps64
   go_wp2
   go_ret
   exact ⟨rfl, Below.refl _ _⟩
 · have hz : ¬ (y.toNat : Int) = 0 := fun e => h (UInt8.toNat_inj.1 (by rw [show (0 : UInt8).toNat = 0 from rfl]; omega))
   have HH : Hid (true = decide (y ≠ 0)) := by unfold Hid; rw [decide_eq_true h]
   clear h
   go_enter Try.func64, Try.ntmps64
   go_wp2
   go_ret
   exact ⟨q5Z (by rw [← HH.out]; exact bne_iff_ne.2 hz), Below.refl _ _⟩
theorem allZ_any (l : List UInt8) : Mo.allZ l = !l.any (fun y => decide (y ≠ 0)) := by
 unfold Mo.allZ
 rw [List.all_eq_not_any_not]
 simp
theorem q7q (w : World) (P : Nat → Prop) (a : Option Addr) (n c : Nat) (l : List UInt8) (hL : rBytes.rd w P [.slice a n c] l) (b : Bool) (hb : Mo.allZ l = b) :
 Calls Try.prog 56 #[.slice a n c] w fun e w' => e = .returned (.bool b) ∧ Below w.heap.size w w' := by
 have HB : Hid (b = !l.any (fun y => decide (y ≠ 0))) := by unfold Hid; rw [← hb, allZ_any]
 have HF : Hid _ := qDx 64 #[] (fun _ _ => rfl) w P a n c l hL (fun y => decide (y ≠ 0)) (fun w1 _ y _ => zeroAsk_u y w1)
 clear hb hL
 generalize l.any (fun y => decide (y ≠ 0)) = q at *
 go_enter Try.func56, Try.ntmps56
 go_wp2_with (go_at_call 63; refine Calls.mono HF.out ?_; rintro e w1 ⟨rfl, b1⟩)
 go_ret
 exact ⟨q5Z HB.out.symm, b1⟩
theorem fits_u (size at' n : Int) (h1 : I64 size) (h2 : I64 at') (h3 : I64 n) (w : World) (b : Bool) (hb : decide (Mo.fits size at' n) = b) : Calls Try.prog 57 #[.int .i64 size, .int .i64 at', .int .i64 n] w fun e w' => e = .returned (.bool b) ∧ w = w' := by
 have HB : Hid _ := hb
 clear hb
 obtain ⟨s1, s2⟩ := h1
 obtain ⟨a1, a2⟩ := h2
 obtain ⟨n1, n2⟩ := h3
 by_cases q1 : 0 ≤ at'
 · by_cases q2 : 0 ≤ n
   · by_cases q3 : n ≤ size
     · have e1 : IntKind.i64.wrap (size - n) = size - n := by rw [IntKind.wrap_i64]; omega
       by_cases q4 : at' ≤ size - n
       · have HV : Hid (true = b) := by unfold Hid; rw [← HB.out]; symm; rw [decide_eq_true_eq]; exact ⟨q1, q2, q3, q4⟩
         go_enter Try.func57, Try.ntmps57
         go_wp2
         go_ret
         exact ⟨q5Z HV.out, rfl⟩
       · have HV : Hid (false = b) := by unfold Hid; rw [← HB.out]; symm; rw [decide_eq_false_iff_not]; rintro ⟨_, _, _, _⟩; omega
         go_enter Try.func57, Try.ntmps57
         go_wp2
         go_ret
         exact ⟨q5Z HV.out, rfl⟩
     · have HV : Hid (false = b) := by unfold Hid; rw [← HB.out]; symm; rw [decide_eq_false_iff_not]; rintro ⟨_, _, _, _⟩; omega
       go_enter Try.func57, Try.ntmps57
       go_wp2
       go_ret
       exact ⟨q5Z HV.out, rfl⟩
   · have HV : Hid (false = b) := by unfold Hid; rw [← HB.out]; symm; rw [decide_eq_false_iff_not]; rintro ⟨_, _, _, _⟩; omega
     go_enter Try.func57, Try.ntmps57
     go_wp2
     go_ret
     exact ⟨q5Z HV.out, rfl⟩
 · have HV : Hid (false = b) := by unfold Hid; rw [← HB.out]; symm; rw [decide_eq_false_iff_not]; rintro ⟨_, _, _, _⟩; omega
   go_enter Try.func57, Try.ntmps57
   go_wp2
   go_ret
   exact ⟨q5Z HV.out, rfl⟩
theorem q5z (size at' n : Int) (h1 : I64 size) (h2 : I64 at') (h3 : I64 n) (w : World) (b : Bool) (hb : decide (Mo.fits size at' n) = b) : Calls Try.prog 45 #[.int .i64 size, .int .i64 at', .int .i64 n] w fun e w' => e = .returned (.bool b) ∧ w = w' := by
 have HB : Hid _ := hb
 clear hb
 obtain ⟨s1, s2⟩ := h1
 obtain ⟨a1, a2⟩ := h2
 obtain ⟨n1, n2⟩ := h3
 by_cases q1 : 0 ≤ at'
 · by_cases q2 : 0 ≤ n
   · by_cases q3 : at' ≤ size
     · have e1 : IntKind.i64.wrap (size - at') = size - at' := by rw [IntKind.wrap_i64]; omega
       by_cases q4 : n ≤ size - at'
       · have HV : Hid (true = b) := by unfold Hid; rw [← HB.out]; symm; rw [decide_eq_true_eq]; exact ⟨q1, q2, by omega, by omega⟩
         go_enter Try.func45, Try.ntmps45
         go_wp2
         go_ret
         exact ⟨q5Z HV.out, rfl⟩
       · have HV : Hid (false = b) := by unfold Hid; rw [← HB.out]; symm; rw [decide_eq_false_iff_not]; rintro ⟨_, _, _, _⟩; omega
         go_enter Try.func45, Try.ntmps45
         go_wp2
         go_ret
         exact ⟨q5Z HV.out, rfl⟩
     · have HV : Hid (false = b) := by unfold Hid; rw [← HB.out]; symm; rw [decide_eq_false_iff_not]; rintro ⟨_, _, _, _⟩; omega
       go_enter Try.func45, Try.ntmps45
       go_wp2
       go_ret
       exact ⟨q5Z HV.out, rfl⟩
   · have HV : Hid (false = b) := by unfold Hid; rw [← HB.out]; symm; rw [decide_eq_false_iff_not]; rintro ⟨_, _, _, _⟩; omega
     go_enter Try.func45, Try.ntmps45
     go_wp2
     go_ret
     exact ⟨q5Z HV.out, rfl⟩
 · have HV : Hid (false = b) := by unfold Hid; rw [← HB.out]; symm; rw [decide_eq_false_iff_not]; rintro ⟨_, _, _, _⟩; omega
   go_enter Try.func45, Try.ntmps45
   go_wp2
   go_ret
   exact ⟨q5Z HV.out, rfl⟩
theorem qHz (len : Nat) : ((len : Int) / 64 = ((len / 64 : Nat) : Int)) ∧ ((len : Int) % 64 = ((len % 64 : Nat) : Int)) := ⟨by omega, by omega⟩
theorem mayWrite_u (size at' : Int) (len : Nat) (h1 : I64 size) (h2 : I64 at') (hl : len ≤ 140737488355328) (w : World) : Calls Try.prog 40 #[.int .i64 size, .int .i64 at', .int .i64 (len : Int)] w fun e w' => e = .returned (.int .i64 (Mo.writeE size at' len)) ∧ w = w' := by
 obtain ⟨E, hE⟩ : ∃ E, E = Mo.writeE size at' len := ⟨_, rfl⟩
 rw [← hE]
 have HE : Hid _ := hE
 clear hE
 obtain ⟨f1, f2⟩ := qHz len
 obtain ⟨q, hq⟩ : ∃ q, q = len / 64 := ⟨_, rfl⟩
 obtain ⟨m, hm⟩ : ∃ m, m = len % 64 := ⟨_, rfl⟩
 rw [← hq] at f1
 rw [← hm] at f2
 have HQ : Hid (len = q * 64 + m) := by unfold Hid; omega
 have hq2 : q ≤ 2199023255552 := by omega
 have HQ1 : Hid (q = len / 64) := hq
 have HM1 : Hid (m = len % 64) := hm
 clear hq hm
 have HOne : Hid (q < 1 ∨ m ≠ 0 ∨ 64 < q → E = 1) := fun h => by
  rw [HE.out]; unfold Mo.writeE
  rw [if_pos (by have h2 := HQ.out; have h3 := HQ1.out; have h4 := HM1.out; unfold Hid at h2 h3 h4; omega)]
 by_cases q1 : q < 1
 · have q1z : (q : Int) < 1 := by omega
   have HR : Hid (E = 1) := HOne.out (.inl q1)
   go_enter Try.func40, Try.ntmps40
   go_wp2
   go_ret
   exact ⟨q0z HR.out.symm, rfl⟩
 · have q1z : ¬ (q : Int) < 1 := by omega
   by_cases q2 : m = 0
   · have f3 : (len : Int) % 64 = 0 := by omega
     clear f2
     by_cases q3 : 64 < q
     · have q3z : (64 : Int) < (q : Int) := by omega
       have HR : Hid (E = 1) := HOne.out (.inr (.inr q3))
       go_enter Try.func40, Try.ntmps40
       go_wp2
       go_ret
       exact ⟨q0z HR.out.symm, rfl⟩
     · have q3z : ¬ (64 : Int) < (q : Int) := by omega
       have HV : Hid (E = if Mo.fits size at' (q : Int) then 0 else 4) := by
        unfold Hid
        rw [HE.out]; unfold Mo.writeE
        have h2 := HQ.out; have h3 := HQ1.out; have h4 := HM1.out; unfold Hid at h2 h3 h4
        rw [if_neg (by omega), ← h3]
       by_cases q4 : Mo.fits size at' (q : Int)
       · have HR : Hid (E = 0) := by unfold Hid; rw [HV.out, if_pos q4]
         have HF : Hid (decide (Mo.fits size at' (q : Int)) = true) := decide_eq_true q4
         clear q4
         go_enter Try.func40, Try.ntmps40
         go_wp2_with (go_at_call 57; refine Calls.mono (fits_u _ _ _ h1 h2 (by constructor <;> omega) _ true HF.out) ?_; rintro e w1 ⟨rfl, rfl⟩)
         go_ret
         exact ⟨q0z HR.out.symm, rfl⟩
       · have HR : Hid (E = 4) := by unfold Hid; rw [HV.out, if_neg q4]
         have HF : Hid (decide (Mo.fits size at' (q : Int)) = false) := decide_eq_false q4
         clear q4
         go_enter Try.func40, Try.ntmps40
         go_wp2_with (go_at_call 57; refine Calls.mono (fits_u _ _ _ h1 h2 (by constructor <;> omega) _ false HF.out) ?_; rintro e w1 ⟨rfl, rfl⟩)
         go_ret
         exact ⟨q0z HR.out.symm, rfl⟩
   · have q2z : ¬ (m : Int) = 0 := by omega
     have HR : Hid (E = 1) := HOne.out (.inr (.inl q2))
     go_enter Try.func40, Try.ntmps40
     go_wp2
     go_ret
     exact ⟨q0z HR.out.symm, rfl⟩
theorem qHJ (size at' n : Int) (h1 : I64 size) (h2 : I64 at') (h3 : I64 n) (w : World) : Calls Try.prog 41 #[.int .i64 size, .int .i64 at', .int .i64 n] w fun e w' => e = .returned (.int .i64 (Mo.touchE size at' n)) ∧ w = w' := by
 obtain ⟨E, hE⟩ : ∃ E, E = Mo.touchE size at' n := ⟨_, rfl⟩
 rw [← hE]
 have HE : Hid (E = if Mo.fits size at' n then (if 64 < n then 5 else 0) else 4) := hE
 clear hE
 by_cases q4 : Mo.fits size at' n
 · have HF : Hid (decide (Mo.fits size at' n) = true) := decide_eq_true q4
   have HV : Hid (E = if 64 < n then 5 else 0) := by unfold Hid; rw [HE.out, if_pos q4]
   clear q4
   by_cases q5 : 64 < n
   · have HR : Hid (E = 5) := by unfold Hid; rw [HV.out, if_pos q5]
     go_enter Try.func41, Try.ntmps41
     go_wp2_with (go_at_call 57; refine Calls.mono (fits_u _ _ _ h1 h2 h3 _ true HF.out) ?_; rintro e w1 ⟨rfl, rfl⟩)
     go_ret
     exact ⟨q0z HR.out.symm, rfl⟩
   · have HR : Hid (E = 0) := by unfold Hid; rw [HV.out, if_neg q5]
     go_enter Try.func41, Try.ntmps41
     go_wp2_with (go_at_call 57; refine Calls.mono (fits_u _ _ _ h1 h2 h3 _ true HF.out) ?_; rintro e w1 ⟨rfl, rfl⟩)
     go_ret
     exact ⟨q0z HR.out.symm, rfl⟩
 · have HF : Hid (decide (Mo.fits size at' n) = false) := decide_eq_false q4
   have HR : Hid (E = 4) := by unfold Hid; rw [HE.out, if_neg q4]
   clear q4
   go_enter Try.func41, Try.ntmps41
   go_wp2_with (go_at_call 57; refine Calls.mono (fits_u _ _ _ h1 h2 h3 _ false HF.out) ?_; rintro e w1 ⟨rfl, rfl⟩)
   go_ret
   exact ⟨q0z HR.out.symm, rfl⟩
theorem idAsk_u (w : World) (B : Nat) (x : Opn) (v : Value) (V : Row w B 33 [.int .i64 x.1, .int .i64 x.2.1, .int .i64 x.2.2.1, .int .i64 x.2.2.2.1, .string x.2.2.2.2.1, v]) (y : Nmd) :
 Calls Try.prog 44 (#[.agg #[.int .i64 y.1, .string y.2]] ++ #[.pointer (some ⟨B, 0, none⟩)]) w fun e w' => e = .returned (.bool (decide (y.1 = Mo.idO x))) ∧ Below w.heap.size w w' := by
 show Calls Try.prog 44 #[.agg #[.int .i64 y.1, .string y.2], .pointer (some ⟨B, 0, none⟩)] w _
 obtain ⟨w0, hw0, V0, b0, z0⟩ := q0q w 55 [.int .i64 y.1, .string y.2]
 have c3 := (V.below b0).cell (j := 3) rfl
 have d0 := V0.cell (j := 0) rfl
 have HV : Hid (Mo.idO x = x.2.2.2.1) := rfl
 rw [HV.out]
 generalize x.2.2.2.1 = id at *
 clear V V0 z0
 go_enter Try.func44, Try.ntmps44
 go_wp2
 all_goals go_ret
 all_goals exact ⟨rfl, b0⟩
theorem loopL (b : ByteArray) : ∀ (n i : Nat) (r : List UInt8), b.size - i = n → ByteArray.toList.loop b i r = r.reverse ++ (b.data.toList.drop i) := by
 intro n
 induction n with
 | zero =>
   intro i r h
   unfold ByteArray.toList.loop
   rw [if_neg (by omega), List.drop_of_length_le (by have : b.data.toList.length = b.size := rfl; omega), List.append_nil]
 | succ n ih =>
   intro i r h
   unfold ByteArray.toList.loop
   rw [if_pos (by omega), ih (i + 1) _ (by omega)]
   have hl : i < b.data.toList.length := by have : b.data.toList.length = b.size := rfl; omega
   rw [List.drop_eq_getElem_cons hl]
   have : b.get! i = b.data.toList[i] := by
    show b.data[i]! = _
    rw [getElem!_pos b.data i (by simpa using hl)]; rfl
   rw [this]; simp
theorem toListB (b : ByteArray) : b.toList = b.data.toList := by
 unfold ByteArray.toList
 rw [loopL b b.size 0 [] (by omega)]; rfl
theorem eqB (a b : ByteArray) : (a.toList == b.toList) = decide (a = b) := by
 rw [toListB, toListB, Bool.eq_iff_iff, beq_iff_eq, decide_eq_true_eq, Array.toList_inj]
 exact ⟨fun h => ByteArray.ext h, fun h => by rw [h]⟩
theorem nameAsk_u (w : World) (B : Nat) (nm : ByteArray) (V : Row w B 9 [.string nm]) (y : Nmd) :
 Calls Try.prog 58 (#[.agg #[.int .i64 y.1, .string y.2]] ++ #[.pointer (some ⟨B, 0, none⟩)]) w fun e w' => e = .returned (.bool (decide (y.2 = nm))) ∧ Below w.heap.size w w' := by
 show Calls Try.prog 58 #[.agg #[.int .i64 y.1, .string y.2], .pointer (some ⟨B, 0, none⟩)] w _
 obtain ⟨w0, hw0, V0, b0, z0⟩ := q0q w 55 [.int .i64 y.1, .string y.2]
 have c3 := (V.below b0).cell (j := 0) rfl
 have d0 := V0.cell (j := 1) rfl
 clear V V0 z0
 go_enter Try.func58, Try.ntmps58
 go_wp2
 all_goals go_ret
 exact ⟨q5Z (eqB _ _), b0⟩
theorem mayTake_u (w : World) (P : Nat → Prop) (a : Option Addr) (n c : Nat) (l : List Nmd) (hL : rNmds.rd w P [.slice a n c] l) (next : Int) (nm : ByteArray) (hs : nm.size ≤ maxLen) :
 Calls Try.prog 42 #[.slice a n c, .int .i64 next, .string nm] w fun e w' => e = .returned (.int .i64 (Mo.takeE l next nm)) ∧ Below w.heap.size w w' := by
 obtain ⟨E, hE⟩ : ∃ E, E = Mo.takeE l next nm := ⟨_, rfl⟩
 rw [← hE]
 have HE : Hid (E = if Mo.okName nm then (if l.any (fun y => decide (y.2 = nm)) then 6 else if 8 ≤ l.length ∨ 255 ≤ next then 3 else 0) else 1) := hE
 have HL : Hid (l.length = n) := (q0Q hL).1
 obtain ⟨w0, hw0, V0, b0, z0⟩ := q0q w 9 [.string nm]
 have B0 : Hid _ := b0
 have HF : Hid _ := q7J 58 #[.pointer (some ⟨w.heap.size, 0, none⟩)] (fun _ _ => rfl) w0 P a n c l (Rep.below hL b0) (fun y => decide (y.2 = nm)) (fun w1 b1 y _ => nameAsk_u w1 w.heap.size nm (V0.below b1) y)
 have d0 := V0.cell (j := 0) rfl
 clear hE hL V0 z0 b0
 cases hk : Mo.okName nm with
 | false =>
   have HK : Hid _ := hk
   have HR : Hid (E = 1) := by unfold Hid; rw [HE.out, hk]; rfl
   clear hk
   go_enter Try.func42, Try.ntmps42
   go_wp2_with (go_at_call 36; refine Calls.mono (q4J nm hs _ false HK.out) ?_; rintro e w1 ⟨rfl, rfl⟩)
   go_ret
   exact ⟨q0z HR.out.symm, B0.out⟩
 | true =>
   have HK : Hid _ := hk
   have HV : Hid (E = if l.any (fun y => decide (y.2 = nm)) then 6 else if 8 ≤ l.length ∨ 255 ≤ next then 3 else 0) := by unfold Hid; rw [HE.out, hk]; rfl
   clear hk
   cases hq : l.any (fun y => decide (y.2 = nm)) with
   | true =>
     rw [hq] at HF
     have HR : Hid (E = 6) := by unfold Hid; rw [HV.out, hq]; rfl
     clear hq
     go_enter Try.func42, Try.ntmps42
     go_wp2_with first | (go_at_call 36; refine Calls.mono (q4J nm hs _ true HK.out) ?_; rintro e w1 ⟨rfl, rfl⟩) | (go_at_call 43; refine Calls.mono HF.out ?_; rintro e w1 ⟨rfl, b1⟩)
     go_ret
     exact ⟨q0z HR.out.symm, on B0.out b1⟩
   | false =>
     rw [hq] at HF
     have HV2 : Hid (E = if 8 ≤ n ∨ 255 ≤ next then 3 else 0) := by unfold Hid; rw [HV.out, hq, HL.out]; rfl
     clear hq
     by_cases h8 : 8 ≤ n
     · have h8z : (8 : Int) ≤ (n : Int) := by omega
       have HR : Hid (E = 3) := by unfold Hid; rw [HV2.out, if_pos (.inl h8)]
       go_enter Try.func42, Try.ntmps42
       go_wp2_with first | (go_at_call 36; refine Calls.mono (q4J nm hs _ true HK.out) ?_; rintro e w1 ⟨rfl, rfl⟩) | (go_at_call 43; refine Calls.mono HF.out ?_; rintro e w1 ⟨rfl, b1⟩)
       go_ret
       exact ⟨q0z HR.out.symm, on B0.out b1⟩
     · have h8z : ¬ (8 : Int) ≤ (n : Int) := by omega
       by_cases hn : 255 ≤ next
       · have HR : Hid (E = 3) := by unfold Hid; rw [HV2.out, if_pos (.inr hn)]
         go_enter Try.func42, Try.ntmps42
         go_wp2_with first | (go_at_call 36; refine Calls.mono (q4J nm hs _ true HK.out) ?_; rintro e w1 ⟨rfl, rfl⟩) | (go_at_call 43; refine Calls.mono HF.out ?_; rintro e w1 ⟨rfl, b1⟩)
         go_ret
         exact ⟨q0z HR.out.symm, on B0.out b1⟩
       · have HR : Hid (E = 0) := by unfold Hid; rw [HV2.out, if_neg (by omega)]
         go_enter Try.func42, Try.ntmps42
         go_wp2_with first | (go_at_call 36; refine Calls.mono (q4J nm hs _ true HK.out) ?_; rintro e w1 ⟨rfl, rfl⟩) | (go_at_call 43; refine Calls.mono HF.out ?_; rintro e w1 ⟨rfl, b1⟩)
         go_ret
         exact ⟨q0z HR.out.symm, on B0.out b1⟩
set_option maxRecDepth 20000 in
theorem may_u (w : World) (P : Nat → Prop) (a : Option Addr) (n c : Nat) (l : List Nmd) (hL : rNmds.rd w P [.slice a n c] l) (size next : Int) (h1 : I64 size) (x : Opn) (xa : Option Addr) (xn xc : Nat) (hX : rOpn.rd w P [.int .i64 x.1, .int .i64 x.2.1, .int .i64 x.2.2.1, .int .i64 x.2.2.2.1, .string x.2.2.2.2.1, .slice xa xn xc] x) :
 Calls Try.prog 22 #[.int .i64 size, .slice a n c, .int .i64 next, .agg #[.int .i64 x.1, .int .i64 x.2.1, .int .i64 x.2.2.1, .int .i64 x.2.2.2.1, .string x.2.2.2.2.1, .slice xa xn xc]] w fun e w' => e = .returned (.int .i64 (Mo.mayE size l next x)) ∧ Below w.heap.size w w' := by
 obtain ⟨a', n', c', e, hD, -, h2, h3, h4, hs⟩ := q1X hX
 simp only [List.cons.injEq, Value.slice.injEq, and_true, true_and] at e
 obtain ⟨rfl, rfl, rfl⟩ := e
 obtain ⟨E, hE⟩ : ∃ E, E = Mo.mayE size l next x := ⟨_, rfl⟩
 rw [← hE]
 have HE : Hid _ := hE
 have hlen : x.2.2.2.2.2.length = xn := (q0Q hD).1
 have hxn : xn ≤ 140737488355328 := by have : xn * 1 ≤ 140737488351232 := (q0Q hD).2.2.2; omega
 obtain ⟨w0, hw0, V0, b0, z0⟩ := q0q w 33 [.int .i64 x.1, .int .i64 x.2.1, .int .i64 x.2.2.1, .int .i64 x.2.2.2.1, .string x.2.2.2.2.1, .slice xa xn xc]
 have B0 : Hid _ := b0
 have HL0 : Hid (rNmds.rd w0 P [.slice a n c] l) := Rep.below hL b0
 have HF : Hid _ := q7J 44 #[.pointer (some ⟨w.heap.size, 0, none⟩)] (fun _ _ => rfl) w0 P a n c l HL0.out (fun y => decide (y.1 = Mo.idO x)) (fun w1 b1 y _ => idAsk_u w1 w.heap.size x (.slice xa xn xc) (V0.below b1) y)
 have d0 := V0.cell (j := 0) rfl
 have d1 := V0.cell (j := 1) rfl
 have d2 := V0.cell (j := 2) rfl
 have d4 := V0.cell (j := 4) rfl
 have d5 := V0.cell (j := 5) rfl
 obtain ⟨K, at', N, id, nm, dt⟩ := x
 simp only at h2 h3 h4 hs hlen d0 d1 d2 d4 d5 hX ⊢
 have HLen : Hid (dt.length = xn) := hlen
 have HS : Hid (nm.size ≤ maxLen) := hs
 have HI2 : Hid (I64 at') := h2
 have HI3 : Hid (I64 N) := h3
 have HI1 : Hid (I64 size) := h1
 clear hE hL V0 z0 b0 hD hX hlen hs h1 h2 h3 h4
 by_cases q1 : K = 1
 · subst q1
   have HR : Hid (Mo.writeE size at' xn = E) := by unfold Hid; rw [HE.out]; show _ = Mo.writeE size at' dt.length; rw [HLen.out]
   go_enter Try.func22, Try.ntmps22
   go_wp2_with (go_at_call 40; refine Calls.mono (mayWrite_u size at' xn HI1.out HI2.out hxn _) ?_; rintro e w1 ⟨rfl, rfl⟩)
   go_ret
   exact ⟨q0z HR.out, B0.out⟩
 by_cases q2 : K = 2
 · subst q2
   have HR : Hid (Mo.touchE size at' N = E) := by unfold Hid; rw [HE.out]; rfl
   go_enter Try.func22, Try.ntmps22
   go_wp2_with (go_at_call 41; refine Calls.mono (qHJ size at' N HI1.out HI2.out HI3.out _) ?_; rintro e w1 ⟨rfl, rfl⟩)
   go_ret
   exact ⟨q0z HR.out, B0.out⟩
 by_cases q3 : K = 3
 · subst q3
   have HR : Hid (Mo.touchE size at' N = E) := by unfold Hid; rw [HE.out]; rfl
   go_enter Try.func22, Try.ntmps22
   go_wp2_with (go_at_call 41; refine Calls.mono (qHJ size at' N HI1.out HI2.out HI3.out _) ?_; rintro e w1 ⟨rfl, rfl⟩)
   go_ret
   exact ⟨q0z HR.out, B0.out⟩
 by_cases q4 : K = 4
 · subst q4
   have HR : Hid (Mo.takeE l next nm = E) := by unfold Hid; rw [HE.out]; rfl
   go_enter Try.func22, Try.ntmps22
   go_wp2_with (go_at_call 42; refine Calls.mono (mayTake_u _ P _ _ _ l HL0.out next nm HS.out) ?_; rintro e w1 ⟨rfl, b1⟩)
   go_ret
   exact ⟨q0z HR.out, on B0.out b1⟩
 by_cases q5 : K = 5
 · subst q5
   have HV : Hid (E = if l.any (fun y => decide (y.1 = id)) then 0 else 71) := by unfold Hid; rw [HE.out]; rfl
   have HF2 : Hid _ := HF.out
   rw [show (fun y : Nmd => decide (y.1 = Mo.idO ((5 : Int), at', N, id, nm, dt))) = (fun y => decide (y.1 = id)) from rfl] at HF2
   cases hq : l.any (fun y => decide (y.1 = id)) with
   | true =>
     have HR : Hid (0 = E) := by unfold Hid; rw [HV.out, hq]; rfl
     rw [hq] at HF2
     clear hq HF
     go_enter Try.func22, Try.ntmps22
     go_wp2_with (go_at_call 43; refine Calls.mono HF2.out ?_; rintro e w1 ⟨rfl, b1⟩)
     go_ret
     exact ⟨q0z HR.out, on B0.out b1⟩
   | false =>
     have HR : Hid (71 = E) := by unfold Hid; rw [HV.out, hq]; rfl
     rw [hq] at HF2
     clear hq HF
     go_enter Try.func22, Try.ntmps22
     go_wp2_with (go_at_call 43; refine Calls.mono HF2.out ?_; rintro e w1 ⟨rfl, b1⟩)
     go_ret
     exact ⟨q0z HR.out, on B0.out b1⟩
 by_cases q6 : K = 6
 · subst q6
   have HV : Hid (E = if l.any (fun y => decide (y.1 = id)) then 0 else 71) := by unfold Hid; rw [HE.out]; rfl
   have HF2 : Hid _ := HF.out
   rw [show (fun y : Nmd => decide (y.1 = Mo.idO ((6 : Int), at', N, id, nm, dt))) = (fun y => decide (y.1 = id)) from rfl] at HF2
   cases hq : l.any (fun y => decide (y.1 = id)) with
   | true =>
     have HR : Hid (0 = E) := by unfold Hid; rw [HV.out, hq]; rfl
     rw [hq] at HF2
     clear hq HF
     go_enter Try.func22, Try.ntmps22
     go_wp2_with (go_at_call 43; refine Calls.mono HF2.out ?_; rintro e w1 ⟨rfl, b1⟩)
     go_ret
     exact ⟨q0z HR.out, on B0.out b1⟩
   | false =>
     have HR : Hid (71 = E) := by unfold Hid; rw [HV.out, hq]; rfl
     rw [hq] at HF2
     clear hq HF
     go_enter Try.func22, Try.ntmps22
     go_wp2_with (go_at_call 43; refine Calls.mono HF2.out ?_; rintro e w1 ⟨rfl, b1⟩)
     go_ret
     exact ⟨q0z HR.out, on B0.out b1⟩
 by_cases q7 : K = 7
 · subst q7
   have HR : Hid (0 = E) := by unfold Hid; rw [HE.out]; rfl
   go_enter Try.func22, Try.ntmps22
   go_wp2
   go_ret
   exact ⟨q0z HR.out, B0.out⟩
 by_cases q8 : K = 8
 · subst q8
   have HV : Hid (E = if 0 ≤ N ∧ N ≤ 65536 then 0 else 4) := by unfold Hid; rw [HE.out]; rfl
   by_cases hN : 0 ≤ N ∧ N ≤ 65536
   · have HR : Hid (0 = E) := by unfold Hid; rw [HV.out, if_pos hN]
     have HN : Hid _ := decide_eq_true hN
     clear hN
     go_enter Try.func22, Try.ntmps22
     go_wp2_with (go_at_call 39; refine Calls.mono (q8J N _ true HN.out) ?_; rintro e w1 ⟨rfl, rfl⟩)
     go_ret
     exact ⟨q0z HR.out, B0.out⟩
   · have HR : Hid (4 = E) := by unfold Hid; rw [HV.out, if_neg hN]
     have HN : Hid _ := decide_eq_false hN
     clear hN
     go_enter Try.func22, Try.ntmps22
     go_wp2_with (go_at_call 39; refine Calls.mono (q8J N _ false HN.out) ?_; rintro e w1 ⟨rfl, rfl⟩)
     go_ret
     exact ⟨q0z HR.out, B0.out⟩
 have HR : Hid (22 = E) := by
  unfold Hid
  rw [HE.out]
  unfold Mo.mayE Mo.what
  simp only
  rw [if_neg q1, if_neg (by omega), if_neg q4, if_neg (by omega), if_neg q7, if_neg q8]
 go_enter Try.func22, Try.ntmps22
 go_wp2
 go_ret
 exact ⟨q0z HR.out, B0.out⟩
end Go.Proofs.Ytoophkmnppoppaa
