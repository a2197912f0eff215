/-
  Facts that the proof rests on, part 14. Conditions: those that each of them names.
-/
import Derived.Test.YtoophkmnppoppaaM00
import Derived.Test.YtoophkmnppoppaaM01
import Derived.Test.YtoophkmnppoppaaM08
import Derived.Test.YtoophkmnppoppaaM09
import Derived.Test.YtoophkmnppoppaaM12
namespace Go.Proofs.Ytoophkmnppoppaa
set_option maxHeartbeats 16000000
open Go.RowKit
set_option linter.unusedVariables false
def rFree : Rep (List UInt8) where
 size := 1
 bytes := 24
 rd w P cs l := rBytes.rd w P cs l ∧ ∀ a n c, cs = [.slice a n c] → ∀ x, a = some x → ∀ j, j < n → w.frozen? (x.add j) = false
 len h := rBytes.len h.1
 one h := rBytes.one h.1
 keep := by
  rintro w w' P cs l ⟨h1, h2⟩ hk
  refine ⟨rBytes.keep h1 hk, fun a n c e x hx j hj => ?_⟩
  have h3 := h2 a n c e x hx j hj
  obtain ⟨a', n', c', e', g1, g2, g3, g4, g5⟩ := h1
  rw [e] at e'
  simp only [List.cons.injEq, Value.slice.injEq, and_true] at e'
  obtain ⟨rfl, rfl, rfl⟩ := e'
  have hb := Elems.block (by decide) (g5 x hx) j (by omega)
  obtain ⟨hp, _⟩ := g5 x hx j (by omega)
  rw [World.frozen?_of_block (w := w) (w' := w') (a := x.add j) (by rw [qGQ]; exact hk _ hp hb)]
  exact h3
 weaken := by
  rintro w P P' cs l ⟨h1, h2⟩ hk
  exact ⟨rBytes.weaken h1 hk, h2⟩
def rFrees : Rep (List (List UInt8)) := q6Z rFree (by decide)
theorem rList_map {α : Type} {A B : Rep α} {hs : 0 < A.size} {hs' : 0 < B.size} (h1 : A.size = B.size) (h2 : A.bytes = B.bytes) (h : ∀ w P cs x, A.rd w P cs x → B.rd w P cs x) {w : World} {P : Nat → Prop} {cs : List Value} {l : List α} (hl : (q6Z A hs).rd w P cs l) : (q6Z B hs').rd w P cs l := by
 obtain ⟨a, n, c, rfl, g1, g2, g3, g4, g5⟩ := hl
 refine ⟨a, n, c, rfl, g1, g2, g3, by rw [← h2]; exact g4, fun x hx j hj => ?_⟩
 obtain ⟨hp, cj, k1, k2⟩ := g5 x hx j hj
 exact ⟨hp, cj, h _ _ _ _ k1, by rw [← h1]; exact k2⟩
theorem q7Z {w : World} {P : Nat → Prop} {cs : List Value} {l : List (List UInt8)} (h : rFrees.rd w P cs l) : rSectors.rd w P cs l := rList_map (A := rFree) (B := rBytes) rfl rfl (fun _ _ _ _ h => And.left h) h
theorem qEQ {α : Type} {cur new : List α} {A : Nat} (hA : A + new.length ≤ cur.length) (j : Nat) : (splice cur A new)[j]? = if j < A then cur[j]? else if j < A + new.length then new[j - A]? else cur[j]? := by
 unfold splice
 rw [List.getElem?_append, List.length_take, List.getElem?_take, List.getElem?_append, List.getElem?_drop, Nat.min_eq_left (by omega)]
 by_cases h1 : j < A
 · rw [if_pos h1, if_pos h1, if_pos h1]
 · rw [if_neg h1, if_neg h1]
   by_cases h2 : j < A + new.length
   · rw [if_pos h2, if_pos (by omega)]
   · rw [if_neg h2, if_neg (by omega)]
     congr 1
     omega
theorem qEX (d : Dsk) (A : Nat) (p : Dsk) : Mo.over d A p = splice d A p := by unfold Mo.over splice; rw [List.append_assoc]
structure DiskR (w : World) (P : Nat → Prop) (g : Nat) (vs : List Value) (d : Dsk) : Prop where
 row : Row w g 26 vs
 len : vs.length = d.length
 each : ∀ (j : Nat) (v : Value) (x : Sec), vs[j]? = some v → d[j]? = some x → rBytes.rd w P [v] x
theorem DiskAt.toR {w : World} {base g : Nat} {vs : List Value} {d : Dsk} (h : DiskAt w base g vs d) : DiskR w (fun b => base ≤ b) g vs d := by
 refine ⟨h.row, h.len, fun j v x hv hx => ?_⟩
 obtain ⟨h1, rfl⟩ := List.getElem?_eq_some_iff.1 hv
 obtain ⟨h2, rfl⟩ := List.getElem?_eq_some_iff.1 hx
 have ho := h.each j h1 h2
 obtain ⟨a, c, e⟩ : ∃ a c, vs[j] = .slice a d[j].length c := by
  rcases ho.2 with ⟨e, e0⟩ | ⟨b, cap, cur, e, -⟩
  · exact ⟨none, 0, by rw [e, e0]⟩
  · exact ⟨_, _, e⟩
 rw [e] at ho ⊢
 exact q4q ho (h.few _ (List.getElem_mem h2))
theorem DiskR.rd {w : World} {P : Nat → Prop} {g n : Nat} {vs : List Value} {d : Dsk} (h : DiskR w P g vs d) (hg : P g) (hn : d.length = n) (hb : n * 24 ≤ 140737488351232) : rSectors.rd w P [.slice (some ⟨g, 0, none⟩) n n] d := by
 refine ⟨_, _, _, rfl, hn, Nat.le_refl _, (fun e => by cases e), hb, fun x hx j hj => ?_⟩
 simp only [Option.some.injEq] at hx
 subst hx
 have hj' : j < vs.length := by rw [h.len]; exact hj
 refine ⟨hg, [vs[j]], h.each j _ _ (List.getElem?_eq_getElem hj') (List.getElem?_eq_getElem hj), fun r u hu => ?_⟩
 have hr : r = 0 ∧ u = vs[j] := by
  match r, hu with
  | 0, hu => simp at hu; exact ⟨rfl, hu.symm⟩
 obtain ⟨rfl, rfl⟩ := hr
 rw [Addr.add_lit, Nat.zero_add, Nat.add_zero, show j * rBytes.size = j from Nat.mul_one j]
 exact h.row.cell (List.getElem?_eq_getElem hj')
theorem DiskR.keep {w w' : World} {P : Nat → Prop} {g : Nat} {vs : List Value} {d : Dsk} (h : DiskR w P g vs d) (hk : ∀ b, P b → b < w.heap.size → w'.heap[b]? = w.heap[b]?) (hg : w'.heap[g]? = w.heap[g]?) : DiskR w' P g vs d :=
 ⟨h.row.keep hg, h.len, fun j v x h1 h2 => rBytes.keep (h.each j v x h1 h2) hk⟩
theorem DiskR.below {w w' : World} {P : Nat → Prop} {g : Nat} {vs : List Value} {d : Dsk} (h : DiskR w P g vs d) (k : Below w.heap.size w w') : DiskR w' P g vs d := h.keep (fun b _ hl => k.block b hl) (k.block g h.row.lt)
theorem DiskR.weaken {w : World} {P P' : Nat → Prop} {g : Nat} {vs : List Value} {d : Dsk} (h : DiskR w P g vs d) (hk : ∀ b, P b → b < w.heap.size → P' b) : DiskR w P' g vs d :=
 ⟨h.row, h.len, fun j v x h1 h2 => rBytes.weaken (h.each j v x h1 h2) hk⟩
theorem DiskR.over {w w' : World} {P : Nat → Prop} {g A : Nat} {vs vs5 : List Value} {d d5 : Dsk} (h : DiskR w P g vs d) (hl : vs5.length = d5.length) (h5 : ∀ (j : Nat) (v : Value) (x : Sec), vs5[j]? = some v → d5[j]? = some x → rBytes.rd w P [v] x)
 (hA : A + d5.length ≤ d.length) (hr : Row w' g 26 (splice vs A vs5)) (hk : ∀ b, P b → b < w.heap.size → w'.heap[b]? = w.heap[b]?) : DiskR w' P g (splice vs A vs5) (Mo.over d A d5) := by
 have e := h.len
 refine ⟨hr, ?_, fun j v x h1 h2 => rBytes.keep ?_ hk⟩
 · rw [qEX, length_splice _ _ _ (by omega), length_splice _ _ _ (by omega)]; exact e
 · rw [qEQ (by omega)] at h1
   rw [qEX, qEQ (by omega)] at h2
   by_cases c1 : j < A
   · rw [if_pos c1] at h1 h2; exact h.each j v x h1 h2
   · rw [if_neg c1] at h1 h2
     by_cases c2 : j < A + d5.length
     · rw [if_pos (by omega)] at h1
       rw [if_pos c2] at h2
       exact h5 _ v x h1 h2
     · rw [if_neg (by omega)] at h1
       rw [if_neg c2] at h2
       exact h.each j v x h1 h2
theorem DiskR.sized {w w' : World} {P : Nat → Prop} {g g5 N : Nat} {vs : List Value} {d : Dsk} (h : DiskR w P g vs d) (hr : Row w' g5 26 (splice (List.replicate N (.slice none 0 0)) 0 (vs.take N))) (hk : ∀ b, P b → b < w.heap.size → w'.heap[b]? = w.heap[b]?) :
 DiskR w' P g5 (splice (List.replicate N (.slice none 0 0)) 0 (vs.take N)) (Mo.sized d N) := by
 have e := h.len
 have hA : 0 + (vs.take N).length ≤ (List.replicate N (Value.slice none 0 0)).length := by rw [List.length_take, List.length_replicate]; omega
 refine ⟨hr, by rw [length_splice _ _ _ hA, List.length_replicate, Mo.sized_len], fun j v x h1 h2 => rBytes.keep ?_ hk⟩
 obtain ⟨hj, rfl⟩ := List.getElem?_eq_some_iff.1 h2
 rw [Mo.sized_len] at hj
 rw [Mo.sized_at hj]
 rw [qEQ hA, if_neg (by omega), List.length_take] at h1
 by_cases c : j < vs.length
 · rw [if_pos (by omega), Nat.sub_zero, List.getElem?_take, if_pos hj] at h1
   refine h.each j v _ h1 ?_
   rw [List.getD_eq_getElem?_getD, List.getElem?_eq_getElem (by omega)]
   rfl
 · rw [if_neg (by omega), List.getElem?_replicate, if_pos hj] at h1
   rw [List.getD_eq_getElem?_getD, List.getElem?_eq_none (by omega)]
   cases h1
   exact q0j _ _ _ _ (fun _ => rfl)
theorem rBytes_block {w : World} {P : Nat → Prop} {x : Addr} {n c : Nat} {l : List UInt8} (h : rBytes.rd w P [.slice (some x) n c] l) : rBytes.rd w (fun b => P b ∧ b = x.block) [.slice (some x) n c] l := by
 obtain ⟨a', n', c', e, h1, h2, h3, h4, h5⟩ := h
 simp only [List.cons.injEq, Value.slice.injEq, and_true] at e
 obtain ⟨rfl, rfl, rfl⟩ := e
 refine ⟨_, _, _, rfl, h1, h2, h3, h4, fun y hy j hj => ?_⟩
 simp only [Option.some.injEq] at hy
 subst hy
 obtain ⟨hp, cj, k1, k2⟩ := h5 x rfl j hj
 exact ⟨⟨hp, rfl⟩, cj, k1, k2⟩
theorem DiskAt.toRo {w : World} {base g : Nat} {vs : List Value} {d : Dsk} {v : Value} {l : List Snp} (h : DiskAt w base g vs d) (hv : Owns rSnp 66 w base v l) : DiskR w (fun b => base ≤ b ∧ v.ownBlock ≠ some b) g vs d := by
 refine ⟨h.row, h.len, fun j u x hu hx => ?_⟩
 obtain ⟨h1, rfl⟩ := List.getElem?_eq_some_iff.1 hu
 obtain ⟨h2, rfl⟩ := List.getElem?_eq_some_iff.1 hx
 have ho := h.each j h1 h2
 have hf := h.few _ (List.getElem_mem h2)
 generalize d[j] = X at ho hf ⊢
 generalize vs[j] = u at ho ⊢
 rcases ho.2 with ⟨e, e0⟩ | ⟨b, cap, cur, e, -, hh, -⟩
 · rw [e]
   obtain rfl : X = [] := List.length_eq_zero_iff.1 e0
   exact q0j _ _ _ _ (fun _ => rfl)
 · rw [e] at ho ⊢
   refine rBytes.weaken (rBytes_block (q4q ho hf)) (fun k hk _ => ⟨hk.1, fun e2 => ?_⟩)
   have hkb : k = b := hk.2
   obtain ⟨xs, g1, -⟩ := hv
   rcases g1.2 with ⟨rfl, -⟩ | ⟨g2, cap2, cur2, rfl, -, hh2, -⟩
   · cases e2
   · cases e2
     have hkb2 : g2 = b := hkb
     subst hkb2
     rw [hh] at hh2
     simp only [Option.some.injEq, Obj.cells.injEq] at hh2
     exact absurd hh2.2.1 (by decide)
structure StAt (wK w : World) (bs g n : Nat) (vs : List Value) (v : Value) (s : Sta) : Prop where
 box : Row w bs 31 [.slice (some ⟨g, 0, none⟩) n n, v, .int .i64 s.2.2]
 disk : DiskR wK (fun b => g + 1 ≤ b ∧ v.ownBlock ≠ some b) g vs s.1
 snaps : Owns rSnp 66 wK (g + 1) v s.2.1
 len : s.1.length = n
 hg : g < wK.heap.size
 hb : wK.heap.size ≤ bs
 bel : Below wK.heap.size wK w
def qJx (wK w : World) (bs g : Nat) (s : Sta) (dat : List UInt8) (i : Int) (lst : List Nmd) : Ending → World → Prop := fun e w' =>
 ∃ (cs : List Value) (da : Option Addr) (dn dc : Nat) (la : Option Addr) (ln lc db : Nat), e = .returned (.agg #[.int .i64 0, .slice da dn dc, .int .i64 i, .slice la ln lc, .int .i64 0]) ∧ Row w' bs 31 cs ∧
   rSta.rd w' (fun b => g ≤ b ∧ b ≠ bs ∧ b ≠ db ∧ (b < wK.heap.size ∨ w.heap.size ≤ b)) cs s ∧ rFree.rd w' (fun b => b = db) [.slice da dn dc] dat ∧ rNmds.rd w' (fun b => w.heap.size ≤ b) [.slice la ln lc] lst ∧ (db = bs ∨ w.heap.size ≤ db) ∧ db < w'.heap.size ∧
   Kept (fun b => b < w.heap.size ∧ b ≠ bs ∧ (b < g ∨ wK.heap.size ≤ b)) w w'
theorem q2x (w : World) (P : Nat → Prop) : rFree.rd w P [.slice none 0 0] [] := ⟨q0j _ _ _ _ (fun _ => rfl), fun a n c e x hx j hj => by cases e; cases hx⟩
theorem q0Z (w : World) (P : Nat → Prop) : rNmds.rd w P [.slice none 0 0] [] := ⟨none, 0, 0, rfl, rfl, Nat.le_refl _, (fun _ => rfl), by decide, fun x hx => by cases hx⟩
theorem q2Q {w : World} {P : Nat → Prop} {x y : Value} {s : Sta} (h1 : rSectors.rd w P [x] s.1) (h2 : rSnps.rd w P [y] s.2.1) (h3 : -9223372036854775808 ≤ s.2.2 ∧ s.2.2 ≤ 9223372036854775807) : rSta.rd w P [x, y, .int .i64 s.2.2] s :=
 ⟨[x], [y, .int .i64 s.2.2], rfl, h1, [y], [.int .i64 s.2.2], rfl, h2, rfl, h3⟩
theorem StAt.list {wK w : World} {bs g n : Nat} {vs : List Value} {v : Value} {s : Sta} (h : StAt wK w bs g n vs v s) (hl : s.2.1.length ≤ 8) : ∃ a c, v = .slice a s.2.1.length c ∧ rSnps.rd wK (fun b => g + 1 ≤ b ∧ b < wK.heap.size) [v] s.2.1 := by
 obtain ⟨a, c, e, h1⟩ := Owns.rd (hs := by decide) h.snaps (by show _ * 48 ≤ _; omega)
 refine ⟨a, c, e, ?_⟩
 rw [← e] at h1
 exact rSnps.weaken h1 (fun b hb hl => ⟨hb, hl⟩)
theorem StAt.bs_lt {wK w : World} {bs g n : Nat} {vs : List Value} {v : Value} {s : Sta} (h : StAt wK w bs g n vs v s) : bs < w.heap.size := h.box.lt
theorem held_copy {Pr : Program} {ops : Array Oper} {o : Oper} {l : List Value} {d : List Deferred} {w w' : World} {K' : Go.Act → World → Prop} {Q : Exit → Go.Act → World → Prop} {k : Nat} (hk : o.dst = some k) (hg : Region.wanted o (yielded ops l.toArray) = true)
 (s y : Operand) (ts : Array TypeId) (ho : o.op = .call { callee := .builtin .copy, args := #[s, y], argTypes := ts }) (v1 v2 v' : Value) (h1 : Go.Act.eval ⟨l.toArray, d⟩ s = v1) (h2 : Go.Act.eval ⟨l.toArray, d⟩ y = v2)
 (hr : (Builtin.copy_ ts o.type #[v1, v2]).run Pr w = .ok v' w') (h : K' ⟨(l.set k v').toArray, d⟩ w') : if Region.wanted o (yielded ops l.toArray) = true then Oper.wp Pr o ⟨l.toArray, d⟩ w K' Q else K' (Go.Act.put ⟨l.toArray, d⟩ o.dst undef) w := by
 have e : Go.Act.put ⟨l.toArray, d⟩ o.dst v' = ⟨(l.set k v').toArray, d⟩ := by rw [hk]; simp [Go.Act.put]
 rw [if_pos hg]
 unfold Oper.wp execOp
 simp only [ho, resolve, invoke, builtin, Sem.run_bind, Sem.run_pure, Result.andThen_ok, List.map_toArray, List.map_cons, List.map_nil, h1, h2, hr]
 rw [← e] at h
 exact h
theorem qHX {Pr : Program} {ops : Array Oper} {o : Oper} {l : List Value} {d : List Deferred} {w w' : World} {K' : Go.Act → World → Prop} {Q : Exit → Go.Act → World → Prop} (hk : o.dst = none) (hg : Region.wanted o (yielded ops l.toArray) = true)
 (s : Operand) (ts : Array TypeId) (ho : o.op = .call { callee := .builtin .clear, args := #[s], argTypes := ts }) (v1 v' : Value) (h1 : Go.Act.eval ⟨l.toArray, d⟩ s = v1)
 (hr : (Builtin.clear_ ts o.type #[v1]).run Pr w = .ok v' w') (h : K' ⟨l.toArray, d⟩ w') : if Region.wanted o (yielded ops l.toArray) = true then Oper.wp Pr o ⟨l.toArray, d⟩ w K' Q else K' (Go.Act.put ⟨l.toArray, d⟩ o.dst undef) w := by
 have e : Go.Act.put ⟨l.toArray, d⟩ o.dst v' = ⟨l.toArray, d⟩ := by rw [hk]; rfl
 rw [if_pos hg]
 unfold Oper.wp execOp
 simp only [ho, resolve, invoke, builtin, Sem.run_bind, Sem.run_pure, Result.andThen_ok, List.map_toArray, List.map_cons, List.map_nil, h1, hr]
 rw [← e] at h
 exact h
theorem kept5 (w : World) (b : Nat) (u0 u1 u2 u3 u4 : Value) : Kept (· ≠ b) w (((((w.setCell ⟨b, 0, none⟩ u0).setCell ⟨b, 1, none⟩ u1).setCell ⟨b, 2, none⟩ u2).setCell ⟨b, 3, none⟩ u3).setCell ⟨b, 4, none⟩ u4) :=
 (((((Kept.refl _ w).setCell (p := ⟨b, 0, none⟩) (fun h => h rfl) u0).setCell (p := ⟨b, 1, none⟩) (fun h => h rfl) u1).setCell (p := ⟨b, 2, none⟩) (fun h => h rfl) u2).setCell (p := ⟨b, 3, none⟩) (fun h => h rfl) u3).setCell (p := ⟨b, 4, none⟩) (fun h => h rfl) u4
theorem Row.whole5 {w : World} {b : Nat} {t : TypeId} {x0 x1 x2 x3 x4 : Value} (V : Row w b t [x0, x1, x2, x3, x4]) (u0 u1 u2 u3 u4 : Value) :
 ∃ w', ((((w.setCell ⟨b, 0, none⟩ u0).setCell ⟨b, 1, none⟩ u1).setCell ⟨b, 2, none⟩ u2).setCell ⟨b, 3, none⟩ u3).setCell ⟨b, 4, none⟩ u4 = w' ∧ Row w' b t [u0, u1, u2, u3, u4] ∧ Kept (· ≠ b) w w' :=
 ⟨_, rfl, ((((V.set 0 u0).set 1 u1).set 2 u2).set 3 u3).set 4 u4, kept5 w b u0 u1 u2 u3 u4⟩
theorem DiskR.part {w : World} {P : Nat → Prop} {g A K n c : Nat} {vs : List Value} {d : Dsk} (h : DiskR w P g vs d) (hg : P g) (hn : d.length = n) (hA : A + K ≤ n) (hc : K ≤ c) (hb : n * 24 ≤ 140737488351232) : rSectors.rd w P [.slice (some ⟨g, A, none⟩) K c] (Mo.part d A K) := by
 have hpl : (Mo.part d A K).length = K := by unfold Mo.part; rw [List.length_take, List.length_drop]; omega
 refine ⟨_, _, _, rfl, hpl, hc, (fun e => by cases e), by show K * 24 ≤ _; omega, fun x hx j hj => ?_⟩
 simp only [Option.some.injEq] at hx
 subst hx
 have hj1 : A + j < d.length := by omega
 have hj' : A + j < vs.length := by rw [h.len]; exact hj1
 have e : (Mo.part d A K)[j]? = d[A + j]? := by unfold Mo.part; rw [List.getElem?_take, if_pos (by omega), List.getElem?_drop]
 refine ⟨hg, [vs[A + j]], h.each (A + j) _ _ (List.getElem?_eq_getElem hj') (by rw [← e, List.getElem?_eq_getElem hj]), fun r u hu => ?_⟩
 have hr : r = 0 ∧ u = vs[A + j] := by
  match r, hu with
  | 0, hu => simp at hu; exact ⟨rfl, hu.symm⟩
 obtain ⟨rfl, rfl⟩ := hr
 rw [Addr.add_lit, Nat.add_zero, show j * rBytes.size = j from Nat.mul_one j]
 exact h.row.cell (List.getElem?_eq_getElem hj')
theorem qGJ (w : World) (P : Nat → Prop) (a : Option Addr) (c : Nat) (h : a = none → c = 0) : rSectors.rd w P [.slice a 0 c] [] := ⟨a, 0, c, rfl, rfl, Nat.zero_le _, h, by decide, fun x hx j hj => by cases hj⟩
theorem part_none (d : Dsk) (A : Nat) : Mo.part d A 0 = [] := by unfold Mo.part; rw [List.take_zero]
theorem part_len {d : Dsk} {A K : Nat} (h : A + K ≤ d.length) : (Mo.part d A K).length = K := by unfold Mo.part; rw [List.length_take, List.length_drop]; omega
theorem qDJ {d : Dsk} {A K : Nat} {x : Sec} (h : x ∈ Mo.part d A K) : x ∈ d := List.mem_of_mem_drop (List.mem_of_mem_take h)
theorem q8Z {d : Dsk} (h : Mo.okDisk d = true) : ∀ s ∈ d, s = [] ∨ s.length = 64 := fun s hs => (Mo.okSec_len ((Mo.okDisk_iff.1 h).2 s hs)).imp id And.left
theorem row_free {w : World} {g n : Nat} {b : List UInt8} (h : Row w g 5 (cellsOf b)) (hl : b.length = n) (hn : n ≤ 140737488351232) : rFree.rd w (fun k => k = g) [.slice (some ⟨g, 0, none⟩) n n] b := by
 refine ⟨⟨_, _, _, rfl, hl, Nat.le_refl _, (fun e => by cases e), by show n * 1 ≤ _; omega, fun x hx j hj => ?_⟩, fun a' n' c' e x hx j hj => ?_⟩
 · simp only [Option.some.injEq] at hx
   subst hx
   refine ⟨rfl, [.int .u8 (b[j].toNat : Int)], rfl, fun r u hu => ?_⟩
   have hr : r = 0 ∧ u = .int .u8 (b[j].toNat : Int) := by
    match r, hu with
    | 0, hu => simp at hu; exact ⟨rfl, hu.symm⟩
   obtain ⟨rfl, rfl⟩ := hr
   rw [Addr.add_lit, Nat.zero_add, Nat.add_zero, show j * rByte.size = j from Nat.mul_one j]
   exact h.cell (by simp [cellsOf, hj])
 · simp only [List.cons.injEq, Value.slice.injEq, and_true] at e
   obtain ⟨rfl, rfl, rfl⟩ := e
   simp only [Option.some.injEq] at hx
   subst hx
   rw [Addr.add_lit, Nat.zero_add]
   exact h.frozen j
theorem Owns.toQ2 {α : Type} {A : Rep α} {e : TypeId} {w w' : World} {base : Nat} {v : Value} {l : List α} (h : Owns A e w base v l) (Q : Nat → Prop) (hQ : ∀ b, base ≤ b → b < w.heap.size → Q b) (k : Below w.heap.size w w') : OwnsQ A e w' base Q v l := by
 obtain ⟨xs, h1, h2⟩ := h
 have h3 : OwnsQ A e w base Q v l := ⟨xs, h1, q1j (fun b hb hl => ⟨hQ b hb.1 hl, hb.2⟩) h2⟩
 exact h3.below k
theorem OwnsQ.rdQ {α : Type} {A : Rep α} {hs : 0 < A.size} {e : TypeId} {w : World} {base : Nat} {Q : Nat → Prop} {a : Option Addr} {n c : Nat} {l : List α} (h : OwnsQ A e w base Q (.slice a n c) l) (hn : l.length = n) (hb : n * A.bytes ≤ 140737488351232) (hr : ∀ k, (Value.slice a n c).ownBlock = some k → Q k) :
 (q6Z A hs).rd w Q [.slice a n c] l := by
 obtain ⟨xs, h1, h2⟩ := h
 obtain ⟨a', c', e1, e2⟩ := qDZ (hs := hs) (P := Q) h1 (q1j (fun b hb _ => hb.1) h2) rfl (by rw [hn]; exact hb) hr
 rw [hn] at e1 e2
 simp only [Value.slice.injEq, true_and] at e1
 obtain ⟨rfl, rfl⟩ := e1
 exact e2
set_option maxRecDepth 20000 in
theorem done1_u (wK w : World) (P : Nat → Prop) (bs g n : Nat) (vs : List Value) (v : Value) (s : Sta) (H : StAt wK w bs g n vs v s) (hok : Mo.ok s = true) (at' N id : Int) (nm : ByteArray) (dt : List UInt8) (xa : Option Addr) (xn xc : Nat) (hX : rBytes.rd w P [.slice xa xn xc] dt) (h2 : I64 at') (h3 : I64 N) (h4 : I64 id) (hs : nm.size ≤ maxLen) (he : Mo.opE s (1, at', N, id, nm, dt) = 0) :
 Calls Try.prog 31 #[.pointer (some ⟨bs, 0, none⟩), .agg #[.int .i64 1, .int .i64 at', .int .i64 N, .int .i64 id, .string nm, .slice xa xn xc]] w (qJx wK w bs g (Mo.chgS s (1, at', N, id, nm, dt)) (Mo.chgD s (1, at', N, id, nm, dt)) (Mo.chgI s (1, at', N, id, nm, dt)) (Mo.chgL s (1, at', N, id, nm, dt))) := by
 have hF := (Mo.ok_iff s).1 hok
 have hl8 := hF.few
 have hnx : -9223372036854775808 ≤ s.2.2 ∧ s.2.2 ≤ 9223372036854775807 := by have := hF.low; have := hF.high; omega
 have hn : n ≤ 65536 := by have h1 := (Mo.okDisk_iff.1 hF.now).1; rw [H.len] at h1; exact h1
 obtain ⟨va, vc, hv, hsn⟩ := H.list hl8
 have hdk : DiskR wK (fun b => g + 1 ≤ b ∧ b < wK.heap.size) g vs s.1 := H.disk.weaken (fun b hb hl => ⟨hb.1, hl⟩)
 have hlenD := H.len
 have he' : Mo.writeE s.1.length at' dt.length = 0 := he
 obtain ⟨e1, e2, e3, e4, -, e5, e6⟩ := Mo.writeE_zero he'
 obtain ⟨A, rfl⟩ : ∃ A : Nat, at' = (A : Int) := ⟨at'.toNat, by omega⟩
 obtain ⟨m, hm⟩ : ∃ m, m = dt.length / 64 := ⟨_, rfl⟩
 rw [← hm] at e3 e5 e6
 rw [hlenD] at e5 e6
 have hxl : dt.length = xn := (q0Q hX).1
 have hxn : xn = m * 64 := by omega
 have hm1 : 1 ≤ m := by omega
 have hm6 : m ≤ 64 := e3
 have hAm : A + m ≤ n := by omega
 obtain ⟨xb, xo, rfl, -, -, -⟩ := q8q hX (by omega)
 have HMx : Hid (xn = m * 64) := hxn
 have HCl : Hid ((Mo.cut dt).length = m) := by unfold Hid Mo.cut; rw [Mo.cutN_len, hm]
 have HChg : Hid (Mo.chgS s (1, (A : Int), N, id, nm, dt) = (Mo.over s.1 A (Mo.cut dt), s.2.1, s.2.2)) := by unfold Hid; rfl
 obtain ⟨w0, hw0, V0, b0, z0⟩ := q0q w 33 [.int .i64 1, .int .i64 (A : Int), .int .i64 N, .int .i64 id, .string nm, .slice (some ⟨xb, xo, none⟩) xn xc]
 obtain ⟨w1, hw1, V1, b1, z1⟩ := q0q w0 38 [.int .i64 0, .slice none 0 0, .int .i64 0, .slice none 0 0, .int .i64 0]
 have B1 : Hid (Below w.heap.size w w1) := on b0 b1
 have HXR : Hid (Row w1 w.heap.size 33 [.int .i64 1, .int .i64 (A : Int), .int .i64 N, .int .i64 id, .string nm, .slice (some ⟨xb, xo, none⟩) xn xc]) := V0.below b1
 have HRR : Hid _ := V1
 have HZ : Hid (w0.heap.size = w.heap.size + 1 ∧ w1.heap.size = w.heap.size + 2) := ⟨z0, by omega⟩
 have HBx : Hid (Row w1 bs 31 [.slice (some ⟨g, 0, none⟩) n n, v, .int .i64 s.2.2]) := H.box.below B1.out
 have HB : Hid (g < wK.heap.size ∧ wK.heap.size ≤ bs ∧ bs < w.heap.size ∧ wK.heap.size ≤ w.heap.size) := ⟨H.hg, H.hb, H.box.lt, H.bel.size⟩
 have BK : Hid (Below wK.heap.size wK w1) := H.bel.trans (B1.out.mono H.bel.size)
 have HDK : Hid _ := hdk
 have HSN : Hid _ := hsn
 have HV : Hid _ := hv
 have HD : Hid (s.1.length = n) := hlenD
 have HXd : Hid (rBytes.rd w1 (fun b => b < w.heap.size) [.slice (some ⟨xb, xo, none⟩) xn xc] dt) := Rep.below (rBytes.weaken hX (fun b _ hl => hl)) B1.out
 have HNX : Hid _ := hnx
 have HL8 : Hid _ := hl8
 have HOwn : Hid _ := H.snaps
 have HFine : Hid _ := hF
 have x0 := HXR.out.cell (j := 0) rfl
 have x1 := HXR.out.cell (j := 1) rfl
 have x5 := HXR.out.cell (j := 5) rfl
 have HSee : Hid (∀ w', Kept (fun b => b < w1.heap.size ∧ b ≠ g) w1 w' → w'.cell? ⟨bs, 0, none⟩ = some (.slice (some ⟨g, 0, none⟩) n n) ∧ w'.cell? ⟨w.heap.size, 1, none⟩ = some (.int .i64 (A : Int)) ∧ w'.cell? ⟨w.heap.size, 5, none⟩ = some (.slice (some ⟨xb, xo, none⟩) xn xc)) := by
  intro w' hk
  have h1 := HB.out
  have h2 := HZ.out
  unfold Hid at h1 h2
  exact ⟨hk.cell (p := ⟨bs, 0, none⟩) (by show bs < _ ∧ bs ≠ g; omega) (HBx.out.cell (j := 0) rfl), hk.cell (p := ⟨w.heap.size, 1, none⟩) (by show w.heap.size < _ ∧ w.heap.size ≠ g; omega) (HXR.out.cell (j := 1) rfl), hk.cell (p := ⟨w.heap.size, 5, none⟩) (by show w.heap.size < _ ∧ w.heap.size ≠ g; omega) (HXR.out.cell (j := 5) rfl)⟩
 have S0 := HSee.out _ ((Kept.refl _ w1).drew)
 have hAn : (A : Int) ≤ (n : Int) := by omega
 have hAc : ¬ (n = A) := by omega
 clear H hdk hsn hv hlenD hX hnx hF V0 V1 b0 b1 z0 z1 h4 hs hok hl8 he he' hm hxl hxn e1 e2 e3 e4 e5 e6 h2 h3
 go_enter Try.func31, Try.ntmps31
 go_wp2_with fail
 refine wp_region_held_drew (S := (fun w' : World => w'.cell? ⟨bs, 0, none⟩ = some (.slice (some ⟨g, 0, none⟩) n n) ∧ w'.cell? ⟨w.heap.size, 1, none⟩ = some (.int .i64 (A : Int)) ∧ w'.cell? ⟨w.heap.size, 5, none⟩ = some (.slice (some ⟨xb, xo, none⟩) xn xc))) (by kernel_rfl) (S0) (fun hH => ?_)
 refine tkM 0 _ rfl rfl ?_; simp only [sz, ss]
 refine tkM 1 _ rfl rfl ?_; simp only [sz, ss]
 refine tkM 2 _ rfl rfl ?_; simp only [sz, ss]
 refine tkM 3 _ rfl rfl ?_; simp only [sz, ss]
 refine tkM 4 _ rfl rfl ?_; simp only [sz, ss]
 refine tkM 5 _ rfl rfl ?_; simp only [sz, ss]
 refine tkM 6 _ rfl rfl ?_; simp only [sz, ss]
 refine tkM 7 _ rfl rfl ?_; simp only [sz, ss]
 refine tkM 8 _ rfl rfl ?_; simp only [sz, ss]
 refine r1L 9 rfl fun K hK => ?_
 · go_simp
   go_at_call 48
   refine Calls.mono (cut_u w1.drew (fun b => b < w.heap.size) (fun b hb => Nat.lt_of_lt_of_le hb B1.out.size) xb xo xn xc dt (rBytes.keep HXd.out (fun _ _ _ => rfl)) m HMx.out hm6) ?_
   rintro e w5 ⟨ca, cc, rfl, hr5, bd5⟩
   have B5 : Hid (Below w1.heap.size w1 w5) := (Below.refl _ w1).drew.trans bd5
   have HR5 : Hid (rSectors.rd w5 (fun _ => True) [.slice ca m cc] (Mo.cut dt)) := rSectors.weaken hr5 (fun _ _ _ => trivial)
   have S1 := HSee.out _ ((Kept.below B5.out).mono (fun b hb => hb.1))
   clear hr5 bd5
   go_simp
   refine hK.out _ _ ?_ (fun hH => ?_)
   · try dsimp only
     exact S1
   clear hK K
   refine r1L 10 rfl fun K hK => ?_
   · go_simp
     go_at_call 46
     refine Calls.mono (q2j w5 _ ca m cc (Mo.cut dt) HR5.out) ?_
     rintro e w6 ⟨g5, vs5, rfl, hgs, hgl, hda, bd6⟩
     have B6 : Hid _ := on B5.out bd6
     have HDA : Hid (DiskR w6 (fun b => g5 + 1 ≤ b) g5 vs5 (Mo.cut dt)) := hda.toR
     have HG5 : Hid (w1.heap.size ≤ g5 ∧ g5 < w6.heap.size) := ⟨Nat.le_trans B5.out.size hgs, hgl g5 (Nat.lt_succ_self g5)⟩
     have S2 := HSee.out _ ((Kept.below B6.out).mono (fun b hb => hb.1))
     have HDg : Hid (DiskR w6 (fun b => g + 1 ≤ b ∧ b < wK.heap.size) g vs s.1) := (HDK.out.below BK.out).below B6.out
     obtain ⟨w7, hr7, R7, k7, z7⟩ := qJq (Pr := Try.prog) w6 22 22 3 26 Try.underlying22 (by kernel_rfl) (some ⟨g, A, none⟩) (some ⟨g5, 0, none⟩) (n - A) (n - A) m m g A vs 26 HDg.out.row vs5
      (by rw [HDA.out.len, HCl.out]; exact (Nat.min_eq_left (by omega)).symm)
      (fun _ => ⟨rfl, ⟨g5, 0, none⟩, rfl, fun j u hj => by rw [Addr.add_lit, Nat.zero_add]; exact HDA.out.row.cell hj⟩)
      (by rw [HDA.out.len, HCl.out, HDg.out.len, HD.out]; omega)
      (fun u hu => by
       obtain ⟨j, hj, rfl⟩ := List.mem_iff_getElem.1 hu
       exact rBytes.one (HDA.out.each j _ _ (List.getElem?_eq_getElem hj) (List.getElem?_eq_getElem (by rw [← HDA.out.len]; exact hj))) _ (by simp))
     have HRun : Hid _ := hr7
     have HR7 : Hid _ := R7
     have K7 : Hid _ := k7
     have S3 := HSee.out _ (((Kept.below B6.out).mono (fun b hb => hb.1)).trans ⟨k7.os, k7.tape, k7.output, k7.size, fun b hb => k7.block b hb.2⟩)
     clear hgs hgl hda bd6 hr7 R7 k7 z7
     go_simp
     refine hK.out _ _ ?_ (fun hH => ?_)
     · try dsimp only
       exact S2
     clear hK K
     refine r1L 11 rfl fun K hK => ?_
     · refine held_copy rfl (by rfl) _ _ _ rfl _ _ _ rfl rfl HRun.out ?_
       simp only [sz, ss]
       refine hK.out _ _ ?_ (fun hH => ?_)
       · try dsimp only
         first | exact S3 | exact S2 | exact S1
       clear hK K
       refine wpAnyH_done (by kernel_rfl) ?_ _
       clear hH S1 S2 S3
       have HDn : Hid (DiskR w7 (fun b => g + 1 ≤ b ∧ (b < wK.heap.size ∨ w1.heap.size ≤ b)) g (splice vs A vs5) (Mo.over s.1 A (Mo.cut dt))) := (HDg.out.weaken (fun b hb _ => ⟨hb.1, .inl hb.2⟩)).over HDA.out.len (fun j v x h1 h2 => rBytes.weaken (HDA.out.each j v x h1 h2) (fun b hb _ => ⟨by have h1 := HG5.out; have h2 := HB.out; have h3 := HZ.out; unfold Hid at h1 h2 h3; omega, .inr (by have h1 := HG5.out; unfold Hid at h1; omega)⟩)) (by rw [HCl.out, HD.out]; omega) HR7.out (fun b hb _ => K7.out.block b (by have := hb.1; omega))
       have hK7 : Kept (fun b => b < w.heap.size ∧ b ≠ g) w w7 := ((Kept.below (on B1.out B6.out)).mono (fun b hb => hb.1)).trans (K7.out.mono (fun b hb => hb.2))
       have HK7 : Hid _ := hK7
       have HBx7 : Hid (Row w7 bs 31 [.slice (some ⟨g, 0, none⟩) n n, v, .int .i64 s.2.2]) := (HBx.out.below B6.out).keep (K7.out.block bs (by have := HB.out; unfold Hid at this; omega))
       have HSn7 : Hid (rSnps.rd w7 (fun b => g + 1 ≤ b ∧ b < wK.heap.size) [v] s.2.1) := rSnps.keep HSN.out (fun b hb hl => (K7.out.block b (by have := hb.1; omega)).trans ((on BK.out B6.out).block b hl))
       have HRR7 : Hid _ := (HRR.out.below B6.out).keep (K7.out.block w0.heap.size (by have := HB.out; have := HZ.out; unfold Hid at *; omega))
       have r0 := HRR7.out.cell (j := 0) rfl
       have r1 := HRR7.out.cell (j := 1) rfl
       have r2 := HRR7.out.cell (j := 2) rfl
       have r3 := HRR7.out.cell (j := 3) rfl
       have r4 := HRR7.out.cell (j := 4) rfl
       have f0 := HRR7.out.frozen 0
       have f1 := HRR7.out.frozen 1
       have f2 := HRR7.out.frozen 2
       have f3 := HRR7.out.frozen 3
       have f4 := HRR7.out.frozen 4
       clear hK7
       go_wp2
       have V8 := (((((HRR7.out.set 0 (.int .i64 0)).set 1 (.slice none 0 0)).set 2 (.int .i64 0)).set 3 (.slice none 0 0)).set 4 (.int .i64 0))
       have hk8 := kept5 w7 w0.heap.size (.int .i64 0) (.slice none 0 0) (.int .i64 0) (.slice none 0 0) (.int .i64 0)
       refine bodyPost_ret (q1q rfl rfl V8 Try.underlying38 rfl (by kernel_rfl)) rfl ⟨_, none, 0, 0, none, 0, 0, bs, rfl, HBx7.out.keep (hk8.block bs (by have := HB.out; have := HZ.out; unfold Hid at *; omega)), ?_, q2x _ _, q0Z _ _, .inl rfl, ?_, ?_⟩
       · rw [HChg.out]
         refine q2Q (s := (Mo.over s.1 A (Mo.cut dt), s.2.1, s.2.2)) (rSectors.weaken (Rep.kept (DiskR.rd (P := fun b => g ≤ b ∧ (b < wK.heap.size ∨ w1.heap.size ≤ b)) (HDn.out.weaken (fun b hb _ => ⟨by omega, hb.2⟩)) ⟨Nat.le_refl _, .inl HB.out.1⟩ (by rw [Mo.over_len (by rw [HCl.out, HD.out]; omega)]; exact HD.out) (by omega)) hk8 (fun b hb _ => ?_)) (fun b hb _ => ?_)) (rSnps.weaken (Rep.kept HSn7.out hk8 (fun b hb _ => ?_)) (fun b hb _ => ?_)) HNX.out
         all_goals (have h1 := HB.out; have h2 := HZ.out; unfold Hid at h1 h2; (try dsimp only at hb ⊢); omega)
       · exact Nat.lt_of_lt_of_le HBx7.out.lt hk8.size
       · exact (HK7.out.mono (fun b hb => ⟨hb.1, by have := HB.out; unfold Hid at this; omega⟩)).trans (hk8.mono (fun b hb => by have := HZ.out; unfold Hid at this; have := hb.1; omega))
set_option maxRecDepth 20000 in
theorem done2_u (wK w : World) (P : Nat → Prop) (bs g n : Nat) (vs : List Value) (v : Value) (s : Sta) (H : StAt wK w bs g n vs v s) (hok : Mo.ok s = true) (at' N id : Int) (nm : ByteArray) (dt : List UInt8) (xa : Option Addr) (xn xc : Nat) (hX : rBytes.rd w P [.slice xa xn xc] dt) (h2 : I64 at') (h3 : I64 N) (h4 : I64 id) (hs : nm.size ≤ maxLen) (he : Mo.opE s (2, at', N, id, nm, dt) = 0) :
 Calls Try.prog 31 #[.pointer (some ⟨bs, 0, none⟩), .agg #[.int .i64 2, .int .i64 at', .int .i64 N, .int .i64 id, .string nm, .slice xa xn xc]] w (qJx wK w bs g (Mo.chgS s (2, at', N, id, nm, dt)) (Mo.chgD s (2, at', N, id, nm, dt)) (Mo.chgI s (2, at', N, id, nm, dt)) (Mo.chgL s (2, at', N, id, nm, dt))) := by
 have hF := (Mo.ok_iff s).1 hok
 have hl8 := hF.few
 have hnx : -9223372036854775808 ≤ s.2.2 ∧ s.2.2 ≤ 9223372036854775807 := by have := hF.low; have := hF.high; omega
 have hn : n ≤ 65536 := by have h1 := (Mo.okDisk_iff.1 hF.now).1; rw [H.len] at h1; exact h1
 obtain ⟨va, vc, hv, hsn⟩ := H.list hl8
 have hdk : DiskR wK (fun b => g + 1 ≤ b ∧ b < wK.heap.size) g vs s.1 := H.disk.weaken (fun b hb hl => ⟨hb.1, hl⟩)
 have hlenD := H.len
 have he' : Mo.touchE s.1.length at' N = 0 := he
 obtain ⟨⟨e1, e2, e3, e4⟩, e5⟩ := Mo.touchE_zero he'
 obtain ⟨A, rfl⟩ : ∃ A : Nat, at' = (A : Int) := ⟨at'.toNat, by omega⟩
 obtain ⟨Kq, rfl⟩ : ∃ Kq : Nat, N = (Kq : Int) := ⟨N.toNat, by omega⟩
 rw [hlenD] at e3 e4
 obtain ⟨M, hM⟩ : ∃ M, M = A + Kq := ⟨_, rfl⟩
 have hMz : (A : Int) + (Kq : Int) = (M : Int) := by omega
 have hAm : M ≤ n := by omega
 have hAM : A ≤ M := by omega
 have hK6 : Kq ≤ 64 := by omega
 have HMA : Hid (M - A = Kq) := by unfold Hid; omega
 have HChg : Hid (Mo.chgS s (2, (A : Int), (Kq : Int), id, nm, dt) = s) := by unfold Hid; rfl
 have HChD : Hid (Mo.chgD s (2, (A : Int), (Kq : Int), id, nm, dt) = Mo.octets (Mo.part s.1 A Kq)) := by unfold Hid; rfl
 obtain ⟨w0, hw0, V0, b0, z0⟩ := q0q w 33 [.int .i64 2, .int .i64 (A : Int), .int .i64 (Kq : Int), .int .i64 id, .string nm, .slice xa xn xc]
 obtain ⟨w1, hw1, V1, b1, z1⟩ := q0q w0 38 [.int .i64 0, .slice none 0 0, .int .i64 0, .slice none 0 0, .int .i64 0]
 have B1 : Hid (Below w.heap.size w w1) := on b0 b1
 have HXR : Hid (Row w1 w.heap.size 33 [.int .i64 2, .int .i64 (A : Int), .int .i64 (Kq : Int), .int .i64 id, .string nm, .slice xa xn xc]) := V0.below b1
 have HRR : Hid _ := V1
 have HZ : Hid (w0.heap.size = w.heap.size + 1 ∧ w1.heap.size = w.heap.size + 2) := ⟨z0, by omega⟩
 have HBx : Hid (Row w1 bs 31 [.slice (some ⟨g, 0, none⟩) n n, v, .int .i64 s.2.2]) := H.box.below B1.out
 have HB : Hid (g < wK.heap.size ∧ wK.heap.size ≤ bs ∧ bs < w.heap.size ∧ wK.heap.size ≤ w.heap.size) := ⟨H.hg, H.hb, H.box.lt, H.bel.size⟩
 have BK : Hid (Below wK.heap.size wK w1) := H.bel.trans (B1.out.mono H.bel.size)
 have HDK : Hid _ := hdk
 have HSN : Hid _ := hsn
 have HV : Hid _ := hv
 have HD : Hid (s.1.length = n) := hlenD
 have HXd : Hid (rBytes.rd w1 (fun b => b < w.heap.size) [.slice xa xn xc] dt) := Rep.below (rBytes.weaken hX (fun b _ hl => hl)) B1.out
 have HNX : Hid _ := hnx
 have HL8 : Hid _ := hl8
 have HOwn : Hid _ := H.snaps
 have HFine : Hid _ := hF
 have x0 := HXR.out.cell (j := 0) rfl
 have x1 := HXR.out.cell (j := 1) rfl
 have x2 := HXR.out.cell (j := 2) rfl
 have HSee : Hid (∀ w', Kept (fun b => b < w1.heap.size ∧ b ≠ g ∧ b ≠ w0.heap.size) w1 w' → w'.cell? ⟨bs, 0, none⟩ = some (.slice (some ⟨g, 0, none⟩) n n) ∧ w'.cell? ⟨w.heap.size, 1, none⟩ = some (.int .i64 (A : Int)) ∧ w'.cell? ⟨w.heap.size, 2, none⟩ = some (.int .i64 (Kq : Int))) := by
  intro w' hk
  have h1 := HB.out
  have h2 := HZ.out
  unfold Hid at h1 h2
  exact ⟨hk.cell (p := ⟨bs, 0, none⟩) (by show bs < _ ∧ bs ≠ g ∧ bs ≠ w0.heap.size; omega) (HBx.out.cell (j := 0) rfl), hk.cell (p := ⟨w.heap.size, 1, none⟩) (by show w.heap.size < _ ∧ w.heap.size ≠ g ∧ w.heap.size ≠ w0.heap.size; omega) (HXR.out.cell (j := 1) rfl), hk.cell (p := ⟨w.heap.size, 2, none⟩) (by show w.heap.size < _ ∧ w.heap.size ≠ g ∧ w.heap.size ≠ w0.heap.size; omega) (HXR.out.cell (j := 2) rfl)⟩
 have S0 := HSee.out _ ((Kept.refl _ w1).drew)
 have hAn : (A : Int) ≤ (n : Int) := by omega
 have hMn : (M : Int) ≤ (n : Int) := by omega
 have hAMz : (A : Int) ≤ (M : Int) := by omega
 have hwM : IntKind.i64.wrap (M : Int) = (M : Int) := by rw [IntKind.wrap_i64]; omega
 have hKn : n - A < 65537 := by omega
 clear H hdk hsn hv hlenD hX hnx hF V0 V1 b0 b1 z0 z1 h4 hs hok hl8 he he' e1 e2 e3 e4 e5 h2 h3 hM
 by_cases hAc : n = A
 · subst hAc
   obtain rfl : M = n := by omega
   have HK0 : Hid (Kq = 0) := by have := HMA.out; unfold Hid at *; omega
   go_enter Try.func31, Try.ntmps31
   go_wp2_with fail
   refine wp_region_held_drew (S := (fun w' : World => w'.cell? ⟨bs, 0, none⟩ = some (.slice (some ⟨g, 0, none⟩) M M) ∧ w'.cell? ⟨w.heap.size, 1, none⟩ = some (.int .i64 (M : Int)) ∧ w'.cell? ⟨w.heap.size, 2, none⟩ = some (.int .i64 (Kq : Int)))) (by kernel_rfl) (S0) (fun hH => ?_)
   refine tkM 0 _ rfl rfl ?_; simp only [sz, ss]
   refine tkM 1 _ rfl rfl ?_; simp only [sz, ss]
   refine tkM 2 _ rfl rfl ?_; simp only [sz, ss]
   refine tkM 3 _ rfl rfl ?_; simp only [sz, ss]
   refine tkM 4 _ rfl rfl ?_; simp only [sz, ss]
   refine tkM 5 _ rfl rfl ?_; simp only [sz, ss]
   refine tkM 6 _ rfl rfl ?_; simp only [sz, ss]
   refine tkM 7 _ rfl rfl ?_; simp only [sz, ss]
   refine tkM 8 _ rfl rfl ?_; simp only [sz, ss]
   refine tkM 9 _ rfl rfl ?_; simp only [sz, ss]
   refine tkM 10 _ rfl rfl ?_; simp only [sz, ss]
   refine tkM 11 _ rfl rfl ?_; simp only [sz, ss]
   refine r1L 12 rfl fun K hK => ?_
   · go_simp
     go_at_call 49
     refine Calls.mono (joined_u w1.drew (fun b => g ≤ b ∧ b < wK.heap.size) (some ⟨g, 0, none⟩) 0 0 (Mo.part s.1 M Kq) (rSectors.keep (w := w1) (by rw [HK0.out, part_none]; exact qGJ _ _ _ _ (fun h => by cases h)) (fun _ _ _ => rfl)) (fun x hx => q8Z HFine.out.now x (qDJ hx)) (by omega)) ?_
     rintro e w6 ⟨g5, rfl, hgs, R6, bd6⟩
     have B6 : Hid (Below w1.heap.size w1 w6) := (Below.refl _ w1).drew.trans bd6
     have HR6 : Hid _ := R6
     have HG5 : Hid (w1.heap.size ≤ g5 ∧ g5 < w6.heap.size) := ⟨hgs, R6.lt⟩
     have S1 := HSee.out _ ((Kept.below B6.out).mono (fun b hb => hb.1))
     have HRR6 := HRR.out.below B6.out
     have r0 := HRR6.cell (j := 0) rfl
     have r1 := HRR6.cell (j := 1) rfl
     have r2 := HRR6.cell (j := 2) rfl
     have r3 := HRR6.cell (j := 3) rfl
     have r4 := HRR6.cell (j := 4) rfl
     have f0 := HRR6.frozen 0
     have f1 := HRR6.frozen 1
     have f2 := HRR6.frozen 2
     have f3 := HRR6.frozen 3
     have f4 := HRR6.frozen 4
     obtain ⟨w7, hw7, V7, K7⟩ := HRR6.whole5 (.int .i64 0) (.slice (some ⟨g5, 0, none⟩) (0 * 64) (0 * 64)) (.int .i64 0) (.slice none 0 0) (.int .i64 0)
     have S2 := HSee.out _ (((Kept.below B6.out).mono (fun b hb => hb.1)).trans ((K7).mono (fun b hb => hb.2.2)))
     clear hgs R6 bd6
     go_simp
     refine hK.out _ _ ?_ (fun hH => ?_)
     · try dsimp only
       exact S1
     clear hK K
     refine tkM 13 _ rfl rfl ?_; simp only [sz, ss]
     refine r1L 14 rfl fun K hK => ?_
     · go_simp
       refine hK.out _ _ ?_ (fun hH => ?_)
       · try dsimp only
         first | exact S2 | exact S1
       clear hK K
       refine wpAnyH_done (by kernel_rfl) ?_ _
       clear hH S1 S2 r0 f0 r1 f1 r2 f2 r3 f3 r4 f4
       have HB8 : Hid (Row w7 bs 31 [.slice (some ⟨g, 0, none⟩) M M, v, .int .i64 s.2.2]) := (HBx.out.below B6.out).keep (K7.block bs (by have := HB.out; have := HZ.out; unfold Hid at *; omega))
       have HV8 : Hid _ := V7
       have HK8 : Hid _ := K7
       have HDn : Hid (DiskR w7 (fun b => g + 1 ≤ b ∧ b < wK.heap.size) g vs s.1) := ((HDK.out.below BK.out).below B6.out).keep (fun b hb hl => K7.block b (by have := HB.out; have := HZ.out; unfold Hid at *; omega)) (K7.block g (by have := HB.out; have := HZ.out; unfold Hid at *; omega))
       have HSn7 : Hid (rSnps.rd w7 (fun b => g + 1 ≤ b ∧ b < wK.heap.size) [v] s.2.1) := rSnps.keep HSN.out (fun b hb hl => (K7.block b (by have := HB.out; have := HZ.out; unfold Hid at *; omega)).trans ((on BK.out B6.out).block b hl))
       have HFr : Hid (rFree.rd w7 (fun b => b = g5) [.slice (some ⟨g5, 0, none⟩) (0 * 64) (0 * 64)] (Mo.octets (Mo.part s.1 M Kq))) := by
        refine rFree.keep (row_free HR6.out ?_ (by omega)) (fun b hb _ => K7.block b (by have := HG5.out; have := HZ.out; have hb2 : b = g5 := hb; unfold Hid at *; omega))
        rw [← qFj, qAX (fun j => by
         rw [List.getD_eq_getElem?_getD]
         cases hq : (Mo.part s.1 M Kq)[j]? with
         | none => exact .inl rfl
         | some x => exact q8Z HFine.out.now x (qDJ (List.mem_of_getElem? hq))), part_len (by rw [HD.out]; have := HMA.out; unfold Hid at this; omega)]
        have := HK0.out; unfold Hid at this; omega
       clear V7 K7 hw7
       go_wp2
       refine bodyPost_ret (q1q rfl rfl HV8.out Try.underlying38 rfl (by kernel_rfl)) rfl ⟨_, some ⟨g5, 0, none⟩, 0 * 64, 0 * 64, none, 0, 0, g5, rfl, HB8.out, ?_, ?_, q0Z _ _, ?_, ?_, ?_⟩
       · rw [HChg.out]
         refine q2Q (rSectors.weaken (DiskR.rd (P := fun b => g ≤ b ∧ b < wK.heap.size) (HDn.out.weaken (fun b hb _ => ⟨by omega, hb.2⟩)) ⟨Nat.le_refl _, HB.out.1⟩ HD.out (by omega)) (fun b hb _ => ?_)) (rSnps.weaken HSn7.out (fun b hb _ => ?_)) HNX.out
         all_goals (have h3 := HG5.out; unfold Hid at h3; have h1 := HB.out; have h2 := HZ.out; unfold Hid at h1 h2; (try dsimp only at hb ⊢); omega)
       · rw [HChD.out]; exact HFr.out
       · have h3 := HG5.out; have h1 := HB.out; have h2 := HZ.out; unfold Hid at h1 h2 h3; omega
       · exact Nat.lt_of_lt_of_le HG5.out.2 HK8.out.size
       · exact ((Kept.below (on B1.out B6.out)).mono (fun b hb => hb.1)).trans (HK8.out.mono (fun b hb => by have := HZ.out; unfold Hid at this; have := hb.1; omega))
 · have hAc2 : ¬ ((n : Int) = (A : Int)) := by omega
   go_enter Try.func31, Try.ntmps31
   go_wp2_with fail
   refine wp_region_held_drew (S := (fun w' : World => w'.cell? ⟨bs, 0, none⟩ = some (.slice (some ⟨g, 0, none⟩) n n) ∧ w'.cell? ⟨w.heap.size, 1, none⟩ = some (.int .i64 (A : Int)) ∧ w'.cell? ⟨w.heap.size, 2, none⟩ = some (.int .i64 (Kq : Int)))) (by kernel_rfl) (S0) (fun hH => ?_)
   refine tkM 0 _ rfl rfl ?_; simp only [sz, ss]
   refine tkM 1 _ rfl rfl ?_; simp only [sz, ss]
   refine tkM 2 _ rfl rfl ?_; simp only [sz, ss]
   refine tkM 3 _ rfl rfl ?_; simp only [sz, ss]
   refine tkM 4 _ rfl rfl ?_; simp only [sz, ss]
   refine tkM 5 _ rfl rfl ?_; simp only [sz, ss]
   refine tkM 6 _ rfl rfl ?_; simp only [sz, ss]
   refine tkM 7 _ rfl rfl ?_; simp only [sz, ss]
   refine tkM 8 _ rfl rfl ?_; simp only [sz, ss]
   refine tkM 9 _ rfl rfl ?_; simp only [sz, ss]
   refine tkM 10 _ rfl rfl ?_; simp only [sz, ss]
   refine tkM 11 _ rfl rfl ?_; simp only [sz, ss]
   refine r1L 12 rfl fun K hK => ?_
   · go_simp
     go_at_call 49
     refine Calls.mono (joined_u w1.drew (fun b => g ≤ b ∧ b < wK.heap.size) (some ⟨g, A, none⟩) (M - A) (n - A) (Mo.part s.1 A Kq) (rSectors.keep (w := w1) (by rw [HMA.out]; exact DiskR.part (P := fun b => g ≤ b ∧ b < wK.heap.size) ((HDK.out.below BK.out).weaken (fun b hb _ => ⟨Nat.le_of_succ_le hb.1, hb.2⟩)) ⟨Nat.le_refl _, HB.out.1⟩ HD.out (by have := HMA.out; unfold Hid at this; omega) (by have := HMA.out; unfold Hid at this; omega) (by omega)) (fun _ _ _ => rfl)) (fun x hx => q8Z HFine.out.now x (qDJ hx)) (by omega)) ?_
     rintro e w6 ⟨g5, rfl, hgs, R6, bd6⟩
     have B6 : Hid (Below w1.heap.size w1 w6) := (Below.refl _ w1).drew.trans bd6
     have HR6 : Hid _ := R6
     have HG5 : Hid (w1.heap.size ≤ g5 ∧ g5 < w6.heap.size) := ⟨hgs, R6.lt⟩
     have S1 := HSee.out _ ((Kept.below B6.out).mono (fun b hb => hb.1))
     have HRR6 := HRR.out.below B6.out
     have r0 := HRR6.cell (j := 0) rfl
     have r1 := HRR6.cell (j := 1) rfl
     have r2 := HRR6.cell (j := 2) rfl
     have r3 := HRR6.cell (j := 3) rfl
     have r4 := HRR6.cell (j := 4) rfl
     have f0 := HRR6.frozen 0
     have f1 := HRR6.frozen 1
     have f2 := HRR6.frozen 2
     have f3 := HRR6.frozen 3
     have f4 := HRR6.frozen 4
     obtain ⟨w7, hw7, V7, K7⟩ := HRR6.whole5 (.int .i64 0) (.slice (some ⟨g5, 0, none⟩) ((M - A) * 64) ((M - A) * 64)) (.int .i64 0) (.slice none 0 0) (.int .i64 0)
     have S2 := HSee.out _ (((Kept.below B6.out).mono (fun b hb => hb.1)).trans ((K7).mono (fun b hb => hb.2.2)))
     clear hgs R6 bd6
     go_simp
     refine hK.out _ _ ?_ (fun hH => ?_)
     · try dsimp only
       exact S1
     clear hK K
     refine tkM 13 _ rfl rfl ?_; simp only [sz, ss]
     refine r1L 14 rfl fun K hK => ?_
     · go_simp
       refine hK.out _ _ ?_ (fun hH => ?_)
       · try dsimp only
         first | exact S2 | exact S1
       clear hK K
       refine wpAnyH_done (by kernel_rfl) ?_ _
       clear hH S1 S2 r0 f0 r1 f1 r2 f2 r3 f3 r4 f4
       have HB8 : Hid (Row w7 bs 31 [.slice (some ⟨g, 0, none⟩) n n, v, .int .i64 s.2.2]) := (HBx.out.below B6.out).keep (K7.block bs (by have := HB.out; have := HZ.out; unfold Hid at *; omega))
       have HV8 : Hid _ := V7
       have HK8 : Hid _ := K7
       have HDn : Hid (DiskR w7 (fun b => g + 1 ≤ b ∧ b < wK.heap.size) g vs s.1) := ((HDK.out.below BK.out).below B6.out).keep (fun b hb hl => K7.block b (by have := HB.out; have := HZ.out; unfold Hid at *; omega)) (K7.block g (by have := HB.out; have := HZ.out; unfold Hid at *; omega))
       have HSn7 : Hid (rSnps.rd w7 (fun b => g + 1 ≤ b ∧ b < wK.heap.size) [v] s.2.1) := rSnps.keep HSN.out (fun b hb hl => (K7.block b (by have := HB.out; have := HZ.out; unfold Hid at *; omega)).trans ((on BK.out B6.out).block b hl))
       have HFr : Hid (rFree.rd w7 (fun b => b = g5) [.slice (some ⟨g5, 0, none⟩) ((M - A) * 64) ((M - A) * 64)] (Mo.octets (Mo.part s.1 A Kq))) := by
        refine rFree.keep (row_free HR6.out ?_ (by omega)) (fun b hb _ => K7.block b (by have := HG5.out; have := HZ.out; have hb2 : b = g5 := hb; unfold Hid at *; omega))
        rw [← qFj, qAX (fun j => by
         rw [List.getD_eq_getElem?_getD]
         cases hq : (Mo.part s.1 A Kq)[j]? with
         | none => exact .inl rfl
         | some x => exact q8Z HFine.out.now x (qDJ (List.mem_of_getElem? hq))), part_len (by rw [HD.out]; have := HMA.out; unfold Hid at this; omega)]
        rw [HMA.out]
       clear V7 K7 hw7
       go_wp2
       refine bodyPost_ret (q1q rfl rfl HV8.out Try.underlying38 rfl (by kernel_rfl)) rfl ⟨_, some ⟨g5, 0, none⟩, (M - A) * 64, (M - A) * 64, none, 0, 0, g5, rfl, HB8.out, ?_, ?_, q0Z _ _, ?_, ?_, ?_⟩
       · rw [HChg.out]
         refine q2Q (rSectors.weaken (DiskR.rd (P := fun b => g ≤ b ∧ b < wK.heap.size) (HDn.out.weaken (fun b hb _ => ⟨by omega, hb.2⟩)) ⟨Nat.le_refl _, HB.out.1⟩ HD.out (by omega)) (fun b hb _ => ?_)) (rSnps.weaken HSn7.out (fun b hb _ => ?_)) HNX.out
         all_goals (have h3 := HG5.out; unfold Hid at h3; have h1 := HB.out; have h2 := HZ.out; unfold Hid at h1 h2; (try dsimp only at hb ⊢); omega)
       · rw [HChD.out]; exact HFr.out
       · have h3 := HG5.out; have h1 := HB.out; have h2 := HZ.out; unfold Hid at h1 h2 h3; omega
       · exact Nat.lt_of_lt_of_le HG5.out.2 HK8.out.size
       · exact ((Kept.below (on B1.out B6.out)).mono (fun b hb => hb.1)).trans (HK8.out.mono (fun b hb => by have := HZ.out; unfold Hid at this; have := hb.1; omega))
end Go.Proofs.Ytoophkmnppoppaa
