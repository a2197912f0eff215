/-
  Facts that the proof rests on, part 5. Conditions: those that each of them names.
-/
import Derived.ChangeArms
import Derived.DataReads
import Derived.Deep.Slices
import Derived.OpenShut
import Derived.ProofKit
import Derived.SizedLaws
import Derived.Test.YtoophkmnppoppaaM00
import Derived.Test.YtoophkmnppoppaaM02
namespace Go.Proofs.Ytoophkmnppoppaa
open Go.ChangeShapes Go.WideShapes Go.ChangeAt Go.RowKit Go.Deep
set_option linter.unusedVariables false
def Opens {α : Type} (Pr : Program) (t : TypeId) (A : Rep α) : Prop :=
 ∀ (H : Type) (enc : TypeId × Value → H) (w : World) (fuel : Nat) (cs : List Value) (d : DataW H) (ps : List MemPlace),
   DataW.trod enc Pr w 0 (fun _ => true) true fuel t cs = some (d, ps) → (∀ k ∈ d.weights Pr t, k ≤ reachBytes) → ∃ x : α, A.rd w (fun _ => True) cs x
theorem q6X {Pr : Program} {t : TypeId} (ht : Pr.underlying t = some (.int .i64)) : Opens Pr t rInt := by
 intro H enc w fuel cs d ps h _
 obtain ⟨n, rfl, _, hw⟩ := DataW.trod_int ht h
 have := bounds_i64 hw
 exact ⟨n, rfl, by omega, by omega⟩
theorem opens_byte {Pr : Program} {t : TypeId} (ht : Pr.underlying t = some (.int .u8)) : Opens Pr t rByte := by
 intro H enc w fuel cs d ps h _
 obtain ⟨n, rfl, _, hw⟩ := DataW.trod_int ht h
 have hb := bounds_u8 hw
 refine ⟨UInt8.ofNat n.toNat, ?_⟩
 show [Value.int .u8 n] = [.int .u8 ((UInt8.ofNat n.toNat).toNat : Int)]
 rw [UInt8.toNat_ofNat']
 have : ((n.toNat % 2 ^ 8 : Nat) : Int) = n := by omega
 rw [this]
theorem weights_all {H : Type} {Pr : Program} {e : TypeId} {l : List (DataW H)} {d : DataW H} (hd : d ∈ l) : ∀ k ∈ d.weights Pr e, k ∈ DataW.weightsAll Pr e l := by
 induction l with
 | nil => cases hd
 | cons a l ih =>
   intro k hk
   simp only [DataW.weightsAll, List.mem_append]
   rcases List.mem_cons.1 hd with rfl | h
   · exact .inl hk
   · exact .inr (ih h k hk)
theorem qFX {α : Type} {Q : Nat → α → Prop} : ∀ (n : Nat), (∀ i, i < n → ∃ x, Q i x) → ∃ l : List α, l.length = n ∧ ∀ (i : Nat) (h : i < l.length), Q i l[i]
 | 0, _ => ⟨[], rfl, fun i h => by simp at h⟩
 | n + 1, h => by
   obtain ⟨l, hl, hq⟩ := qFX n (fun i hi => h i (by omega))
   obtain ⟨x, hx⟩ := h n (by omega)
   refine ⟨l ++ [x], by simp [hl], fun i hi => ?_⟩
   by_cases hin : i < l.length
   · rw [List.getElem_append_left hin]; exact hq i hin
   · have e : i = n := by simp at hi; omega
     subst e
     rw [List.getElem_append_right (by omega)]
     simpa [hl] using hx
theorem qBX {α : Type} {Pr : Program} {t e : TypeId} {A : Rep α} {hs : 0 < A.size} (ht : Pr.underlying t = some (.slice e)) (hc : Pr.cellsOf e = A.size) (hb : Pr.bytesOf e = A.bytes) (hA : Opens Pr e A) : Opens Pr t (q6Z A hs) := by
 intro H enc w fuel cs d ps h hw
 rcases open_slice ht h with ⟨rfl, hx⟩ | ⟨a, len, cap, m, n, D, Pl, rfl, _, hl, hm, hmm, hx, hel⟩
 · exact ⟨[], none, 0, 0, rfl, rfl, Nat.le_refl _, fun _ => rfl, by simp, fun x hx => by cases hx⟩
 · simp only [if_true] at hmm
   subst hmm
   simp only [Prod.mk.injEq] at hx
   obtain ⟨rfl, _⟩ := hx
   have hwt : (len + (m - len)) * A.bytes ≤ reachBytes := by
    have := hw ((len + (m - len)) * A.bytes) (by simp [DataW.weights, ht, hb])
    exact this
   have hbound : len * A.bytes ≤ 140737488351232 := by
    have : len * A.bytes ≤ (len + (m - len)) * A.bytes := Nat.mul_le_mul_right _ (by omega)
    unfold reachBytes at hwt
    omega
   have each : ∀ i, i < len → ∃ x : α, ∃ cj, A.rd w (fun _ => True) cj x ∧ ∀ (k : Nat) (v : Value), cj[k]? = some v → w.cell? (a.add (i * A.size + k)) = some v := by
    intro i hi
    obtain ⟨cs', h1, h2⟩ := hel i (by omega)
    obtain ⟨x, hx⟩ := hA H enc w n cs' (D i) (Pl i) h2 (fun k hk => hw k (by
     simp only [DataW.weights, ht, List.mem_cons, List.mem_append]
     exact .inr (.inl (weights_all (List.mem_map.2 ⟨i, List.mem_range.2 hi, rfl⟩) k hk))))
    refine ⟨x, cs', hx, fun k v hv => ?_⟩
    rw [hc] at h1
    obtain ⟨_, g1, g2⟩ := World.cells?_some h1
    have hk : k < A.size := by have := (List.getElem?_eq_some_iff.1 hv).1; rw [A.len hx] at this; exact this
    have := g2 k hk
    rw [Addr.add_add] at this
    rw [this, hv]
   obtain ⟨l, hlen, hl'⟩ := qFX len each
   refine ⟨l, some a, len, m, rfl, hlen, hl, (fun (h : some _ = none) => by cases h), hbound, fun x hx j hj => ?_⟩
   simp only [Option.some.injEq] at hx
   subst hx
   exact ⟨trivial, hl' j hj⟩
def qBJ {α : Type} (Pr : Program) (fs : List Field) (off : Nat) (A : Rep α) : Prop :=
 ∀ (H : Type) (enc : TypeId × Value → H) (w : World) (n : Nat) (cs : List Value) (xs : List (DataW H × List MemPlace)), xs.length = fs.length → cs.length = off + A.size →
   (∀ (i : Nat) (f : Field), fs[i]? = some f → DataW.trod enc Pr w 0 (fun _ => true) true n f.type ((cs.drop f.offset).take (Pr.cellsOf f.type)) = xs[i]?) →
   (∀ k ∈ DataW.weightsEach Pr (fs.map (·.type)) (xs.map (·.1)), k ≤ reachBytes) → ∃ x : α, A.rd w (fun _ => True) (cs.drop off) x
theorem qCq {α : Type} {Pr : Program} {f : Field} {off : Nat} {A : Rep α} (ho : f.offset = off) (hc : Pr.cellsOf f.type = A.size) (hA : Opens Pr f.type A) : qBJ Pr [f] off A := by
 intro H enc w n cs xs hl hcs hf hw
 match xs, hl with
 | [x], _ =>
   have h0 := hf 0 f rfl
   rw [ho, hc, List.take_of_length_le (by rw [List.length_drop]; omega)] at h0
   simp only [List.getElem?_cons_zero] at h0
   exact hA H enc w n _ x.1 x.2 h0 (fun k hk => hw k (by simpa [DataW.weightsEach] using hk))
theorem q2Z {α β : Type} {Pr : Program} {f : Field} {fs : List Field} {off : Nat} {A : Rep α} {B : Rep β} (ho : f.offset = off) (hc : Pr.cellsOf f.type = A.size) (hA : Opens Pr f.type A) (hB : qBJ Pr fs (off + A.size) B) :
 qBJ Pr (f :: fs) off (q9Z A B) := by
 intro H enc w n cs xs hl hcs hf hw
 match xs, hl with
 | x :: xs, hl =>
   have h0 := hf 0 f rfl
   rw [ho, hc] at h0
   simp only [List.getElem?_cons_zero] at h0
   have hcs' : cs.length = off + A.size + B.size := by rw [hcs]; show off + (A.size + B.size) = _; omega
   obtain ⟨y, hy⟩ := hA H enc w n _ x.1 x.2 h0 (fun k hk => hw k (by simp only [List.map_cons, DataW.weightsEach, List.mem_append]; exact .inl hk))
   obtain ⟨z, hz⟩ := hB H enc w n cs xs (by simpa using hl) hcs' (fun i g hg => by simpa using hf (i + 1) g (by simpa using hg))
    (fun k hk => hw k (by simp only [List.map_cons, DataW.weightsEach, List.mem_append]; exact .inr hk))
   refine ⟨(y, z), _, _, ?_, hy, hz⟩
   rw [← List.drop_drop, List.take_append_drop]
theorem q8z {α : Type} {Pr : Program} {t : TypeId} {fs : Array Field} {A : Rep α} (ht : Pr.underlying t = some (.struct fs)) (hc : Pr.cellsOf t = A.size) (hA : qBJ Pr fs.toList 0 A) : Opens Pr t A := by
 intro H enc w fuel cs d ps h hw
 obtain ⟨xs, n, _, hx, hl, hlen, hf⟩ := DataW.trod_struct ht h
 simp only [Prod.mk.injEq] at hx
 obtain ⟨rfl, _⟩ := hx
 obtain ⟨x, hx⟩ := hA H enc w n cs xs (by simpa using hlen) (by rw [hl, hc]; omega) (fun i f hi => hf i f (by simpa using hi)) (fun k hk => hw k (by simpa [DataW.weights, ht] using hk))
 exact ⟨x, by simpa using hx⟩
theorem Opens.arg {α : Type} {Pr : Program} {t : TypeId} {A : Rep α} (hA : Opens Pr t A) {H : Type} {enc : TypeId × Value → H} {w : World} {v : Value} {d : DataW H} {ps : List MemPlace}
 (h : DataW.Trod enc Pr w 0 (fun _ => true) true t v d ps) {ts : List TypeId} {ds : List (DataW H)} (hw : (DataW.weightsEach Pr ts ds).all (· ≤ reachBytes) = true) {j : Nat} (ht : ts[j]? = some t) (hd : ds[j]? = some d) :
 ∃ x : α, A.rd w (fun b => b < w.heap.size) v.cells.toList x := by
 obtain ⟨fuel, hf⟩ := h
 obtain ⟨x, hx⟩ := hA H enc w fuel _ d ps hf (fun k hk => by simpa using List.all_eq_true.1 hw k (DataW.weights_mem_each ht hd k hk))
 exact ⟨x, A.weaken hx (fun b _ hl => hl)⟩
end Go.Proofs.Ytoophkmnppoppaa
namespace Go.Proofs.Ytoophkmnppoppaa
open Go.RowKit
set_option linter.unusedVariables false
def OwnsQ {α : Type} (A : Rep α) (e : TypeId) (w : World) (base : Nat) (Q : Nat → Prop) (v : Value) (l : List α) : Prop :=
 ∃ xs, w.ownsRow base e A.size v l.length xs ∧ q5j A w (fun b => Q b ∧ v.ownBlock ≠ some b) xs l
theorem OwnsQ.keep {α : Type} {A : Rep α} {e : TypeId} {w w' : World} {base : Nat} {Q : Nat → Prop} {v : Value} {l : List α} (h : OwnsQ A e w base Q v l) (hk : ∀ b, b < w.heap.size → w'.heap[b]? = w.heap[b]?) : OwnsQ A e w' base Q v l := by
 obtain ⟨xs, h1, h2⟩ := h
 refine ⟨xs, ⟨h1.1, ?_⟩, q3X (fun b hb hl => hk b hl) h2⟩
 rcases h1.2 with h0 | ⟨g, cap, cur, rfl, g1, g2, g3⟩
 · exact .inl h0
 · exact .inr ⟨g, cap, cur, rfl, g1, by rw [hk g (Array.getElem?_eq_some_iff.1 g2).1]; exact g2, g3⟩
theorem OwnsQ.below {α : Type} {A : Rep α} {e : TypeId} {w w' : World} {base : Nat} {Q : Nat → Prop} {v : Value} {l : List α} (h : OwnsQ A e w base Q v l) (k : Below w.heap.size w w') : OwnsQ A e w' base Q v l := h.keep fun b hl => k.block b hl
theorem OwnsQ.weaken {α : Type} {A : Rep α} {e : TypeId} {w : World} {base : Nat} {Q Q' : Nat → Prop} {v : Value} {l : List α} (h : OwnsQ A e w base Q v l) (hq : ∀ b, Q b → Q' b) : OwnsQ A e w base Q' v l := by
 obtain ⟨xs, h1, h2⟩ := h
 exact ⟨xs, h1, q1j (fun b hb _ => ⟨hq b hb.1, hb.2⟩) h2⟩
theorem OwnsQ.row {α : Type} {A : Rep α} {e : TypeId} {w : World} {base : Nat} {Q : Nat → Prop} {v : Value} {l : List α} (h : OwnsQ A e w base Q v l) : ∀ k, v.ownBlock = some k → base ≤ k ∧ k < w.heap.size := by
 obtain ⟨xs, h1, _⟩ := h
 exact h1.lt
theorem OwnsQ.rd {α : Type} {A : Rep α} {hs : 0 < A.size} {e : TypeId} {w : World} {base : Nat} {Q : Nat → Prop} {v : Value} {l : List α} (h : OwnsQ A e w base Q v l) (hb : l.length * A.bytes ≤ 140737488351232) :
 ∃ a c, v = .slice a l.length c ∧ (q6Z A hs).rd w (fun b => Q b ∨ base ≤ b) [.slice a l.length c] l := by
 obtain ⟨xs, h1, h2⟩ := h
 exact qDZ h1 (q1j (fun b hb _ => .inl hb.1) h2) rfl hb (fun b e => .inr (h1.lt b e).1)
theorem OwnsQ.slice {α : Type} {A : Rep α} {e : TypeId} {w : World} {base : Nat} {Q : Nat → Prop} {v : Value} {l : List α} (h : OwnsQ A e w base Q v l) : ∃ b d, v = .slice b l.length d := by
 obtain ⟨xs, h1, _⟩ := h
 rcases h1.2 with ⟨rfl, h0⟩ | ⟨g, cap, cur, rfl, _⟩
 · exact ⟨none, 0, by rw [h0]⟩
 · exact ⟨_, _, rfl⟩
theorem q3q {α : Type} {Pr : Program} {t e ty : TypeId} {A : Rep α} (hE : q6q Pr t e A) {w : World} {base : Nat} {Qb : Nat → Prop} {v : Value} {l : List α} (hown : OwnsQ A e w base Qb v l)
 {ad : Addr} {c : List Value} {x : α} (hnews : ∀ j u, c[j]? = some u → w.cell? (ad.add j) = some u) (hc : A.rd w (fun b => Qb b ∧ v.ownBlock ≠ some b) c x)
 (hb : (l.length + 1) * A.bytes ≤ 140737488355328) (hm : l.length + 1 ≤ maxLen) (hbase : base ≤ w.heap.size) :
 ∃ b d w', (Builtin.append_ #[t, t] ty #[v, .slice (some ad) 1 1]).run Pr w = .ok (.slice b (l.length + 1) d) w' ∧ OwnsQ A e w' base Qb (.slice b (l.length + 1) d) (l ++ [x]) ∧ w.grownBy w' v.ownBlock ∧ ((Value.slice b (l.length + 1) d).ownBlock = v.ownBlock ∨ (Value.slice b (l.length + 1) d).ownBlock = some w.heap.size) := by
 obtain ⟨ht, i, z, hi, hz, hsize, hby, hzs, hpos⟩ := hE
 obtain ⟨xs, h1, h2⟩ := hown
 obtain ⟨v', w', hr, k1, k2, k3, k4⟩ := run_append_own_at (P := Pr) w base t ty e i z A.size A.bytes ht hi hz hsize hby hzs hpos v l.length xs h1 ad 1 1 c (by rw [A.len hc, Nat.one_mul]) hnews (A.one hc) hm hb hbase
 have hO : OwnsQ A e w' base Qb v' (l ++ [x]) := by
  refine ⟨xs ++ c, by simpa using k1, ?_⟩
  have h3 := q4X h2 (q6Q hc)
  have h6 : q5j A w (fun b => (Qb b ∧ v'.ownBlock ≠ some b) ∧ v.ownBlock ≠ some b) (xs ++ c) (l ++ [x]) := q1j (fun b hb hl => ⟨⟨hb.1, fun e => by
   rcases k4 with h | h
   · exact hb.2 (h ▸ e)
   · rw [h] at e; cases e; omega⟩, hb.2⟩) h3
  exact q1j (fun b hb _ => hb.1) (q3X (w' := w') (fun b hb hl => k2.block b hl (fun e => hb.2 e.symm)) h6)
 obtain ⟨b, d, hv⟩ := hO.slice
 rw [List.length_append] at hv
 have hv' : v' = .slice b (l.length + 1) d := hv
 subst hv'
 exact ⟨b, d, w', hr, hO, k2, k4⟩
theorem q2q {α : Type} {Pr : Program} {t e : TypeId} {A : Rep α} (hE : q6q Pr t e A) {w : World} {ops : Array Oper} {o : Oper} {a : Go.Act} {K : Go.Act → World → Prop} {Q : Exit → Go.Act → World → Prop} {E : Prop} (hgd : o.guard = none) (s y : Operand)
 (ho : o.op = .call { callee := .builtin .append, args := #[s, y], argTypes := #[t, t] })
 (base : Nat) (Qb : Nat → Prop) (v : Value) (l : List α) (hs : a.eval s = v) (hown : OwnsQ A e w base Qb v l)
 (ad : Addr) (c : List Value) (x : α) (hx : a.eval y = .slice (some ad) 1 1) (hnews : ∀ j u, c[j]? = some u → w.cell? (ad.add j) = some u) (hc : A.rd w (fun b => Qb b ∧ v.ownBlock ≠ some b) c x)
 (hb : (l.length + 1) * A.bytes ≤ 140737488355328) (hm : l.length + 1 ≤ maxLen) (hbase : base ≤ w.heap.size)
 (h : ∀ b d w', OwnsQ A e w' base Qb (.slice b (l.length + 1) d) (l ++ [x]) → w.grownBy w' v.ownBlock → ((Value.slice b (l.length + 1) d).ownBlock = v.ownBlock ∨ (Value.slice b (l.length + 1) d).ownBlock = some w.heap.size) → K (a.put o.dst (.slice b (l.length + 1) d)) w') :
 if Region.wanted o (yielded ops a.tmps) = true then Oper.wp Pr o a w K Q else E := by
 have hw : Region.wanted o (yielded ops a.tmps) = true := by simp [Region.wanted, hgd]
 rw [if_pos hw]
 obtain ⟨b, d, w', hr, k1, k2, k3⟩ := q3q (ty := o.type) hE hown hnews hc hb hm hbase
 unfold Oper.wp execOp
 simp only [ho, resolve, invoke, builtin, Sem.run_bind, Sem.run_pure, Result.andThen_ok, List.map_toArray, List.map_cons, List.map_nil, hs, hx, hr]
 exact h b d w' k1 k2 k3
end Go.Proofs.Ytoophkmnppoppaa
