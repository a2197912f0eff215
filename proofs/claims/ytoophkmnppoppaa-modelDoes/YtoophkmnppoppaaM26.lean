/-
  Facts that the proof rests on, part 27. Conditions: those that each of them names.
-/
import Derived.Lib.AppendZeros
import Derived.Test.YtoophkmnppoppaaM04
import Derived.Test.YtoophkmnppoppaaM18
namespace Go.Proofs.Ytoophkmnppoppaa
open Go.RowKit
set_option linter.unusedVariables false
theorem rSnps_flat {w : World} {P : Nat → Prop} {ad : Addr} {n c : Nat} {m : List Snp} (h : rSnps.rd w P [.slice (some ad) n c] m) :
 ∀ k, k ≤ m.length → ∃ xs, q5j rSnp w P xs (m.take k) ∧ xs.length = k * 3 ∧ ∀ j u, xs[j]? = some u → w.cell? (ad.add j) = some u := by
 obtain ⟨a', n', c', e, h1, h2, h3, h4, h5⟩ := h
 simp only [List.cons.injEq, Value.slice.injEq, and_true] at e
 obtain ⟨rfl, rfl, rfl⟩ := e
 intro k
 induction k with
 | zero => exact fun _ => ⟨[], rfl, rfl, fun j u hj => by simp at hj⟩
 | succ k ih =>
   intro hk
   obtain ⟨xs, g1, g2, g3⟩ := ih (by omega)
   obtain ⟨-, cs, k1, k2⟩ := h5 ad rfl k (by omega)
   have hc : cs.length = 3 := rSnp.len k1
   refine ⟨xs ++ cs, ?_, by rw [List.length_append, g2, hc]; omega, fun j u hj => ?_⟩
   · rw [List.take_succ_eq_append_getElem (by omega)]
     exact q4X g1 (q6Q k1)
   · by_cases hj2 : j < xs.length
     · rw [List.getElem?_append_left hj2] at hj
       exact g3 j u hj
     · rw [List.getElem?_append_right (by omega), g2] at hj
       have := k2 (j - k * 3) u hj
       rw [show rSnp.size = 3 from rfl, show k * 3 + (j - k * 3) = j by omega] at this
       exact this
theorem q5Q {w : World} {base : Nat} {Q : Nat → Prop} {v : Value} {l : List Snp} (hown : OwnsQ rSnp 67 w base Q v l) {P : Nat → Prop} {a : Option Addr} {n c : Nat} {m : List Snp} (h : rSnps.rd w P [.slice a n c] m) (hP : ∀ b, P b → b < w.heap.size → Q b ∧ v.ownBlock ≠ some b) (hb : l.length + n ≤ 1000000) (hbase : base ≤ w.heap.size) (ty : TypeId) :
 ∃ v' w', (Builtin.append_ #[23, 23] ty #[v, .slice a n c]).run Try.prog w = .ok v' w' ∧ OwnsQ rSnp 67 w' base Q v' (l ++ m) ∧ w.grownBy w' v.ownBlock ∧ (v'.ownBlock = v.ownBlock ∨ v'.ownBlock = some w.heap.size) := by
 obtain ⟨ht, i, z, hi, hz, hsize, hby, hzs, hpos⟩ := q3Z
 obtain ⟨hl, hnc, hnil, -⟩ := q0Q h
 cases a with
 | none =>
   obtain rfl := hnil rfl
   obtain rfl : n = 0 := by omega
   obtain rfl : m = [] := List.length_eq_zero_iff.1 hl
   obtain ⟨xs, h1, h2⟩ := hown
   exact ⟨v, w, run_append_owned_none (P := Try.prog) (w := w) base 23 ty 67 i 3 ht hi v l.length xs h1, by rw [List.append_nil]; exact ⟨xs, h1, h2⟩, World.grownBy.refl _ _, .inl rfl⟩
 | some ad =>
   obtain ⟨ys, g1, g2, g3⟩ := rSnps_flat h m.length (Nat.le_refl _)
   rw [List.take_length] at g1
   obtain ⟨xs, h1, h2⟩ := hown
   obtain ⟨v', w', hr, k1, k2, -, k4⟩ := run_append_own_at (P := Try.prog) w base 23 ty 67 i z 3 48 ht hi hz hsize hby hzs (by decide) v l.length xs h1 ad n c ys (by rw [g2, hl]) g3
    (fun u hu => by
     obtain ⟨j, hj, rfl⟩ := List.mem_iff_getElem.1 hu
     exact rdAll_one g1 _ (List.getElem_mem hj)) (by unfold maxLen; omega) (by omega) hbase
   refine ⟨v', w', hr, ⟨xs ++ ys, by rw [List.length_append, hl]; exact k1, ?_⟩, k2, k4⟩
   have h3 : q5j rSnp w (fun b => Q b ∧ v.ownBlock ≠ some b) (xs ++ ys) (l ++ m) := q4X h2 (q1j hP g1)
   have h6 : q5j rSnp w (fun b => (Q b ∧ v'.ownBlock ≠ some b) ∧ v.ownBlock ≠ some b) (xs ++ ys) (l ++ m) := q1j (fun b hb hl => ⟨⟨hb.1, fun e => by
    rcases k4 with h | h
    · exact hb.2 (h ▸ e)
    · rw [h] at e; cases e; omega⟩, hb.2⟩) h3
   exact q1j (fun b hb _ => hb.1) (q3X (w' := w') (fun b hb hl => k2.block b hl (fun e => hb.2 e.symm)) h6)
theorem rSnps_front {w : World} {P : Nat → Prop} {a : Option Addr} {n c : Nat} {l : List Snp} (h : rSnps.rd w P [.slice a n c] l) {k : Nat} (hk : k ≤ n) : rSnps.rd w P [.slice a k c] (l.take k) := by
 obtain ⟨a', n', c', e, h1, h2, h3, h4, h5⟩ := h
 simp only [List.cons.injEq, Value.slice.injEq, and_true] at e
 obtain ⟨rfl, rfl, rfl⟩ := e
 refine ⟨a, k, c, rfl, by rw [List.length_take]; omega, by omega, h3, by have : n * 48 ≤ 140737488351232 := h4; show k * 48 ≤ _; omega, fun x hx j hj => ?_⟩
 have hj' : j < l.length := by rw [List.length_take] at hj; omega
 have := h5 x hx j hj'
 rw [List.getElem_take]
 exact this
theorem rSnps_rest {w : World} {P : Nat → Prop} {b off n c : Nat} {l : List Snp} (h : rSnps.rd w P [.slice (some ⟨b, off, none⟩) n c] l) {k : Nat} (hk : k ≤ n) : rSnps.rd w P [.slice (some ⟨b, off + k * 3, none⟩) (n - k) (c - k)] (l.drop k) := by
 obtain ⟨a', n', c', e, h1, h2, h3, h4, h5⟩ := h
 simp only [List.cons.injEq, Value.slice.injEq, and_true] at e
 obtain ⟨rfl, rfl, rfl⟩ := e
 refine ⟨_, _, _, rfl, by rw [List.length_drop, h1], by omega, (fun e => by cases e), by have : n * 48 ≤ 140737488351232 := h4; show (n - k) * 48 ≤ _; omega, fun x hx j hj => ?_⟩
 simp only [Option.some.injEq] at hx
 subst hx
 have hj' : k + j < l.length := by rw [List.length_drop] at hj; omega
 obtain ⟨hp, cj, g1, g2⟩ := h5 ⟨b, off, none⟩ rfl (k + j) hj'
 refine ⟨hp, cj, by rw [List.getElem_drop]; exact g1, fun r v hv => ?_⟩
 have := g2 r v hv
 rw [Addr.add_lit] at this ⊢
 rw [show off + k * 3 + (j * rSnp.size + r) = off + ((k + j) * rSnp.size + r) from by rw [show rSnp.size = 3 from rfl]; omega]
 exact this
theorem rSnps_zero (w : World) (P : Nat → Prop) (a : Option Addr) (c : Nat) (h : a = none → c = 0) : rSnps.rd w P [.slice a 0 c] [] := ⟨a, 0, c, rfl, rfl, Nat.zero_le _, h, by decide, fun x hx j hj => by cases hj⟩
theorem OwnsQ.nilS (w : World) (base : Nat) (Q : Nat → Prop) : OwnsQ rSnp 67 w base Q (.slice none 0 0) [] := ⟨[], World.ownsRow_nil w base 67 rSnp.size, rfl⟩
end Go.Proofs.Ytoophkmnppoppaa
