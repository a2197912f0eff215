/-
  Facts that the proof rests on, part 13. Conditions: those that each of them names.
-/
import Derived.Test.YtinlgoljaiolnaaBK09
namespace Go.Proofs.Ytinlgoljaiolnaa
open Go.RowKit
set_option linter.unusedVariables false
theorem run_append_q {α : Type} {Pr : Program} {t e ty : TypeId} {A : Rep α} (hE : ElemOf Pr t e A) {w : World} {base : Nat} {Qb : Nat → Prop} {v : Value} {l : List α} (hown : OwnsQ A e w base Qb v l)
    {ad : Addr} {c : List Value} {x : α} (hnews : ∀ j u, c[j]? = some u → w.cell? (ad.add j) = some u) (hc : A.rd w (fun b => Qb b ∧ v.ownBlock ≠ some b) c x)
    (hb : (l.length + 1) * A.bytes ≤ 140737488355328) (hm : l.length + 1 ≤ maxLen) (hbase : base ≤ w.heap.size) :
    ∃ b d w', (Builtin.append_ #[t, t] ty #[v, .slice (some ad) 1 1]).run Pr w = .ok (.slice b (l.length + 1) d) w' ∧ OwnsQ A e w' base Qb (.slice b (l.length + 1) d) (l ++ [x]) ∧ w.grownBy w' v.ownBlock ∧ ((Value.slice b (l.length + 1) d).ownBlock = v.ownBlock ∨ (Value.slice b (l.length + 1) d).ownBlock = some w.heap.size) := by
  obtain ⟨ht, i, z, hi, hz, hsize, hby, hzs, hpos⟩ := hE
  obtain ⟨xs, h1, h2⟩ := hown
  obtain ⟨v', w', hr, k1, k2, k3, k4⟩ := run_append_own_at (P := Pr) w base t ty e i z A.size A.bytes ht hi hz hsize hby hzs hpos v l.length xs h1 ad 1 1 c (by rw [A.len hc, Nat.one_mul]) hnews (A.one hc) hm hb hbase
  have hO : OwnsQ A e w' base Qb v' (l ++ [x]) := by
    refine ⟨xs ++ c, by simpa using k1, ?_⟩
    have h3 := rdAll_append h2 (rdAll_one_elem hc)
    have h6 : rdAll A w (fun b => (Qb b ∧ v'.ownBlock ≠ some b) ∧ v.ownBlock ≠ some b) (xs ++ c) (l ++ [x]) := rdAll_weaken (fun b hb hl => ⟨⟨hb.1, fun e => by
      rcases k4 with h | h
      · exact hb.2 (h ▸ e)
      · rw [h] at e; cases e; omega⟩, hb.2⟩) h3
    exact rdAll_weaken (fun b hb _ => hb.1) (rdAll_keep (w' := w') (fun b hb hl => k2.block b hl (fun e => hb.2 e.symm)) h6)
  obtain ⟨b, d, hv⟩ := hO.slice
  rw [List.length_append] at hv
  have hv' : v' = .slice b (l.length + 1) d := hv
  subst hv'
  exact ⟨b, d, w', hr, hO, k2, k4⟩
end Go.Proofs.Ytinlgoljaiolnaa
