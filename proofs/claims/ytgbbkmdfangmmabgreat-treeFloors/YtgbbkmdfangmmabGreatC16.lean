/-
  Facts that the proof rests on, part 17. Conditions: those that each of them names.
-/
import Derived.Lib.AppendZerosOnto
import Derived.Test.YtgbbkmdfangmmabGreatC02
namespace Go.Proofs.YtgbbkmdfangmmabGreat
set_option maxRecDepth 20000
open Go.RowKit
set_option linter.unusedVariables false
theorem copy_run2 {Pr : Program} (w : World) (dT sT ty : TypeId) (e : TypeId) (hu : Pr.underlying dT = some (.slice e)) (hsz : (Pr.info? e).map (·.size) = some 2)
    (dp sp : Option Addr) (dLen dCap sLen sCap : Nat) (g off : Nat) (cur : List Value) (t : TypeId) (hg : Row w g t cur) (cs : List Value) (hn : cs.length = Nat.min sLen dLen * 2)
    (hpos : 0 < cs.length → dp = some ⟨g, off, none⟩ ∧ ∃ ad, sp = some ad ∧ ∀ (j : Nat) (v : Value), cs[j]? = some v → w.cell? (ad.add j) = some v)
    (hfit : off + cs.length ≤ cur.length) (h1 : ∀ v ∈ cs, v.oneCell' = true) :
    ∃ w', (Builtin.copy_ #[dT, sT] ty #[.slice dp dLen dCap, .slice sp sLen sCap]).run Pr w = .ok (goInt (Nat.min sLen dLen)) w' ∧ Row w' g t (splice cur off cs) ∧ Kept (· ≠ g) w w' ∧ w'.heap.size = w.heap.size := by
  obtain ⟨i, hq⟩ : ∃ i, Pr.info? e = some i := by
    cases hq : Pr.info? e with
    | none => simp [hq] at hsz
    | some i => exact ⟨i, rfl⟩
  have hi : i.size = 2 := by simpa [hq] using hsz
  by_cases h0 : cs.length = 0
  · obtain rfl : cs = [] := List.eq_nil_of_length_eq_zero h0
    have hm : Nat.min sLen dLen = 0 := by simp only [List.length_nil] at hn; omega
    refine ⟨w, ?_, ?_, Kept.refl _ _, rfl⟩
    · rw [hm]
      have hl : ∀ (x : Addr), (loadCells x 0).run Pr w = .ok #[] w := fun x => by simpa using run_loadCells_list (P := Pr) w x [] (by simp)
      cases dp <;> cases sp <;> simp [Builtin.copy_, run_underlying hu, Builtin.lenOf, Builtin.firstCells, sizeOf, typeInfo, hq, hm, storeCells, hl]
    · rw [show splice cur off [] = cur from by simp [splice]]; exact hg
  · obtain ⟨rfl, ad, rfl, hsrc⟩ := hpos (by omega)
    have hl := run_loadCells_list (P := Pr) w ad cs hsrc
    have hst := run_storeCells_at Pr g off t cs 0 cur.toArray w hg.eq (by simpa using hfit) h1
    simp only [Nat.add_zero] at hst
    refine ⟨w.setRow g (splice cur off cs).toArray, ?_, ⟨setRow_heap w g _ _ t _ hg.eq⟩, ⟨rfl, rfl, rfl, by simp, fun k hk => setRow_other w g k _ hk⟩, by simp⟩
    simp [Builtin.copy_, run_underlying hu, Builtin.lenOf, Builtin.firstCells, sizeOf, typeInfo, hq, hi, ← hn, hl, hst, splice]
theorem take_splice {α : Type} {L cs : List α} {off : Nat} (h : off ≤ L.length) : (splice L off cs).take (off + cs.length) = L.take off ++ cs := by
  unfold splice
  rw [← List.append_assoc]
  have hl : (L.take off ++ cs).length = off + cs.length := by rw [List.length_append, List.length_take]; omega
  rw [← hl]
  exact List.take_left
theorem take_splice_lt {α : Type} {L cs : List α} {off k : Nat} (hk : k ≤ off) (h : off ≤ L.length) : (splice L off cs).take k = L.take k := by
  unfold splice
  rw [List.take_append_of_le_length (by rw [List.length_take]; omega), List.take_take, Nat.min_eq_left hk]
theorem drop_splice {α : Type} {L cs : List α} {off : Nat} (h : off ≤ L.length) : (splice L off cs).drop off = cs ++ L.drop (off + cs.length) := by
  unfold splice
  rw [List.drop_append_of_le_length (by rw [List.length_take]; omega)]
  rw [List.drop_of_length_le (by rw [List.length_take]; omega), List.nil_append]
end Go.Proofs.YtgbbkmdfangmmabGreat
