/-
  The contracts of lists of octets copied, and of whether two such lists are one. Conditions: those that each contract names.
-/
import Derived.Test.YtckcicomkapdeaaRBytes
import Derived.Deep.RegionWith
import Derived.Deep.DeepCutAuto
namespace Go.Proofs.Ytckcicomkapdeaa
open Go.RowKit
set_option linter.unusedVariables false

theorem Owns.elem {α β : Type} {A : Rep α} {C : Rep β} {e : TypeId} {base : Nat} {wr w5 : World} {v : Value} {l : List α} (O : Owns A e wr base v l) (hb : base ≤ wr.heap.size) {cs : List Value} {x : β} {P : Nat → Prop} (h : C.rd w5 P cs x) (hP : ∀ b, P b → wr.heap.size ≤ b) (o : Obj) :
    C.rd (w5.alloc o) (fun b => base ≤ b ∧ v.ownBlock ≠ some b) cs x :=
  C.weaken (Rep.below h ((Below.refl _ _).alloc (Nat.le_refl _) _)) (fun b hb _ => ⟨by have := hP b hb; omega, fun e => by have := O.row b e; have := hP b hb; omega⟩)

set_option maxHeartbeats 800000 in
theorem copyList_r (w : World) (P : Nat → Prop) (a : Option Addr) (n c : Nat) (L : List (List UInt8)) (h : rSectors.rd w P [.slice a n c] L) :
    Calls Try.prog 32 #[.slice a n c] w fun e w' => ∃ b d, e = .returned (.slice b n d) ∧ rSectors.rd w' (fun k => w.heap.size ≤ k) [.slice b n d] L ∧ Below w.heap.size w w' := by
  have hl : L.length = n ∧ n ≤ 5864062014634 := by
    obtain ⟨a', n', c', e, h1, _, _, h4, _⟩ := h
    simp only [List.cons.injEq, Value.slice.injEq, and_true] at e
    obtain ⟨rfl, rfl, rfl⟩ := e
    have h5 : n * 24 ≤ 140737488351232 := h4
    exact ⟨h1, by omega⟩
  obtain ⟨hn, hn2⟩ := hl
  have HN : Hid _ := hn
  clear hn
  have H0 : Owns rBytes 26 w w.heap.size (.slice none 0 0) (L.take 0) := by rw [List.take_zero]; exact Owns.nil _ _ _ _
  go_enter Try.func32, Try.ntmps32
  go_wp2
  go_loopw [3, 4] (fun s i wr => ∃ (k : Nat) (M : List (List UInt8)), k ≤ n ∧ i = .int .i64 k ∧ M.length = k ∧ Hid (M = L.take k) ∧ Hid (Owns rBytes 26 wr w.heap.size s M) ∧ Below w.heap.size w wr) (fun _ i _ => n - (intOf i).toNat)
  case atStart => exact ⟨0, _, Nat.zero_le _, rfl, by simp, rfl, H0, Below.refl _ _⟩
  case round =>
    obtain ⟨k, M, hk, rfl, hml, HMk, O, bel⟩ := hrel
    clear H0
    by_cases hlt : k < n
    · have hAr := Rep.below h bel
      obtain ⟨g, off, rfl, -, hgl, hat⟩ := rLists_at hAr (by omega)
      have hkl : k < L.length := by rw [HN.out]; exact hlt
      obtain ⟨x, l, e, hx, hl, hcell⟩ := hat k hkl
      have HNX : Hid (M ++ [L[k]] = L.take (k + 1)) := by unfold Hid; rw [HMk.out, List.take_succ_eq_append_getElem hkl]
      have hz : w.heap.size ≤ wr.heap.size := bel.size
      have hok : Hid ((k + 1) * 24 ≤ 140737488355328 ∧ k + 1 ≤ maxLen) := ⟨by omega, by unfold maxLen; omega⟩
      clear hat hl hAr
      generalize L[k] = X at *
      go_wp2_with (first
        | (go_at_call 10
           refine (copy_r _ _ x l e _ hx).mono ?_
           rintro e w5 ⟨b5, d5, rfl, hr5, bb5⟩
           have hz5 : w.heap.size ≤ (w5.alloc (.cells #[.slice b5 l d5] 26)).heap.size := by have := bb5.size; simp only [World.size_alloc]; omega)
        | (at_builtin
           (refine append_rep elem_sectors rfl _ _ rfl w.heap.size _ M rfl ((O.out.below bb5).below ((Below.refl _ _).alloc (Nat.le_refl _) _)) ⟨w5.heap.size, 0, none⟩ [.slice b5 l d5] X rfl (cell_one_new _ _ _) (O.out.elem hz hr5 (fun b hb => hb) _) (by rw [hml]; exact hok.out.1) (by rw [hml]; exact hok.out.2) hz5 ?_; intro b6 d6 w6 ho6 g6; rw [hml] at ho6)))
      go_roundw
      case rel => exact ⟨k + 1, M ++ [X], by omega, by go_num, by simp [hml], HNX, ho6, ((on bel bb5).alloc (by have := bb5.size; omega) _).grown g6 hz5 (fun k hk => (O.out.row k hk).1)⟩
      case measure => simp [intOf]; omega
    · obtain rfl : k = n := by omega
      go_wp2
      go_ret
      rw [List.take_of_length_le (by rw [HN.out]; exact Nat.le_refl _)] at HMk
      obtain ⟨a', c', e1, e2⟩ := Owns.rd (hs := by decide) O.out (by rw [hml]; show k * 24 ≤ _; omega)
      rw [hml, HMk.out] at e2
      rw [hml] at e1
      exact ⟨a', c', by rw [← e1]; rfl, e2, bel⟩

theorem rSectors_len {w : World} {P : Nat → Prop} {a : Option Addr} {n c : Nat} {L : List (List UInt8)} (h : rSectors.rd w P [.slice a n c] L) : L.length = n ∧ n ≤ 5864062014634 := by
  obtain ⟨a', n', c', e, h1, _, _, h4, _⟩ := h
  simp only [List.cons.injEq, Value.slice.injEq, and_true] at e
  obtain ⟨rfl, rfl, rfl⟩ := e
  have h5 : n * 24 ≤ 140737488351232 := h4
  exact ⟨h1, by omega⟩

end Go.Proofs.Ytckcicomkapdeaa
