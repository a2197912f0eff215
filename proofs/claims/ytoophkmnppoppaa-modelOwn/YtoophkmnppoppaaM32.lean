/-
  Facts that the proof rests on, part 33. Conditions: those that each of them names.
-/
import Derived.Test.YtoophkmnppoppaaM17
import Derived.Test.YtoophkmnppoppaaM19
import Derived.Test.YtoophkmnppoppaaM31
namespace Go.Proofs.Ytoophkmnppoppaa
open Go.RowKit
set_option linter.unusedVariables false
theorem do_w (w : World) (P : Nat → Prop) (a b : Option Addr) (n c m d : Nat) (next : Int) (s : Sta) (hS : rSta.rd w P [.slice a n c, .slice b m d, .int .i64 next] s) (k at' N id : Int) (nm : ByteArray) (dt : List UInt8) (xa : Option Addr) (xn xc : Nat) (h1 : I64 k) (h2 : I64 at') (h3 : I64 N) (h4 : I64 id) (h5 : nm.size ≤ maxLen) {P' : Nat → Prop} (hX : rBytes.rd w P' [.slice xa xn xc] dt) :
 Calls Try.prog 11 #[.agg #[.slice a n c, .slice b m d, .int .i64 next], .agg #[.int .i64 k, .int .i64 at', .int .i64 N, .int .i64 id, .string nm, .slice xa xn xc]] w fun e w' => ∃ (a' : Option Addr) (n' c' : Nat) (b' : Option Addr) (m' d' : Nat) (next' : Int) (da : Option Addr) (dn dc : Nat) (la : Option Addr) (ln lc : Nat) (db : Nat),
  e = .returned (.tuple #[.agg #[.slice a' n' c', .slice b' m' d', .int .i64 next'], .agg #[.int .i64 (Mo.doR s (k, at', N, id, nm, dt)).1, .slice da dn dc, .int .i64 (Mo.doR s (k, at', N, id, nm, dt)).2.2.1, .slice la ln lc, .int .i64 (Mo.doR s (k, at', N, id, nm, dt)).2.2.2.2]]) ∧
  rSta.rd w' (fun q => w.heap.size ≤ q ∧ q ≠ db) [.slice a' n' c', .slice b' m' d', .int .i64 next'] (Mo.doS s (k, at', N, id, nm, dt)) ∧ rFree.rd w' (fun q => q = db) [.slice da dn dc] (Mo.doR s (k, at', N, id, nm, dt)).2.1 ∧ rNmds.rd w' (fun q => w.heap.size ≤ q) [.slice la ln lc] (Mo.doR s (k, at', N, id, nm, dt)).2.2.2.1 ∧ w.heap.size ≤ db ∧ db < w'.heap.size ∧ Below w.heap.size w w' := by
 obtain ⟨a', n', c', b', m', d', e, -, -, -⟩ := q0X hS
 simp only [List.cons.injEq, Value.slice.injEq, Value.int.injEq, and_true, true_and] at e
 obtain ⟨-, -, rfl⟩ := e
 refine Calls.mono (do_u w (fun _ => True) a b n c m d s (rSta.weaken hS (fun _ _ _ => trivial)) k at' N id nm dt xa xn xc (rOpn.of h1 h2 h3 h4 h5 (rBytes.weaken hX (fun _ _ _ => trivial)))) ?_
 rintro e w' ⟨cs, rs, db, rfl, h1, ⟨da, dn, dc, la, ln, lc, rfl, h3, h4⟩, h5, h6, h7⟩
 obtain ⟨a', n', c', b', m', d', rfl, -, -, -⟩ := q0X h1
 exact ⟨a', n', c', b', m', d', _, da, dn, dc, la, ln, lc, db, rfl, h1, h3, h4, h5, h6, h7⟩
def DisksAll (S : Nat → Prop) (w : World) (a : Option Addr) (n : Nat) : Prop :=
 n = 0 ∨ ∃ b off, a = some ⟨b, off, none⟩ ∧ ∀ j, j < n → ∃ x m d, w.cell? ⟨b, off + j * 3 + 2, none⟩ = some (.slice x m d) ∧ m ≤ 5864062014634 ∧ OctsAll S w x m
theorem DisksAll.spoilt {S : Nat → Prop} {w w' : World} {a : Option Addr} {n : Nat} (h : DisksAll S w a n) (k : Spoilt S w w') : DisksAll S w' a n := by
 rcases h with h | ⟨b, off, h1, h3⟩
 · exact .inl h
 · exact .inr ⟨b, off, h1, fun j hj => by obtain ⟨x, m, d, g1, g2, g3⟩ := h3 j hj; exact ⟨x, m, d, k.other _ _ g1 (fun n e => by cases e), g2, g3.spoilt k⟩⟩
theorem disksAll_of {w : World} {P : Nat → Prop} {a : Option Addr} {n c : Nat} {L : List Snp} (h : rSnpsF.rd w P [.slice a n c] L) : DisksAll P w a n := by
 by_cases h0 : n = 0
 · exact .inl h0
 · have hl : L.length = n := (q0Q h).1
   obtain ⟨b, off, e1, -, -, e4⟩ := q7x h (by omega)
   refine .inr ⟨b, off, e1, fun j hj => ?_⟩
   obtain ⟨cj, g1, g2⟩ := e4 j (by omega)
   obtain ⟨c0, d0, rfl, ⟨rfl, -⟩, c1, d1, rfl, ⟨rfl, -⟩, g3⟩ := g1
   have g3' := g3
   obtain ⟨x, m, d, rfl, k1, k2, k3, k4, -⟩ := g3
   have := g2 2 (.slice x m d) rfl
   rw [show rSnpF.size = 3 from rfl, ← Nat.add_assoc] at this
   exact ⟨x, m, d, this, by have h : m * 24 ≤ 140737488351232 := k4; omega, qHQ g3'⟩
theorem qDQ {w : World} {P : Nat → Prop} {a b : Option Addr} {n c m d : Nat} {t : Int} {s : Sta} (h : rStaF.rd w P [.slice a n c, .slice b m d, .int .i64 t] s) : OctsAll P w a n ∧ DisksAll P w b m := by
 obtain ⟨c0, d0, e, h1, c1, d1, rfl, h2, -⟩ := h
 have h1' := h1
 have h2' := h2
 obtain ⟨x, y, z, rfl, -⟩ := h1
 obtain ⟨x', y', z', rfl, -⟩ := h2
 simp only [List.cons_append, List.nil_append, List.cons.injEq, Value.slice.injEq] at e
 obtain ⟨⟨rfl, rfl, rfl⟩, ⟨rfl, rfl, rfl⟩, -⟩ := e
 exact ⟨qHQ h1', disksAll_of h2'⟩
end Go.Proofs.Ytoophkmnppoppaa
