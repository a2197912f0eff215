/-
  Octets as lists that lie in memory; the contracts of octets copied, in that form. Conditions: those that each lemma names.
-/
import Derived.Test.YtbglgplfjhiafaaBytes
import Derived.Test.YtbglgplfjhiafaaBCopy
import Derived.Test.YtbglgplfjhiafaaHSpec
import Derived.Test.YtbglgplfjhiafaaROwn
namespace Go.Proofs.Ytbglgplfjhiafaa
open Go.RowKit
set_option linter.unusedVariables false

theorem rBytes_isB {w : World} {P : Nat → Prop} {a : Option Addr} {n c : Nat} {l : List UInt8} (h : rBytes.rd w P [.slice a n c] l) : IsB w a n l ∧ n ≤ c ∧ (a = none → c = 0) ∧ n ≤ 140737488351232 := by
  obtain ⟨a', n', c', e, h1, h2, h3, h4, h5⟩ := h
  simp only [List.cons.injEq, Value.slice.injEq, and_true] at e
  obtain ⟨rfl, rfl, rfl⟩ := e
  refine ⟨⟨h1, fun e => by have := h3 e; omega, fun x hx j hj => ?_⟩, h2, h3, by have : n * 1 ≤ _ := h4; omega⟩
  obtain ⟨_, cj, g1, g2⟩ := h5 x hx j hj
  have g1' : cj = [.int .u8 (l[j].toNat : Int)] := g1
  subst g1'
  have := g2 0 _ rfl
  rwa [show j * rByte.size + 0 = j from by show j * 1 + 0 = j; omega] at this

theorem rdAll_bytes (w : World) (P : Nat → Prop) : ∀ l : List UInt8, rdAll rByte w P (cellsOf l) l
  | [] => rfl
  | b :: l => ⟨[.int .u8 (b.toNat : Int)], cellsOf l, rfl, rfl, rdAll_bytes w P l⟩

theorem rBytes_owned {w : World} {base n c : Nat} {a : Option Addr} {l : List UInt8} (h : w.ownsRow base 5 1 (.slice a n c) n (cellsOf l)) (hn : n ≤ 140737488351232) : rBytes.rd w (fun b => base ≤ b) [.slice a n c] l := by
  have hl : n = l.length := by have := h.1; simp [cellsOf] at this; omega
  obtain ⟨a', c', e, hr⟩ := rd_owned (A := rByte) (hs := by decide) h (rdAll_bytes w (fun b => base ≤ b) l) hl (by show n * 1 ≤ _; omega) (fun b e => (World.ownsRow.lt h b e).1)
  simp only [Value.slice.injEq] at e
  obtain ⟨rfl, _, rfl⟩ := e
  exact hr

theorem copy_r (w : World) (P : Nat → Prop) (a : Option Addr) (n c : Nat) (l : List UInt8) (h : rBytes.rd w P [.slice a n c] l) :
    Calls Try.prog 10 #[.slice a n c] w fun e w' => ∃ b d, e = .returned (.slice b n d) ∧ rBytes.rd w' (fun k => w.heap.size ≤ k) [.slice b n d] l ∧ Below w.heap.size w w' := by
  obtain ⟨h1, h2, h3, h4⟩ := rBytes_isB h
  refine (copy_u w a n c l (by omega) h3 h1).mono ?_
  rintro e w' ⟨b, d, rfl, ho, hb⟩
  exact ⟨b, d, rfl, rBytes_owned ho h4, hb⟩

end Go.Proofs.Ytbglgplfjhiafaa
