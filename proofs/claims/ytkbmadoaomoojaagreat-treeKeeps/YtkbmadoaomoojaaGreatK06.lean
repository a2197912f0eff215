/-
  Facts that the proof rests on, part 7. Conditions: those that each of them names.
-/
import Derived.Laws.AppendOwnNone
import Derived.Laws.IdiomStrings
import Derived.Lib.AppendStr
import Derived.Test.YtkbmadoaomoojaaGreatRows
import Derived.WalkKit
import Derived.WalkLawsBesides
import Derived.WalkSpells
import Derived.Test.YtkbmadoaomoojaaGreatK01
import Derived.Test.YtkbmadoaomoojaaGreatK02
import Derived.Test.YtkbmadoaomoojaaGreatK05
namespace Go.Proofs.YtkbmadoaomoojaaGreat
set_option maxRecDepth 20000
open Go.RowKit
set_option linter.unusedVariables false
theorem info_u8 : (Tryz.prog.info? 5).map (fun i => (i.zero, i.size, i.bytes)) = some (some (.int .u8 0), 1, 1) := by kernel_rfl
def IsB (w : World) (a : Option Addr) (n : Nat) (l : List UInt8) : Prop :=
 l.length = n ∧ (a = none → n = 0) ∧ ∀ x, a = some x → ∀ j (h : j < l.length), w.cell? (x.add j) = some (.int .u8 (l[j].toNat : Int))
theorem conv_bytes (w : World) (a : Option Addr) (n c : Nat) (l : List UInt8) (h : IsB w a n l) :
 (convert 53 9 (.slice a n c)).run Tryz.prog w = .ok (.string ⟨l.toArray⟩) w := by
 obtain ⟨rfl, h2, h3⟩ := h
 cases a with
 | none =>
   have : l = [] := List.length_eq_zero_iff.1 (h2 rfl)
   subst this
   rw [List.length_nil, run_convert_bytes_string w 53 9 5 none 0 c Tryz.underlying53 Tryz.underlying5 Tryz.underlying9]
   rfl
 | some x => exact run_convert_bytes_back w 53 9 5 x c l Tryz.underlying53 Tryz.underlying5 Tryz.underlying9 (h3 x rfl)
def cellsOf (l : List UInt8) : List Value := l.map fun b => Value.int .u8 (b.toNat : Int)
theorem cellsOf_length (l : List UInt8) : (cellsOf l).length = l.length := by simp [cellsOf]
theorem IsB.place {w : World} {a : Option Addr} {n : Nat} {l : List UInt8} (h : IsB w a n l) (hn : 0 < n) :
 ∃ b off, a = some ⟨b, off, none⟩ ∧ ∀ j (hj : j < l.length), w.cell? ⟨b, off + j, none⟩ = some (.int .u8 (l[j].toNat : Int)) := by
 obtain ⟨h1, h2, h3⟩ := h
 cases a with
 | none => have := h2 rfl; omega
 | some x =>
   obtain ⟨b, off, spot⟩ := x
   have hc := h3 _ rfl 0 (by omega)
   have hspot : spot = none := by simpa [Addr.add] using World.cell?_spot hc
   subst hspot
   exact ⟨b, off, rfl, fun j hj => by rw [← Addr.add_lit]; exact h3 _ rfl j hj⟩
theorem IsB.below {w w1 : World} {a : Option Addr} {n : Nat} {l : List UInt8} (h : IsB w a n l) (hb : Below w.heap.size w w1) : IsB w1 a n l := by
 refine ⟨h.1, h.2.1, fun x hx j hj => ?_⟩
 have hc := h.2.2 x hx j hj
 rw [hb.cell (World.block_lt_of_cell? _ _ hc)]
 exact hc
theorem isB_of_owns {w : World} {base g n c : Nat} {l : List UInt8} (h : w.ownsRow base 5 1 (.slice (some ⟨g, 0, none⟩) n c) n (cellsOf l)) : IsB w (some ⟨g, 0, none⟩) n l := by
 have hl : l.length = n := by have := h.1; simpa [cellsOf] using this
 refine ⟨hl, fun (e : some _ = none) => (by cases e), fun x hx j hj => ?_⟩
 simp only [Option.some.injEq] at hx
 subst hx
 rw [Addr.add_lit, Nat.zero_add, h.cellAt j (by omega)]
 simp [cellsOf, List.getElem?_eq_getElem hj]
theorem owns_slice {w : World} {base n : Nat} {v : Value} {l : List UInt8} (h : w.ownsRow base 5 1 v n (cellsOf l)) :
 ∃ a c, v = .slice a n c ∧ n ≤ c ∧ n = l.length ∧ IsB w a n l := by
 have hl : l.length = n := by have := h.1; simpa [cellsOf] using this
 rcases h.2 with ⟨rfl, rfl⟩ | ⟨g, cap, cur, rfl, _, _, hc, _⟩
 · have : l = [] := List.length_eq_zero_iff.1 hl
   subst this
   exact ⟨none, 0, rfl, Nat.le_refl _, rfl, rfl, fun _ => rfl, fun _ e => by cases e⟩
 · exact ⟨_, _, rfl, hc, hl.symm, isB_of_owns h⟩
theorem own_nil (w : World) (base : Nat) : w.ownsRow base 5 1 (.slice none 0 0) 0 (cellsOf []) := World.ownsRow_nil w base 5 1
theorem isB_cells {w : World} {x : Addr} {n : Nat} {l : List UInt8} (h : IsB w (some x) n l) : ∀ j u, (cellsOf l)[j]? = some u → w.cell? (x.add j) = some u := by
 intro j u hj
 have hlt : j < l.length := by have := (List.getElem?_eq_some_iff.1 hj).1; simpa [cellsOf] using this
 have := h.2.2 x rfl j hlt
 rw [this]
 simp [cellsOf, List.getElem?_eq_getElem hlt] at hj
 rw [← hj]
theorem cellsOf_oneCell (l : List UInt8) : ∀ u ∈ cellsOf l, u.oneCell' = true := by
 intro u hu
 simp only [cellsOf, List.mem_map] at hu
 obtain ⟨b, _, rfl⟩ := hu
 rfl
theorem cellsOf_append (l k : List UInt8) : cellsOf (l ++ k) = cellsOf l ++ cellsOf k := by simp [cellsOf]
theorem own_base {w : World} {base n e s : Nat} {v : Value} {xs : List Value} (h : w.ownsRow base e s v n xs) : ∀ k, v.ownBlock = some k → base ≤ k := by
 intro k hk
 rcases h.2 with ⟨rfl, _⟩ | ⟨g, cap, cur, rfl, hb, _⟩
 · cases hk
 · cases hk; exact hb
theorem owns_isB {w : World} {base n c : Nat} {a : Option Addr} {l : List UInt8} (h : w.ownsRow base 5 1 (.slice a n c) n (cellsOf l)) : IsB w a n l ∧ n ≤ c ∧ (a = none → c = 0) := by
 have hl : l.length = n := by have := h.1; simpa [cellsOf] using this
 rcases h.2 with ⟨e, rfl⟩ | ⟨g, cap, cur, e, _, _, hc, _⟩
 · cases e
   have : l = [] := List.length_eq_zero_iff.1 hl
   subst this
   exact ⟨⟨rfl, fun _ => rfl, fun _ e => by cases e⟩, Nat.le_refl _, fun _ => rfl⟩
 · cases e
   exact ⟨isB_of_owns h, hc, fun e => by cases e⟩
theorem owns_below {w w1 : World} {base n e s : Nat} {v : Value} {xs : List Value} (h : w.ownsRow base e s v n xs) (hb : Below w.heap.size w w1) : w1.ownsRow base e s v n xs := by
 obtain ⟨h1, h2⟩ := h
 refine ⟨h1, ?_⟩
 rcases h2 with h2 | ⟨g, cap, cur, hv, hg, hh, r⟩
 · exact .inl h2
 · refine .inr ⟨g, cap, cur, hv, hg, ?_, r⟩
   have hlt : g < w.heap.size := by
    by_cases hx : g < w.heap.size
    · exact hx
    · rw [Array.getElem?_eq_none (by omega)] at hh; cases hh
   rw [hb.block g hlt]; exact hh
theorem owns_len {w : World} {base n c : Nat} {a : Option Addr} {l : List UInt8} (h : w.ownsRow base 5 1 (.slice a n c) n (cellsOf l)) : n = l.length := by
 have := h.1; simpa [cellsOf] using this.symm
theorem IsB.head {w : World} {a : Option Addr} {n : Nat} {l : List UInt8} (h : IsB w a n l) (k : Nat) (hk : k ≤ n) (hn : 0 < n) : IsB w a k (l.take k) := by
 have h1 := h.1
 refine ⟨by simp; omega, fun e => by have := h.2.1 e; omega, fun x hx j hj => ?_⟩
 have hj' : j < l.length := by simp at hj; omega
 rw [h.2.2 x hx j hj']
 simp
theorem owns_mono {w : World} {base base' n e s : Nat} {v : Value} {xs : List Value} (h : w.ownsRow base e s v n xs) (hb : base' ≤ base) : w.ownsRow base' e s v n xs := by
 obtain ⟨h1, h2⟩ := h
 refine ⟨h1, ?_⟩
 rcases h2 with h2 | ⟨g, cap, cur, hv, hg, r⟩
 · exact .inl h2
 · exact .inr ⟨g, cap, cur, hv, by omega, r⟩
theorem append_two {w : World} {ops : Array Oper} {rest : List Oper} {o : Oper} {a : Go.Act} {Q : Exit → Go.Act → World → Prop} (hgd : o.guard = none) (s x : Operand)
 (ho : o.op = .call { callee := .builtin .append, args := #[s, x], argTypes := #[53, 53] })
 (base : Nat) (v : Value) (n : Nat) (l : List UInt8) (hs : a.eval s = v) (hown : w.ownsRow base 5 1 v n (cellsOf l))
 (xa : Option Addr) (m c : Nat) (k : List UInt8) (hx : a.eval x = .slice xa m c) (hB : IsB w xa m k) (hnil : xa = none → c = 0)
 (hbytes : n + m ≤ 140737488355328) (hbase : base ≤ w.heap.size)
 (h : ∀ b d w', w'.ownsRow base 5 1 (.slice b (n + m) d) (n + m) (cellsOf (l ++ k)) → w.grownBy w' v.ownBlock → wpList Tryz.prog ops Q rest (a.put o.dst (.slice b (n + m) d)) w') :
 wpList Tryz.prog ops Q (o :: rest) a w := by
 obtain ⟨i0, hi, hz0, hz1, hz2⟩ := info_parts info_u8
 have hk := hB.1
 cases xa with
 | none =>
   have hm := hB.2.1 rfl
   have hc := hnil rfl
   subst hm
   subst hc
   have : k = [] := List.length_eq_zero_iff.1 hk
   subst this
   obtain ⟨b, d, e, _⟩ := owns_slice hown
   refine wpList_append_own_none hgd s x 53 ho base 5 i0 1 Tryz.underlying53 hi v n _ hs hown hx ?_
   have := h b d w (by simpa [e] using hown) (World.grownBy.refl _ _)
   rw [e]
   simpa using this
 | some y =>
   refine wpList_append_own w hgd s x 53 ho base 5 i0 (.int .u8 0) 1 1 Tryz.underlying53 hi hz0 hz1 hz2 rfl (by decide) v n _ hs hown y m c (cellsOf k) hx (by simp [cellsOf, hk]) (isB_cells hB) (cellsOf_oneCell k) (by unfold maxLen; omega) (by omega) hbase ?_
   intro v' w' ho' hg _
   rw [← cellsOf_append] at ho'
   obtain ⟨b, d, rfl, _⟩ := owns_slice ho'
   exact h b d w' ho' hg
set_option maxHeartbeats 400000 in
theorem copy_u (w : World) (a : Option Addr) (n c : Nat) (l : List UInt8) (hn : n ≤ 140737488355328) (hc : a = none → c = 0) (hB : IsB w a n l) :
 Calls Tryz.prog 42 #[.slice a n c] w fun e w' => ∃ b d, e = .returned (.slice b n d) ∧
  w'.ownsRow w.heap.size 5 1 (.slice b n d) n (cellsOf l) ∧ Below w.heap.size w w' := by
 obtain ⟨i0, hi, hz0, hz1, hz2⟩ := info_parts info_u8
 have hl := hB.1
 cases a with
 | none =>
   have hn0 := hB.2.1 rfl
   have hc0 := hc rfl
   subst hn0
   subst hc0
   have : l = [] := List.length_eq_zero_iff.1 hl
   subst this
   go_enter Tryz.func42, Tryz.ntmps42
   go_wp2_with (at_builtin; refine wpList_append_own_none rfl _ _ 53 rfl w.heap.size 5 i0 1 Tryz.underlying53 hi _ 0 [] rfl (World.ownsRow_nil w _ _ _) rfl ?_)
   go_ret
   exact ⟨none, 0, rfl, own_nil _ _, Below.refl _ _⟩
 | some x =>
   go_enter Tryz.func42, Tryz.ntmps42
   go_wp2_with (at_builtin; refine wpList_append_own _ rfl _ _ 53 rfl w.heap.size 5 i0 (.int .u8 0) 1 1 Tryz.underlying53 hi hz0 hz1 hz2 rfl (by decide) _ 0 [] rfl (World.ownsRow_nil w _ _ _) x n c (cellsOf l) rfl (by simp [cellsOf, hl]) (isB_cells hB) (cellsOf_oneCell l) (by unfold maxLen; omega) (by omega) (Nat.le_refl _) ?_)
   intro v' w1 hown hgrow _
   try simp only [Nat.zero_add, List.nil_append] at hown
   obtain ⟨b, d, rfl, -⟩ := owns_slice hown
   go_wp2
   go_ret
   exact ⟨b, d, rfl, hown, (Below.refl _ _).grown hgrow (Nat.le_refl _) (fun k h => by cases h)⟩
theorem rBytes_isB {w : World} {P : Nat → Prop} {a : Option Addr} {n c : Nat} {l : List UInt8} (h : rBytes.rd w P [.slice a n c] l) : IsB w a n l ∧ n ≤ c ∧ (a = none → c = 0) ∧ n ≤ 140737488351232 := by
 obtain ⟨a', n', c', e, h1, h2, h3, h4, h5⟩ := h
 simp only [List.cons.injEq, Value.slice.injEq, and_true] at e
 obtain ⟨rfl, rfl, rfl⟩ := e
 refine ⟨⟨h1, fun e => by have := h3 e; omega, fun x hx j hj => ?_⟩, h2, h3, by have : n * 1 ≤ _ := h4; omega⟩
 obtain ⟨_, cj, g1, g2⟩ := h5 x hx j hj
 have g1' : cj = [.int .u8 (l[j].toNat : Int)] := g1
 subst g1'
 have := g2 0 _ rfl
 rwa [show j * rByte.size + 0 = j from by show j * 1 + 0 = j; omega] at this
theorem rdAll_bytes (w : World) (P : Nat → Prop) : ∀ l : List UInt8, rdAll rByte w P (cellsOf l) l
 | [] => rfl
 | b :: l => ⟨[.int .u8 (b.toNat : Int)], cellsOf l, rfl, rfl, rdAll_bytes w P l⟩
theorem rBytes_owned {w : World} {base n c : Nat} {a : Option Addr} {l : List UInt8} (h : w.ownsRow base 5 1 (.slice a n c) n (cellsOf l)) (hn : n ≤ 140737488351232) : rBytes.rd w (fun b => base ≤ b) [.slice a n c] l := by
 have hl : n = l.length := by have := h.1; simp [cellsOf] at this; omega
 obtain ⟨a', c', e, hr⟩ := rd_owned (A := rByte) (hs := by decide) h (rdAll_bytes w (fun b => base ≤ b) l) hl (by show n * 1 ≤ _; omega) (fun b e => (World.ownsRow.lt h b e).1)
 simp only [Value.slice.injEq] at e
 obtain ⟨rfl, _, rfl⟩ := e
 exact hr
theorem copy_r (w : World) (P : Nat → Prop) (a : Option Addr) (n c : Nat) (l : List UInt8) (h : rBytes.rd w P [.slice a n c] l) :
 Calls Tryz.prog 42 #[.slice a n c] w fun e w' => ∃ b d, e = .returned (.slice b n d) ∧ rBytes.rd w' (fun k => w.heap.size ≤ k) [.slice b n d] l ∧ Below w.heap.size w w' := by
 obtain ⟨h1, h2, h3, h4⟩ := rBytes_isB h
 refine (copy_u w a n c l (by omega) h3 h1).mono ?_
 rintro e w' ⟨b, d, rfl, ho, hb⟩
 exact ⟨b, d, rfl, rBytes_owned ho h4, hb⟩
theorem elem_sectors : ElemOf Tryz.prog 22 53 rBytes := elemOf (z := .slice none 0 0) Tryz.underlying22 (by kernel_rfl) rfl rfl rfl (by decide)
end Go.Proofs.YtkbmadoaomoojaaGreat
