/-
  Facts that the proof rests on, part 29. Conditions: those that each of them names.
-/
import Derived.Deep.RegionHeldLaw
import Derived.Test.YtkbmadoaomoojaaGreatK20
import Derived.Test.YtkbmadoaomoojaaGreatK27
namespace Go.Proofs.YtkbmadoaomoojaaGreat
set_option maxRecDepth 20000
open Go.RowKit
set_option linter.unusedVariables false
structure IsCnt (w : World) (base : Nat) (u u' : Value) (cn : Cnt) : Prop where
 items : OwnI 45 w base u cn.1
 kids : OwnB 133 w base u' cn.2
theorem IsCnt.below {w w' : World} {base : Nat} {u u' : Value} {cn : Cnt} (h : IsCnt w base u u' cn) (b : Below w.heap.size w w') : IsCnt w' base u u' cn := ⟨h.items.below b, h.kids.below b⟩
theorem IsCnt.mono {w : World} {base base' : Nat} {u u' : Value} {cn : Cnt} (h : IsCnt w base u u' cn) (b : base' ≤ base) : IsCnt w base' u u' cn := ⟨h.items.mono b, h.kids.mono b⟩
theorem IsCnt.keep1 {w w' : World} {base : Nat} {u u' : Value} {cn : Cnt} (h : IsCnt w base u u' cn) (hk : ∀ b, u.ownBlock = some b ∨ u'.ownBlock = some b → w'.heap[b]? = w.heap[b]?) : IsCnt w' base u u' cn := ⟨h.items.keep1 (fun b e => hk b (.inl e)), h.kids.keep1 (fun b e => hk b (.inr e))⟩
theorem OwnI.typed {e : TypeId} {w : World} {base : Nat} {v : Value} {l : List Itm} (h : OwnI e w base v l) : ∀ b, v.ownBlock = some b → ∃ c z, w.heap[b]? = some (.cells c e z) := fun b hb => by
 rcases h.row.2 with ⟨rfl, h0⟩ | ⟨g, cap, cur, rfl, g1, g2, -⟩
 · cases hb
 · cases hb; exact ⟨_, _, g2⟩
theorem OwnB.typed {e : TypeId} {w : World} {base : Nat} {v : Value} {l : List Brn} (h : OwnB e w base v l) : ∀ b, v.ownBlock = some b → ∃ c z, w.heap[b]? = some (.cells c e z) := fun b hb => by
 rcases h.row.2 with ⟨rfl, h0⟩ | ⟨g, cap, cur, rfl, g1, g2, -⟩
 · cases hb
 · cases hb; exact ⟨_, _, g2⟩
theorem IsCnt.apartW {w : World} {base base' g : Nat} {u u' v kv tv : Value} {s : Pgs} {cn : Cnt} (h : IsCnt w base u u' cn) (hW : Wr w g base' v s kv tv) : ∀ b, u.ownBlock = some b ∨ u'.ownBlock = some b → b ∉ WS g v := fun b hb e => by
 have h1 : ∃ c z t, w.heap[b]? = some (.cells c t z) ∧ (t = 45 ∨ t = 133) := by
  rcases hb with hb | hb
  · obtain ⟨c, z, h1⟩ := h.items.typed b hb; exact ⟨c, z, _, h1, .inl rfl⟩
  · obtain ⟨c, z, h1⟩ := h.kids.typed b hb; exact ⟨c, z, _, h1, .inr rfl⟩
 obtain ⟨c, z, t, h2, h3⟩ := h1
 rcases mem_WS.1 e with rfl | e
 · have := hW.row.eq
   rw [h2] at this
   cases this
   rcases h3 with h3 | h3 <;> cases h3
 · obtain ⟨c', z', h4⟩ := hW.pgs.typed b e
   rw [h2] at h4
   cases h4
   rcases h3 with h3 | h3 <;> cases h3
theorem IsCnt.rd {w : World} {base : Nat} {a a' : Option Addr} {n c n' c' : Nat} {cn : Cnt} (h : IsCnt w base (.slice a n c) (.slice a' n' c') cn) (h1 : cn.1.length ≤ 1000000) (h2 : cn.2.length ≤ 1000000) :
 rItms.rd w (fun b => (Value.slice a n c).ownBlock = some b ∨ (Value.slice a' n' c').ownBlock = some b) [.slice a n c] cn.1 ∧ rBrns.rd w (fun b => (Value.slice a n c).ownBlock = some b ∨ (Value.slice a' n' c').ownBlock = some b) [.slice a' n' c'] cn.2 := by
 obtain ⟨xa, xc, e1, r1⟩ := rd_owned (A := rItm) (hs := by decide) (P := fun b => (Value.slice a n c).ownBlock = some b ∨ (Value.slice a' n' c').ownBlock = some b) h.items.row (rItms_all.2 rfl) rfl (by show cn.1.length * 16 ≤ _; omega) (fun b e => .inl e)
 obtain ⟨ya, yc, e2, r2⟩ := rd_owned (A := rBrn) (hs := by decide) (P := fun b => (Value.slice a n c).ownBlock = some b ∨ (Value.slice a' n' c').ownBlock = some b) h.kids.row (rBrns_all.2 rfl) rfl (by show cn.2.length * 16 ≤ _; omega) (fun b e => .inr e)
 simp only [Value.slice.injEq] at e1 e2
 obtain ⟨rfl, rfl, rfl⟩ := e1
 obtain ⟨rfl, rfl, rfl⟩ := e2
 exact ⟨r1, r2⟩
namespace Tr
theorem shape {n : Nod} (h : Lf.Ok n) : n.2 = [] ∨ n.2.length = n.1.length + 1 := by
 rcases h.kids with k | k
 · exact .inl (by simpa [Lf.isLeaf] using k)
 · exact .inr k
theorem nodeE_ok {s : Pgs} {p : Int} {n : Nod} (h : nodeE s p = .ok n) : Lf.Ok n := by
 unfold nodeE at h
 split at h
 case isTrue hh =>
  cases h
  exact Lf.ok_iff.1 (Lf.enc_decode hh.2.2).1
 case isFalse => cases h
end Tr
theorem nodeT_u (w : World) (P : Nat → Prop) (pa : Option Addr) (pc : Nat) (s : Pgs) (hR : rSectors.rd w P [.slice pa s.length pc] s) (p : Int) (h0 : -9223372036854775808 ≤ p) (h1 : p ≤ 9223372036854775807) :
 Calls Tryz.prog 75 #[.slice pa s.length pc, .int .i64 p] w fun e w' => Below w.heap.size w w' ∧
  (∀ n, Tr.nodeE s p = .ok n → ∃ ia il ic ka kl kc, e = .returned (.agg #[.slice ia il ic, .slice ka kl kc]) ∧ OwnI 45 w' w.heap.size (.slice ia il ic) n.1 ∧ OwnK 3 w' w.heap.size (.slice ka kl kc) n.2) ∧ (∀ x, Tr.nodeE s p = .error x → e = broke x) := by
 by_cases hp : 1 ≤ p ∧ p ≤ s.length
 · obtain ⟨q, rfl⟩ : ∃ q : Nat, p = (q : Int) + 1 := ⟨(p - 1).toNat, by omega⟩
   refine (nodeT_in w P pa pc s hR q (by omega)).mono ?_
   rintro e w' ⟨b, k1, k2⟩
   refine ⟨b, fun n hn => ?_, fun x hx => ?_⟩
   · unfold Tr.nodeE at hn
     split at hn
     case isTrue hh => cases hn; exact k1 hh.2.2
     case isFalse => cases hn
   · unfold Tr.nodeE at hx
     split at hx
     case isTrue => cases hx
     case isFalse hh =>
      cases hx
      exact k2 (fun e => hh ⟨hp.1, hp.2, e⟩)
 · refine (nodeT_out w pa s.length pc p (by have := rSectors_len hR; omega) h0 h1 hp).mono ?_
   rintro e w' ⟨b, rfl⟩
   have hE : Tr.nodeE s p = .error 9 := by unfold Tr.nodeE; rw [if_neg (fun h => hp ⟨h.1, h.2.1⟩)]
   refine ⟨b, (fun n hn => by rw [hE] at hn; cases hn), (fun x hx => by rw [hE] at hx; cases hx; rfl)⟩
theorem contentOf_u (w : World) (base : Nat) (ia ka : Option Addr) (il ic kl kc : Nat) (l : List Itm) (ks : List Int) (fr : UInt64) (hI : OwnI 45 w base (.slice ia il ic) l) (hK : OwnK 3 w base (.slice ka kl kc) ks) (hl : l.length ≤ 3) (hs : ks = [] ∨ ks.length = l.length + 1) (hb : base ≤ w.heap.size) :
 Calls Tryz.prog 80 #[.agg #[.slice ia il ic, .slice ka kl kc], .int .u64 (fr.toNat : Int)] w fun e w' => ∃ ca cn cc da dn dc, e = .returned (.agg #[.slice ca cn cc, .slice da dn dc]) ∧ IsCnt w' base (.slice ca cn cc) (.slice da dn dc) (Tr.contOf (l, ks) fr) ∧ Below w.heap.size w w' := by
 have e1 : il = l.length := by obtain ⟨a, c, e, -⟩ := hI.slice; simp only [Value.slice.injEq] at e; exact e.2.1
 have e2 : kl = ks.length := by obtain ⟨a, c, e, -⟩ := hK.slice; simp only [Value.slice.injEq] at e; exact e.2.1
 rcases hs with rfl | hs
 · obtain rfl : kl = 0 := e2
   refine (contentOf_leaf w ia ka il ic kc fr).mono ?_
   rintro e w' ⟨rfl, b⟩
   exact ⟨_, _, _, _, _, _, rfl, ⟨hI.below b, OwnB.nil _ _ _⟩, b⟩
 · refine (contentOf_kids w (fun b => base ≤ b) ia ka il ic kl kc l ks fr (hI.rd (by omega)) (hK.rd (by omega)) (by omega) (by omega)).mono ?_
   rintro e w' ⟨ba, bn, bc, rfl, ho, b⟩
   have hc : (Tr.contOf (l, ks) fr).1 = [] := by unfold Tr.contOf; rw [if_neg (fun e => by simp only at e; rw [e] at hs; simp at hs)]
   refine ⟨_, _, _, _, _, _, rfl, ⟨?_, ho.mono hb⟩, b⟩
   rw [hc]
   exact OwnI.nil _ _ _
end Go.Proofs.YtkbmadoaomoojaaGreat
